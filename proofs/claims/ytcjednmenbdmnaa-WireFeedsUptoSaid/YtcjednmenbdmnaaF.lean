import Derived.Test.YtcjednmenbdmnaaE
namespace Go.Proofs.Ytcjednmenbdmnaa
open Go.RowKit Go.Mem Go.Wire

theorem own_base {w : World} {base base' : Nat} {e : TypeId} {size n : Nat} {v : Value} {xs : List Value} (h : w.ownsRow base e size v n xs) (hb : base' ≤ base) : w.ownsRow base' e size v n xs := by
  refine ⟨h.1, ?_⟩
  rcases h.2 with hn | ⟨g, cap, cur, hv, hg, r⟩
  · exact .inl hn
  · exact .inr ⟨g, cap, cur, hv, by omega, r⟩
theorem ItemsT.base {e : TypeId} {w : World} {base base' : Nat} {I : Nat → Prop} {v : Value} {its : List It} (h : ItemsT e w base I v its) (hb : base' ≤ base) : ItemsT e w base' I v its := by
  obtain ⟨l, h1, h2, h3⟩ := h
  exact ⟨l, h1, own_base h2 hb, h3⟩

def bytesOf : It → List Int
  | none => []
  | some bs => bs
theorem PairOk.rd {w : World} {I : Nat → Prop} {x : Pair} (h : PairOk w I x) : ∃ A c, x.2 = .slice A (bytesOf x.1).length c ∧ Rd w 1 A (bytesOf x.1).length ((bytesOf x.1).map u8v) := by
  unfold PairOk at h
  split at h
  · rename_i e
    rw [e]
    exact ⟨_, _, h, Rd.zero _ _ _⟩
  · rename_i bs e
    rw [e]
    obtain ⟨A, c, hv, -, -, hrd, -⟩ := own_rd h.1
    exact ⟨A, c, hv, hrd⟩

/-- items that a slice at A tells, read alone -/
def Tells (w : World) (A : Option Addr) (n : Nat) (its : List It) : Prop :=
  ∃ l : List Pair, l.map (·.1) = its ∧ Rd w 2 A n (l.flatMap pairCells) ∧ l.length = n ∧ ∀ x ∈ l, ∃ A c, x.2 = .slice A (bytesOf x.1).length c ∧ Rd w 1 A (bytesOf x.1).length ((bytesOf x.1).map u8v)
theorem ItemsT.tells {e : TypeId} {w : World} {base : Nat} {I : Nat → Prop} {v : Value} {its : List It} (h : ItemsT e w base I v its) : ∃ A c, v = .slice A its.length c ∧ Tells w A its.length its ∧ c ≤ maxLen := by
  obtain ⟨l, h1, h2, h3⟩ := h
  obtain ⟨A, c, hv, hc, hm, hrd, -⟩ := own_rd h2
  exact ⟨A, c, hv, ⟨l, h1, hrd, by rw [← h1, List.length_map], fun x hx => (h3 x hx).rd⟩, hm⟩
/-- what an item's cells hold -/
theorem Tells.at_ {w : World} {A : Option Addr} {n : Nat} {its : List It} (h : Tells w A n its) {k : Nat} (hk : k < n) :
    ∃ b off it A' c', A = some ⟨b, off, none⟩ ∧ its[k]? = some it ∧ w.cell? ⟨b, off + k * 2, none⟩ = some (.bool it.isNone) ∧ w.cell? ⟨b, off + k * 2 + 1, none⟩ = some (.slice A' (bytesOf it).length c') ∧
      Rd w 1 A' (bytesOf it).length ((bytesOf it).map u8v) := by
  obtain ⟨l, h1, h2, h3, h4⟩ := h
  obtain ⟨b, off, rfl, hc⟩ := h2.2 (by omega)
  have hkl : k < l.length := by omega
  obtain ⟨A', c', e, hrd⟩ := h4 l[k] (List.getElem_mem hkl)
  refine ⟨b, off, l[k].1, A', c', rfl, ?_, hc _ _ (pair_at l k hkl).1, ?_, hrd⟩
  · rw [← h1, List.getElem?_map, List.getElem?_eq_getElem hkl]
    rfl
  · rw [← e]
    exact hc _ _ (pair_at l k hkl).2

theorem items_true (A B : Option Addr) (n ca cb : Nat) (its : List It) (w : World) (ha : Tells w A n its) (hb : Tells w B n its) (hn : n ≤ 1099511627776) (hl : ∀ it ∈ its, (bytesOf it).length ≤ 1099511627776) :
    Calls Try.prog 8 #[.slice A n ca, .slice B n cb] w fun e w' => e = .returned (.bool true) ∧ ∃ m, w' = w.drewN m := by
  have HA := Lib.hid ha
  have HB := Lib.hid hb
  have HL := Lib.hid hl
  clear ha hb hl
  have hz : ((n : Int) != (n : Int)) = false := by simp
  go_enter Try.func8, Try.ntmps8
  go_wp2
  go_loopw [5] (fun v5 wr => ∃ k : Nat, k ≤ n ∧ v5 = .int .i64 k ∧ ∃ m, wr = w.drewN m) (fun v5 _ => n - (intOf v5).toNat)
  case atStart => exact ⟨0, Nat.zero_le _, rfl, 0, rfl⟩
  case round =>
    obtain ⟨k, hk, rfl, m, hwr⟩ := hrel
    have HW := Lib.hid hwr
    by_cases hlt : k < n
    · have HA1 : Tells wr A n its := by rw [hwr]; exact HA.out
      have HB1 : Tells wr B n its := by rw [hwr]; exact HB.out
      obtain ⟨b, off, it, A', c', rfl, hit, d1, d2, r1⟩ := HA1.at_ hlt
      obtain ⟨b', off', it', B', e', rfl, hit', d3, d4, r2⟩ := HB1.at_ hlt
      have : it' = it := by rw [hit] at hit'; injection hit' with h; exact h.symm
      subst this
      have hle := HL.out it' (List.mem_of_getElem? hit)
      have hsame := Lib.hid (fun W => fun (h : ∃ m, W = wr.drewN m) => same_true A' B' _ c' e' (bytesOf it') W (by obtain ⟨m, rfl⟩ := h; exact r1) (by obtain ⟨m, rfl⟩ := h; exact r2) hle)
      have hi0 : (0 : Int) ≤ (k : Int) := Int.natCast_nonneg _
      have hi1 : (k : Int) < (n : Int) := by omega
      have hbn : (it'.isNone != it'.isNone) = false := by simp
      clear HA1 HB1 hit hit' r1 r2 hwr
      go_wp2
      go_quiet ((go_at_call 10; exact Calls.quiet_of (hsame.out _ ⟨_, rfl⟩)))
      go_wp2
      go_roundw
      case rel => exact ⟨k + 1, by omega, by go_num, m + nq, by rw [HW.out, World.drewN_drewN]⟩
      case measure => simp [intOf]; omega
    · have hkn : k = n := by omega
      clear hwr
      subst hkn
      go_wp2
      go_ret
      exact ⟨rfl, m, HW.out⟩

/-- Split of the whole stream bs: the splitter at its begin, run over it -/
theorem split_any (A : Option Addr) (n cap : Nat) (bs : List Int) (w : World) (hb : ∀ x ∈ bs, 0 ≤ x ∧ x ≤ 255) (hbn : bs.length = n) (hr : Rd w 1 A n (bs.map u8v)) (hn : n ≤ 1099511627776) :
    Calls Try.prog 6 #[.slice A n cap] w fun e w' => ∃ v r, e = .returned (.tuple #[v, r]) ∧ ItemsT 44 w' w.heap.size (fun _ => True) v (runW st0 bs).2 ∧
      w'.ownsRow w.heap.size 5 1 r (runW st0 bs).1.held.length ((runW st0 bs).1.held.map u8v) ∧ Fr w w' (fun _ => False) := by
  have HB := Lib.hid hb
  have HN := Lib.hid hbn
  have HR := Lib.hid hr
  clear hb hbn hr
  have i0 : Inv st0 := by constructor <;> simp [st0]
  have hi := (i0.run bs HB.out).held
  go_enter Try.func6, Try.ntmps6
  go_wp2_with fail
  refine (new_any w).mono ?_
  rintro e w1 ⟨p, rfl, hs1, hf1, hp⟩
  have HS1 := Lib.hid hs1
  have HF1 := Lib.hid hf1
  have HR1 := Lib.hid (HR.out.fr hf1 (fun _ _ _ _ h => h))
  have HI : Hid (∀ b off, A = some ⟨b, off, none⟩ → 0 < n → Inert p (.slice none 0 0) b) := fun b off e h => by
    refine ⟨fun x => ?_, by simp [Value.ownBlock]⟩
    have hr := HR.out
    rw [e] at hr
    have := Rd.lt hr h (by omega)
    omega
  clear hs1 hf1
  go_wp2_with fail
  refine (feed_spl HS1.out i0 A n cap bs HB.out HN.out HR1.out HI.out hn).mono ?_
  rintro e w2 ⟨v, hv', rfl, hs2, hm2, hi2⟩
  have HS2 := Lib.hid hs2
  have HM2 := Lib.hid hm2
  have HI2 := Lib.hid hi2
  clear hs2 hm2 hi2
  go_wp2_with fail
  refine (rest_spl HS2.out (by omega)).mono ?_
  rintro e w3 ⟨r, rfl, hown, hf3⟩
  have HO := Lib.hid hown
  clear hown
  go_wp2_with fail
  go_ret2
  have f2 : Fr w w2 (fun _ => False) := HF1.out.trans HM2.out.fr (fun _ _ h => h) (fun k hk h => by
    rcases h with h | h
    · omega
    · simp [Value.ownBlock] at h)
  refine ⟨v, r, rfl, ?_, own_base HO.out f2.size, f2.trans hf3 (fun _ _ h => h) (fun _ _ h => h)⟩
  exact ((HI2.out.fr hf3 (fun _ _ h => h) (fun _ _ h => h) (fun _ _ h => trivial))).base HF1.out.size
end Go.Proofs.Ytcjednmenbdmnaa
