import Derived.Test.YtcjednmenbdmnaaDoorD
namespace Go.Proofs.YtcjednmenbdmnaaDoor
open Go.RowKit Go.Mem Go.Wire

theorem pair_at (l : List Pair) (k : Nat) (h : k < l.length) : (l.flatMap pairCells)[k * 2]? = some (.bool l[k].1.isNone) ∧ (l.flatMap pairCells)[k * 2 + 1]? = some l[k].2 := by
  induction l generalizing k with
  | nil => simp at h
  | cons x l ih =>
    cases k with
    | zero => simp [pairCells]
    | succ k =>
      have := ih k (by simpa using h)
      simp only [List.flatMap_cons, pairCells, List.getElem_cons_succ]
      rw [show (k + 1) * 2 = k * 2 + 2 by omega, show k * 2 + 2 + 1 = k * 2 + 1 + 2 by omega]
      simpa using this

theorem PairOk.any {w : World} {I I' : Nat → Prop} {x : Pair} (h : PairOk w I x) (hi : ∀ g, I g → I' g) : PairOk w I' x := by
  unfold PairOk at h ⊢
  split at h
  · exact h
  · exact ⟨h.1, fun g hg => hi g (h.2 g hg)⟩
theorem PairOk.slice {w : World} {I : Nat → Prop} {x : Pair} (h : PairOk w I x) : ∃ A n c, x.2 = .slice A n c := by
  unfold PairOk at h
  split at h
  · exact ⟨_, _, _, h⟩
  · obtain ⟨A, c, e⟩ := own_slice h.1
    exact ⟨A, _, c, e⟩

theorem own_base {w : World} {base base' : Nat} {e : TypeId} {size n : Nat} {v : Value} {xs : List Value} (h : w.ownsRow base e size v n xs) (hb : base' ≤ base) : w.ownsRow base' e size v n xs := by
  refine ⟨h.1, ?_⟩
  rcases h.2 with hn | ⟨g, cap, cur, hv, hg, r⟩
  · exact .inl hn
  · exact .inr ⟨g, cap, cur, hv, by omega, r⟩
theorem ItemsT.base {e : TypeId} {w : World} {base base' : Nat} {I : Nat → Prop} {v : Value} {its : List It} (h : ItemsT e w base I v its) (hb : base' ≤ base) : ItemsT e w base' I v its := by
  obtain ⟨l, h1, h2, h3⟩ := h
  exact ⟨l, h1, own_base h2 hb, h3⟩

def bytesOf : It → List Int
  | none => []
  | some bs => bs
theorem PairOk.rd {w : World} {I : Nat → Prop} {x : Pair} (h : PairOk w I x) : ∃ A c, x.2 = .slice A (bytesOf x.1).length c ∧ Rd w 1 A (bytesOf x.1).length ((bytesOf x.1).map u8v) := by
  unfold PairOk at h
  split at h
  · rename_i e
    rw [e]
    exact ⟨_, _, h, Rd.zero _ _ _⟩
  · rename_i bs e
    rw [e]
    obtain ⟨A, c, hv, -, -, hrd, -⟩ := own_rd h.1
    exact ⟨A, c, hv, hrd⟩

/-- items that a slice at A tells, read alone -/
def Tells (w : World) (A : Option Addr) (n : Nat) (its : List It) : Prop :=
  ∃ l : List Pair, l.map (·.1) = its ∧ Rd w 2 A n (l.flatMap pairCells) ∧ l.length = n ∧ ∀ x ∈ l, ∃ A c, x.2 = .slice A (bytesOf x.1).length c ∧ Rd w 1 A (bytesOf x.1).length ((bytesOf x.1).map u8v)
theorem ItemsT.tells {e : TypeId} {w : World} {base : Nat} {I : Nat → Prop} {v : Value} {its : List It} (h : ItemsT e w base I v its) : ∃ A c, v = .slice A its.length c ∧ Tells w A its.length its ∧ c ≤ maxLen := by
  obtain ⟨l, h1, h2, h3⟩ := h
  obtain ⟨A, c, hv, hc, hm, hrd, -⟩ := own_rd h2
  exact ⟨A, c, hv, ⟨l, h1, hrd, by rw [← h1, List.length_map], fun x hx => (h3 x hx).rd⟩, hm⟩
/-- what an item's cells hold -/
theorem Tells.at_ {w : World} {A : Option Addr} {n : Nat} {its : List It} (h : Tells w A n its) {k : Nat} (hk : k < n) :
    ∃ b off it A' c', A = some ⟨b, off, none⟩ ∧ its[k]? = some it ∧ w.cell? ⟨b, off + k * 2, none⟩ = some (.bool it.isNone) ∧ w.cell? ⟨b, off + k * 2 + 1, none⟩ = some (.slice A' (bytesOf it).length c') ∧
      Rd w 1 A' (bytesOf it).length ((bytesOf it).map u8v) := by
  obtain ⟨l, h1, h2, h3, h4⟩ := h
  obtain ⟨b, off, rfl, hc⟩ := h2.2 (by omega)
  have hkl : k < l.length := by omega
  obtain ⟨A', c', e, hrd⟩ := h4 l[k] (List.getElem_mem hkl)
  refine ⟨b, off, l[k].1, A', c', rfl, ?_, hc _ _ (pair_at l k hkl).1, ?_, hrd⟩
  · rw [← h1, List.getElem?_map, List.getElem?_eq_getElem hkl]
    rfl
  · rw [← e]
    exact hc _ _ (pair_at l k hkl).2

theorem Tells.fr {w w' : World} {A : Option Addr} {n : Nat} {its : List It} (h : Tells w A n its) (hf : Fr w w' (fun _ => False)) : Tells w' A n its := by
  obtain ⟨l, h1, h2, h3, h4⟩ := h
  refine ⟨l, h1, h2.fr hf (fun _ _ _ _ h => h), h3, fun x hx => ?_⟩
  obtain ⟨A', c', e, hr⟩ := h4 x hx
  exact ⟨A', c', e, hr.fr hf (fun _ _ _ _ h => h)⟩

/-- Split of the whole stream bs: the splitter at its begin, run over it -/
theorem split_any (A : Option Addr) (n cap : Nat) (bs : List Int) (w : World) (hb : ∀ x ∈ bs, 0 ≤ x ∧ x ≤ 255) (hbn : bs.length = n) (hr : Rd w 1 A n (bs.map u8v)) (hn : n ≤ 1099511627776) :
    Calls Tryd.prog 10 #[.slice A n cap] w fun e w' => ∃ v r, e = .returned (.tuple #[v, r]) ∧ ItemsT 34 w' w.heap.size (fun _ => True) v (runW st0 bs).2 ∧
      w'.ownsRow w.heap.size 5 1 r (runW st0 bs).1.held.length ((runW st0 bs).1.held.map u8v) ∧ Fr w w' (fun _ => False) := by
  have HB := Lib.hid hb
  have HN := Lib.hid hbn
  have HR := Lib.hid hr
  clear hb hbn hr
  have i0 : Inv st0 := by constructor <;> simp [st0]
  have hi := (i0.run bs HB.out).held
  go_enter Tryd.func10, Tryd.ntmps10
  go_wp2_with fail
  refine (new_any w).mono ?_
  rintro e w1 ⟨p, rfl, hs1, hf1, hp⟩
  have HS1 := Lib.hid hs1
  have HF1 := Lib.hid hf1
  have HR1 := Lib.hid (HR.out.fr hf1 (fun _ _ _ _ h => h))
  have HI : Hid (∀ b off, A = some ⟨b, off, none⟩ → 0 < n → Inert p (.slice none 0 0) b) := fun b off e h => by
    refine ⟨fun x => ?_, by simp [Value.ownBlock]⟩
    have hr := HR.out
    rw [e] at hr
    have := Rd.lt hr h (by omega)
    omega
  clear hs1 hf1
  go_wp2_with fail
  refine (feed_spl HS1.out i0 A n cap bs HB.out HN.out HR1.out HI.out hn).mono ?_
  rintro e w2 ⟨v, hv', rfl, hs2, hm2, hi2⟩
  have HS2 := Lib.hid hs2
  have HM2 := Lib.hid hm2
  have HI2 := Lib.hid hi2
  clear hs2 hm2 hi2
  go_wp2_with fail
  refine (rest_spl HS2.out (by omega)).mono ?_
  rintro e w3 ⟨r, rfl, hown, hf3⟩
  have HO := Lib.hid hown
  clear hown
  go_wp2_with fail
  go_ret2
  have f2 : Fr w w2 (fun _ => False) := HF1.out.trans HM2.out.fr (fun _ _ h => h) (fun k hk h => by
    rcases h with h | h
    · omega
    · simp [Value.ownBlock] at h)
  refine ⟨v, r, rfl, ?_, own_base HO.out f2.size, f2.trans hf3 (fun _ _ h => h) (fun _ _ h => h)⟩
  exact ((HI2.out.fr hf3 (fun _ _ h => h) (fun _ _ h => h) (fun _ _ h => trivial))).base HF1.out.size
end Go.Proofs.YtcjednmenbdmnaaDoor
