import Derived.Test.YtgfmodfakcbgfaaDoorRnu
namespace Go.Proofs.YtgfmodfakcbgfaaDoor
open Go.RowKit Go.Mem Go.Clk

def cut (l : Bs) (a b : Nat) : Bs := (l.take b).drop a
theorem cut_eq (l : Bs) (a b : Nat) : cut l a b = (l.drop a).take (b - a) := by
  unfold cut
  rw [List.drop_take]
theorem str_ext (l : Bs) (a b : Nat) : (⟨l.toArray⟩ : ByteArray).extract a b = ⟨(cut l a b).toArray⟩ := by
  apply ByteArray.ext
  apply Array.toList_inj.1
  simp [cut, List.extract, List.drop_take]
/-- the slice v is the call's own and holds these texts -/
def Strs (w : World) (base : Nat) (v : Value) (vs : List Bs) : Prop := w.ownsRow base 9 1 v vs.length (vs.map strV)
theorem World.ownsRow.keepNew {w : World} {base : Nat} {e : TypeId} {size n : Nat} {v : Value} {xs : List Value} (h : w.ownsRow base e size v n xs) (o : Obj) : (w.alloc o).ownsRow base e size v n xs := (Fr.new w o (fun _ => False)).own h (fun _ _ h => h)
def Free (x : Bs) : Prop := ∀ c ∈ x, c ≠ 58
theorem parts_next {l : Bs} {f i : Nat} {done : List Bs} (h1 : f ≤ i) (h2 : l[i]? = some 58) (hd : splitC l = done ++ splitC (l.drop f)) (h0 : Free (cut l f i)) :
    splitC l = (done ++ [cut l f i]) ++ splitC (l.drop (i + 1)) ∧ Free (cut l (i + 1) (i + 1)) := by
  obtain ⟨h3, h4⟩ := List.getElem?_eq_some_iff.1 h2
  have e : l.drop f = cut l f i ++ 58 :: l.drop (i + 1) := by
    have e1 := List.take_append_drop (i - f) (l.drop f)
    rw [List.drop_drop, show f + (i - f) = i by omega, ← cut_eq, List.drop_eq_getElem_cons h3, h4] at e1
    exact e1.symm
  refine ⟨?_, by simp [cut_eq, Free]⟩
  rw [hd, e, split_cut h0]
  simp
theorem parts_same {l : Bs} {f i : Nat} {c : UInt8} (h1 : f ≤ i) (h2 : l[i]? = some c) (hc : c ≠ 58) (h0 : Free (cut l f i)) : Free (cut l f (i + 1)) := by
  obtain ⟨h3, h4⟩ := List.getElem?_eq_some_iff.1 h2
  have e : cut l f (i + 1) = cut l f i ++ [c] := by
    rw [cut, List.take_succ_eq_append_getElem h3, h4, List.drop_append_of_le_length (by rw [List.length_take]; omega)]
    rfl
  rw [e]
  intro d hd
  rcases List.mem_append.1 hd with h | h
  · exact h0 d h
  · simp at h
    rw [h]
    exact hc
theorem parts_last {l : Bs} {f : Nat} {done : List Bs} (hd : splitC l = done ++ splitC (l.drop f)) (h0 : Free (cut l f l.length)) : done ++ [cut l f l.length] = splitC l := by
  have e : cut l f l.length = l.drop f := by simp [cut]
  rw [e] at h0 ⊢
  rw [hd, split_one h0]
def PartsOf (w : World) (l : Bs) (e : Ending) (w' : World) : Prop := ∃ v, e = .returned v ∧ Strs w' w.heap.size v (splitC l) ∧ Fr w w' (fun _ => False)
def PInv (w : World) (l : Bs) (v3 v4 v5 : Value) (wr : World) : Prop := ∃ (i f : Nat) (done : List Bs), i ≤ l.length + 1 ∧ f ≤ i ∧ v5 = .int .i64 (i : Int) ∧ v4 = .int .i64 (f : Int) ∧ Strs wr w.heap.size v3 done ∧
  ((i ≤ l.length ∧ splitC l = done ++ splitC (l.drop f) ∧ Free (cut l f i)) ∨ (i = l.length + 1 ∧ done = splitC l)) ∧ done.length ≤ i ∧ Fr w wr (fun _ => False)
set_option maxHeartbeats 1000000 in
theorem parts_any (l : Bs) (w : World) (hl : l.length ≤ 20000) : Calls Tryd.prog 31 #[strV l] w (PartsOf w l) := by
  have hz := str_size l
  go_enter Tryd.func31, Tryd.ntmps31
  go_wp2_with fail
  go_loopw [3, 4, 5] (fun v3 v4 v5 wr => PInv w l v3 v4 v5 wr) (fun _ _ v5 _ => l.length + 1 - (intOf v5).toNat)
  case atStart => exact ⟨0, 0, [], Nat.zero_le _, Nat.le_refl _, rfl, rfl, World.ownsRow_nil _ _ _ _, .inl ⟨Nat.zero_le _, by simp, by simp [cut, Free]⟩, by simp, Fr.refl _ _⟩
  case round =>
    obtain ⟨i, f, done, hil, hfi, rfl, rfl, hown, hst, hdl, hf⟩ := hrel
    obtain ⟨i0, hi0, hz0, hz1, hz2⟩ := info_parts infoS
    have HO := Lib.hid hown
    have HF := Lib.hid hf
    have hws := hf.size
    obtain ⟨A3, c3, rfl⟩ := own_slice hown
    clear hown hf
    have b0 : (0 : Int) ≤ (f : Int) := by omega
    have b1 : (f : Int) ≤ (i : Int) := by omega
    by_cases hle : i ≤ l.length
    · have b2 : (i : Int) ≤ (l.length : Int) := by omega
      obtain ⟨hd, h0⟩ : splitC l = done ++ splitC (l.drop f) ∧ Free (cut l f i) := by
        rcases hst with ⟨-, h1, h2⟩ | ⟨h1, -⟩
        · exact ⟨h1, h2⟩
        · omega
      have HS5 := Lib.hid (World.ownsRow.keepNew HO.out (.cells #[.string ((⟨l.toArray⟩ : ByteArray).extract f i)] 9))
      have HCE := Lib.hid (show Value.string ((⟨l.toArray⟩ : ByteArray).extract f i) = strV (cut l f i) by rw [str_ext])
      by_cases hlt : i < l.length
      · have hlt' : i < (⟨l.toArray⟩ : ByteArray).size := by rw [hz]; exact hlt
        have hget : (⟨l.toArray⟩ : ByteArray)[i]'hlt' = l[i]'hlt := rfl
        have hget? : l[i]? = some (l[i]'hlt) := List.getElem?_eq_getElem hlt
        obtain ⟨c, hc⟩ : ∃ c, l[i]'hlt = c := ⟨_, rfl⟩
        rw [hc] at hget hget?
        have e0 : ((i : Int) == (l.length : Int)) = false := by simp; omega
        by_cases hc10 : c = 58
        · subst hc10
          have e10 : (((((⟨l.toArray⟩ : ByteArray)[i]'hlt').toNat : Nat) : Int) == 58) = true := by rw [hget]; rfl
          have HS := Lib.hid (parts_next hfi hget? hd h0)
          clear hget hget? hc hst hd h0
          go_wp2_with (at_builtin; refine wpList_append_rd _ rfl (.tmp 22) (.tmp 27) 48 rfl w.heap.size 9 i0 _ 1 16 Tryd.underlying48 hi0 hz0 hz1 hz2 rfl (by decide) _ _ _ rfl HS5.out _ 1 1 [.string ((⟨l.toArray⟩ : ByteArray).extract f i)] rfl (rd_new wr 9 (0, 0) [.string ((⟨l.toArray⟩ : ByteArray).extract f i)]) (by intro u hu; simp at hu; subst hu; rfl) (by simp only [maxLen]; omega) (by omega) (by simp; omega) ?_; intro v6 w6 hown6 hg6 _)
          have hf6 := ((Fr.new wr (.cells #[.string ((⟨l.toArray⟩ : ByteArray).extract f i)] 9) (fun _ => False))).trans (Fr.ofGrown hg6) (U := fun k => w.heap.size ≤ k) (fun _ _ h => h.elim) (fun k _ e => (HS5.out.lt k e.symm).1)
          have HF6 := Lib.hid (HF.out.fresh hf6 (fun k hk => hk))
          have HO6 := Lib.hid hown6
          clear hf6 hown6 hg6
          go_wp2_with fail
          go_roundw
          case measure => simp [intOf]; omega
          case rel =>
            refine ⟨i + 1, i + 1, done ++ [cut l f i], by omega, Nat.le_refl _, by go_num, by go_num, ?_, .inl ⟨by omega, HS.out.1, HS.out.2⟩, by simp; omega, HF6.out⟩
            have := HO6.out
            rw [HCE.out] at this
            show World.ownsRow _ _ _ _ _ _ _
            simpa using this
        · have e10 : (((((⟨l.toArray⟩ : ByteArray)[i]'hlt').toNat : Nat) : Int) == 58) = false := by
            rw [hget, beq_eq_false_iff_ne]
            intro e
            exact hc10 (UInt8.toNat_inj.1 (by have : (58 : UInt8).toNat = 58 := rfl; omega))
          have HS := Lib.hid (parts_same hfi hget? hc10 h0)
          have HD := Lib.hid hd
          clear hget hget? hc hst hd h0
          go_wp2_with fail
          go_roundw
          case measure => simp [intOf]; omega
          case rel => exact ⟨i + 1, f, done, by omega, by omega, by go_num, rfl, HO.out, .inl ⟨by omega, HD.out, HS.out⟩, by omega, HF.out⟩
      · have hil' : i = l.length := by omega
        subst hil'
        have HS := Lib.hid (parts_last hd h0)
        clear hst hd h0 hlt
        go_wp2_with (at_builtin; refine wpList_append_rd _ rfl (.tmp 22) (.tmp 27) 48 rfl w.heap.size 9 i0 _ 1 16 Tryd.underlying48 hi0 hz0 hz1 hz2 rfl (by decide) _ _ _ rfl HS5.out _ 1 1 [.string ((⟨l.toArray⟩ : ByteArray).extract f l.length)] rfl (rd_new wr 9 (0, 0) [.string ((⟨l.toArray⟩ : ByteArray).extract f l.length)]) (by intro u hu; simp at hu; subst hu; rfl) (by simp only [maxLen]; omega) (by omega) (by simp; omega) ?_; intro v6 w6 hown6 hg6 _)
        have hf6 := ((Fr.new wr (.cells #[.string ((⟨l.toArray⟩ : ByteArray).extract f l.length)] 9) (fun _ => False))).trans (Fr.ofGrown hg6) (U := fun k => w.heap.size ≤ k) (fun _ _ h => h.elim) (fun k _ e => (HS5.out.lt k e.symm).1)
        have HF6 := Lib.hid (HF.out.fresh hf6 (fun k hk => hk))
        have HO6 := Lib.hid hown6
        clear hf6 hown6 hg6
        go_wp2_with fail
        go_roundw
        case measure => simp [intOf]
        case rel =>
          refine ⟨l.length + 1, l.length + 1, done ++ [cut l f l.length], by omega, Nat.le_refl _, by go_num, by go_num, ?_, .inr ⟨rfl, HS.out⟩, by simp; omega, HF6.out⟩
          have := HO6.out
          rw [HCE.out] at this
          show World.ownsRow _ _ _ _ _ _ _
          simpa using this
    · have hd : done = splitC l := by
        rcases hst with ⟨h1, -⟩ | ⟨-, h2⟩
        · omega
        · exact h2
      subst hd
      have b2 : (l.length : Int) < (i : Int) := by omega
      clear hst
      go_wp2_with fail
      go_ret
      exact ⟨_, rfl, HO.out, HF.out⟩
end Go.Proofs.YtgfmodfakcbgfaaDoor
