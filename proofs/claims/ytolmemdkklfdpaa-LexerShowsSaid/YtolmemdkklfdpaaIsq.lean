import Derived.Test.YtolmemdkklfdpaaIsn
import Derived.Test.YtolmemdkklfdpaaBck
namespace Go.Proofs.Ytolmemdkklfdpaa
open Go.RowKit Go.Mem Go.Lxr

theorem contains_any (chars : Bs) : ∀ s : Bs, decide (0 ≤ Lib.indexAny s chars) = s.any (fun b => chars.contains b)
  | [] => rfl
  | b :: s => by
    have ih := contains_any chars s
    have hge := Lib.indexAny_ge chars s
    rw [List.any_cons, ← ih]
    have hd : Lib.indexAny (b :: s) chars = if chars.contains b then 0 else if Lib.indexAny s chars == -1 then -1 else Lib.indexAny s chars + 1 := by rw [Lib.indexAny]
    rw [hd]
    generalize Lib.indexAny s chars = o at *
    cases chars.contains b with
    | true => simp
    | false =>
      simp only [Bool.false_eq_true, if_false, Bool.false_or]
      by_cases h : o = -1
      · subst h; rfl
      · have h1 : (o == -1) = false := by simpa using h
        rw [h1]
        simp only [Bool.false_eq_true, if_false]
        rw [Bool.eq_iff_iff, decide_eq_true_iff, decide_eq_true_iff]
        omega
abbrev quoteS : Bs := [34]
abbrev endsS : Bs := [9, 10, 11, 12, 13, 32, 35]
theorem ends_iff (c : UInt8) : endsS.contains c = stopB c := by
  have h : ∀ k : Fin 256, endsS.contains (UInt8.ofNat k.val) = stopB (UInt8.ofNat k.val) := by decide +kernel
  have := h ⟨c.toNat, c.toNat_lt⟩
  simpa using this
theorem asc_of {l : Bs} (h : ∀ b ∈ l, b.toNat < 128) : Asc ⟨l.toArray⟩ := fun _ b hb => h b (List.mem_of_getElem? hb)
theorem zero_set : ∀ w, (zeroValue 64).run Try.prog w = .ok (.agg (Array.replicate 256 (.bool false))) w := (zero_of_info (P := Try.prog) (t := 64) (n := 256) (by kernel_rfl)).1
theorem index_quote (s : ByteArray) (w : World) : Calls Try.prog 32 #[.string s, strV quoteS] w fun e w' => e = .returned (.int .i64 (Lib.indexAny s.data.toList quoteS)) ∧ Fr w w' (fun _ => False) :=
  (Try.strings_IndexAny_one s ⟨quoteS.toArray⟩ w rfl (asc_of (by decide))).mono fun e w' ⟨h1, h2⟩ => ⟨h1, by rw [h2]; exact Fr.refl _ _⟩
theorem index_ends (s : ByteArray) (hs : s.size ≤ 1000000) (w : World) : Calls Try.prog 32 #[.string s, strV endsS] w fun e w' => e = .returned (.int .i64 (Lib.indexAny s.data.toList endsS)) ∧ Fr w w' (fun _ => False) := by
  by_cases h8 : s.size ≤ 8
  · exact index_short s ⟨endsS.toArray⟩ w (asc_of (by decide)) (by decide) (by decide) h8
  · refine (Try.strings_IndexAny_long zero_set s ⟨endsS.toArray⟩ w (by decide) (by omega) (by omega) (by decide) (asc_of (by decide))).mono ?_
    rintro e w' ⟨h1, rfl⟩
    exact ⟨h1, ff (Fr.new _ _ _) (Fr.new _ _ _)⟩
/-- what set.isIn asks -/
theorem isIn_of (S : Bs) (s : ByteArray) (w : World) (x : Bool) (hx : s.data.toList.any (fun b => S.contains b) = x) (h : ∀ w, Calls Try.prog 32 #[.string s, strV S] w fun e w' => e = .returned (.int .i64 (Lib.indexAny s.data.toList S)) ∧ Fr w w' (fun _ => False)) :
    Calls Try.prog 22 #[strV S, .string s] w fun e w' => e = .returned (.bool x) ∧ Fr w w' (fun _ => False) := by
  have HC : ∀ w, Calls Try.prog 30 #[.string s, strV S] w fun e w' => e = .returned (.bool x) ∧ Fr w w' (fun _ => False) := by
    intro w
    have HI := Lib.hid (h w)
    have HX := Lib.hid (contains_any S s.data.toList)
    rw [hx] at HX
    generalize Lib.indexAny s.data.toList S = o at HI HX
    clear h hx
    go_enter Try.func30, Try.ntmps30
    go_wp2_with fail
    refine HI.out.mono ?_
    rintro e w2 ⟨rfl, hf2⟩
    have HF2 := Lib.hid hf2
    clear hf2
    go_wp2_with fail
    go_ret
    exact ⟨by rw [← HX.out]; rfl, HF2.out⟩
  have HC := Lib.hid HC
  clear h hx
  go_enter Try.func22, Try.ntmps22
  go_wp2_with fail
  refine (HC.out w).mono ?_
  rintro e w2 ⟨rfl, hf2⟩
  have HF2 := Lib.hid hf2
  clear hf2
  go_wp2_with fail
  go_ret
  exact ⟨rfl, HF2.out⟩
theorem isIn_quote (l : Bs) (w : World) (x : Bool) (hx : l.contains 34 = x) : Calls Try.prog 22 #[strV quoteS, strV l] w fun e w' => e = .returned (.bool x) ∧ Fr w w' (fun _ => False) := by
  refine isIn_of quoteS ⟨l.toArray⟩ w x ?_ (fun w => index_quote _ w)
  show l.any (fun b => quoteS.contains b) = x
  rw [← hx, List.contains_eq_any_beq]
  congr 1
  funext b
  rw [one_iff]
  exact Bool.beq_comm
theorem isIn_ends (l : Bs) (hl : l.length ≤ 1000000) (w : World) (x : Bool) (hx : l.any stopB = x) : Calls Try.prog 22 #[strV endsS, strV l] w fun e w' => e = .returned (.bool x) ∧ Fr w w' (fun _ => False) := by
  refine isIn_of endsS ⟨l.toArray⟩ w x ?_ (fun w => index_ends _ (by rw [str_size]; exact hl) w)
  show l.any (fun b => endsS.contains b) = x
  rw [← hx]
  congr 1
  funext b
  exact ends_iff b
/-- a field as it is shown -/
theorem shown_any (l : Bs) (hl : l.length ≤ 1000) (w : World) : Calls Try.prog 23 #[strV l] w fun e w' => e = .returned (strV (showOne l)) ∧ Fr w w' (fun _ => False) := by
  obtain ⟨x, hx⟩ : ∃ x, l.any stopB = x := ⟨_, rfl⟩
  have HI := Lib.hid (isIn_ends l (by omega) w x hx)
  have hz := str_size l
  have hadd1 := fun w => run_add_str (P := Try.prog) w [34] l (by simp; omega)
  obtain ⟨q, hq⟩ : ∃ q, ([34] ++ l : Bs) = q := ⟨_, rfl⟩
  have hql : q.length = l.length + 1 := by rw [← hq]; simp
  have hadd2 := fun w => run_add_str (P := Try.prog) w q [34] (by simp; omega)
  rw [hq] at hadd1
  obtain ⟨t, ht⟩ : ∃ t, q ++ [34] = t := ⟨_, rfl⟩
  rw [ht] at hadd2
  have hqt : t = 34 :: (l ++ [34]) := by rw [← ht, ← hq]; simp
  cases l with
  | nil =>
    have HS := Lib.hid (show showOne [] = t by rw [hqt]; rfl)
    clear hq ht hqt hql hx
    go_enter Try.func23, Try.ntmps23
    go_wp2_with fail
    go_ret
    exact ⟨by rw [HS.out]; rfl, Fr.refl _ _⟩
  | cons c r =>
    have e0 : ((c :: r : Bs) == []) = false := rfl
    cases x with
    | true =>
      have HS := Lib.hid (show showOne (c :: r) = t by rw [hqt]; unfold showOne quotedB; rw [hx]; simp)
      clear hq ht hqt hql hx
      generalize c :: r = l at *
      go_enter Try.func23, Try.ntmps23
      go_wp2_with fail
      refine HI.out.mono ?_
      rintro e w2 ⟨rfl, hf2⟩
      have HF2 := Lib.hid hf2
      clear hf2
      go_wp2_with fail
      go_ret
      exact ⟨by rw [HS.out]; rfl, HF2.out⟩
    | false =>
      have HS := Lib.hid (show showOne (c :: r) = c :: r by unfold showOne quotedB; rw [hx]; simp)
      clear hq ht hqt hql hx
      generalize c :: r = l at *
      go_enter Try.func23, Try.ntmps23
      go_wp2_with fail
      refine HI.out.mono ?_
      rintro e w2 ⟨rfl, hf2⟩
      have HF2 := Lib.hid hf2
      clear hf2
      go_wp2_with fail
      go_ret
      exact ⟨by rw [HS.out]; rfl, HF2.out⟩
end Go.Proofs.Ytolmemdkklfdpaa
