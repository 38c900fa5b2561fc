import Derived.Test.YtgfmodfakcbgfaaDoorRin
import Derived.Test.YtgfmodfakcbgfaaDoorShw
namespace Go.Proofs.YtgfmodfakcbgfaaDoor
open Go.RowKit Go.Mem Go.Clk

theorem rtwo_any (n : Int) (a : Nat) (hn : n = (a : Int)) (ha : a < 100) (w : World) : Calls Tryd.prog 37 #[.int .i64 n] w fun e w' => e = .returned (strV (58 :: twoL a)) ∧ Fr w w' (fun _ => False) := by
  have hcv := fun (w : World) => run_text (P := Tryd.prog) (w.alloc (.cells #[.int .u8 (48 + n / 10), .int .u8 (48 + n % 10)] 5)) 49 9 5 Tryd.underlying49 Tryd.underlying5 Tryd.underlying9 ⟨w.heap.size, 0, none⟩ 2 2 [48 + n / 10, 48 + n % 10] (rd_new w 5 (0, 0) [.int .u8 (48 + n / 10), .int .u8 (48 + n % 10)])
  rw [text_two n a hn ha] at hcv
  have hl : (twoL a).length = 2 := rfl
  generalize twoL a = T at hcv hl ⊢
  have ha1 := fun w => run_add_str (P := Tryd.prog) w [58] T (by simp; omega)
  simp only [List.cons_append, List.nil_append] at ha1
  have b1 : 0 ≤ n := by omega
  have b2 : n < 100 := by omega
  clear hn ha hl
  go_enter Tryd.func37, Tryd.ntmps37
  go_wp2_with fail
  go_ret
  exact ⟨rfl, Fr.new _ _ _⟩
def signL (b : Bool) : Bs := if b = true then [45] else []
theorem text_sign (n : Int) : textL n = signL (decide (n < 0)) ++ textN n.natAbs := by
  unfold textL signL
  by_cases h : n < 0 <;> simp [h]
theorem div_mod (a : Nat) : a % 3600 / 60 = a / 60 % 60 := by omega
set_option maxHeartbeats 1000000 in
theorem rshown_any (n : Int) (h1 : -604799 ≤ n) (h2 : n ≤ 604799) (w : World) : Calls Tryd.prog 26 #[.int .i64 n] w fun e w' => e = .returned (strV (textL n)) ∧ Fr w w' (fun _ => False) := by
  rw [text_sign]
  obtain ⟨a, ha⟩ : ∃ a, a = n.natAbs := ⟨_, rfl⟩
  rw [← ha]
  have hd := dec_le (a := a / 3600) (by omega)
  have l1 : ∀ x, (twoL x).length = 2 := fun _ => rfl
  have l2 := l1 (a / 60 % 60)
  have l3 := l1 (a % 60)
  by_cases hneg : n < 0
  · have ht0 : signL (decide (n < 0)) = [45] := by simp [signL, hneg]
    rw [ht0]
    have H1 := Lib.hid (fun w => rInt_any (-n / 3600) (a / 3600) (by omega) (by omega) w)
    have H2 := Lib.hid (fun w => rtwo_any (-n / 60 % 60) (a / 60 % 60) (by omega) (by omega) w)
    have H3 := Lib.hid (fun w => rtwo_any (-n % 60) (a % 60) (by omega) (by omega) w)
    obtain ⟨m, hm⟩ : ∃ m, m = -n := ⟨_, rfl⟩
    have b1 : 0 ≤ m := by omega
    have b2 : m ≤ 604799 := by omega
    rw [← hm] at H1 H2 H3
    by_cases hs : a % 60 = 0
    · have ht : [45] ++ textN a = 45 :: Lib.decDigits (a / 3600) ++ 58 :: twoL (a / 60 % 60) := by simp [textN, secL, hs, div_mod]
      rw [ht]
      have t1 : (m % 60 == 0) = true := by simp; omega
      have t2 : (m % 60 != 0) = false := by simp; omega
      clear H3 ht ht0 hs l1 l3
      generalize Lib.decDigits (a / 3600) = D at H1 hd ⊢
      generalize twoL (a / 60 % 60) = T at H2 l2 ⊢
      have a1 := fun w => run_add_str (P := Tryd.prog) w [45] D (by simp; omega)
      have a2 := fun w => run_add_str (P := Tryd.prog) w (45 :: D) (58 :: T) (by simp; omega)
      simp only [List.cons_append, List.nil_append] at a1 a2 ⊢
      have HM := Lib.hid hm
      clear hm ha
      have hm2 : -n = m := HM.out.symm
      go_enter Tryd.func26, Tryd.ntmps26
      go_wp2_with fail
      refine (H1.out _).mono ?_
      rintro e w2 ⟨rfl, hf2⟩
      have HF2 := Lib.hid hf2
      clear hf2
      go_wp2_with fail
      refine (H2.out _).mono ?_
      rintro e w3 ⟨rfl, hf3⟩
      have HF3 := Lib.hid hf3
      clear hf3
      go_wp2_with fail
      go_ret
      exact ⟨rfl, ff HF2.out HF3.out⟩
    · have ht : [45] ++ textN a = 45 :: Lib.decDigits (a / 3600) ++ 58 :: twoL (a / 60 % 60) ++ 58 :: twoL (a % 60) := by simp [textN, secL, hs, div_mod]
      rw [ht]
      have t1 : (m % 60 == 0) = false := by simp; omega
      have t2 : (m % 60 != 0) = true := by simp; omega
      clear ht ht0 hs l1
      generalize Lib.decDigits (a / 3600) = D at H1 hd ⊢
      generalize twoL (a / 60 % 60) = T at H2 l2 ⊢
      generalize twoL (a % 60) = U at H3 l3 ⊢
      have a1 := fun w => run_add_str (P := Tryd.prog) w [45] D (by simp; omega)
      have a2 := fun w => run_add_str (P := Tryd.prog) w (45 :: D) (58 :: T) (by simp; omega)
      have a3 := fun w => run_add_str (P := Tryd.prog) w (45 :: D ++ 58 :: T) (58 :: U) (by simp; omega)
      simp only [List.append_assoc, List.cons_append, List.nil_append] at a1 a2 a3 ⊢
      have HM := Lib.hid hm
      clear hm ha
      have hm2 : -n = m := HM.out.symm
      go_enter Tryd.func26, Tryd.ntmps26
      go_wp2_with fail
      refine (H1.out _).mono ?_
      rintro e w2 ⟨rfl, hf2⟩
      have HF2 := Lib.hid hf2
      clear hf2
      go_wp2_with fail
      refine (H2.out _).mono ?_
      rintro e w3 ⟨rfl, hf3⟩
      have HF3 := Lib.hid hf3
      clear hf3
      go_wp2_with fail
      refine (H3.out _).mono ?_
      rintro e w4 ⟨rfl, hf4⟩
      have HF4 := Lib.hid hf4
      clear hf4
      go_wp2_with fail
      go_ret
      exact ⟨rfl, ff (ff HF2.out HF3.out) HF4.out⟩
  · have ht0 : signL (decide (n < 0)) = [] := by simp [signL, hneg]
    rw [ht0]
    have H1 := Lib.hid (fun w => rInt_any (n / 3600) (a / 3600) (by omega) (by omega) w)
    have H2 := Lib.hid (fun w => rtwo_any (n / 60 % 60) (a / 60 % 60) (by omega) (by omega) w)
    have H3 := Lib.hid (fun w => rtwo_any (n % 60) (a % 60) (by omega) (by omega) w)
    have b1 : 0 ≤ n := by omega
    by_cases hs : a % 60 = 0
    · have ht : [] ++ textN a = Lib.decDigits (a / 3600) ++ 58 :: twoL (a / 60 % 60) := by simp [textN, secL, hs, div_mod]
      rw [ht]
      have t1 : (n % 60 == 0) = true := by simp; omega
      have t2 : (n % 60 != 0) = false := by simp; omega
      clear H3 ht ht0 hs l1 l3
      generalize Lib.decDigits (a / 3600) = D at H1 hd ⊢
      generalize twoL (a / 60 % 60) = T at H2 l2 ⊢
      have a1 := fun w => run_add_str (P := Tryd.prog) w [] D (by simp; omega)
      have a2 := fun w => run_add_str (P := Tryd.prog) w D (58 :: T) (by simp; omega)
      simp only [List.nil_append] at a1 a2 ⊢
      clear ha
      go_enter Tryd.func26, Tryd.ntmps26
      go_wp2_with fail
      refine (H1.out _).mono ?_
      rintro e w2 ⟨rfl, hf2⟩
      have HF2 := Lib.hid hf2
      clear hf2
      go_wp2_with fail
      refine (H2.out _).mono ?_
      rintro e w3 ⟨rfl, hf3⟩
      have HF3 := Lib.hid hf3
      clear hf3
      go_wp2_with fail
      go_ret
      exact ⟨rfl, ff HF2.out HF3.out⟩
    · have ht : [] ++ textN a = Lib.decDigits (a / 3600) ++ 58 :: twoL (a / 60 % 60) ++ 58 :: twoL (a % 60) := by simp [textN, secL, hs, div_mod]
      rw [ht]
      have t1 : (n % 60 == 0) = false := by simp; omega
      have t2 : (n % 60 != 0) = true := by simp; omega
      clear ht ht0 hs l1
      generalize Lib.decDigits (a / 3600) = D at H1 hd ⊢
      generalize twoL (a / 60 % 60) = T at H2 l2 ⊢
      generalize twoL (a % 60) = U at H3 l3 ⊢
      have a1 := fun w => run_add_str (P := Tryd.prog) w [] D (by simp; omega)
      have a2 := fun w => run_add_str (P := Tryd.prog) w D (58 :: T) (by simp; omega)
      have a3 := fun w => run_add_str (P := Tryd.prog) w (D ++ 58 :: T) (58 :: U) (by simp; omega)
      simp only [List.append_assoc, List.cons_append, List.nil_append] at a1 a2 a3 ⊢
      clear ha
      go_enter Tryd.func26, Tryd.ntmps26
      go_wp2_with fail
      refine (H1.out _).mono ?_
      rintro e w2 ⟨rfl, hf2⟩
      have HF2 := Lib.hid hf2
      clear hf2
      go_wp2_with fail
      refine (H2.out _).mono ?_
      rintro e w3 ⟨rfl, hf3⟩
      have HF3 := Lib.hid hf3
      clear hf3
      go_wp2_with fail
      refine (H3.out _).mono ?_
      rintro e w4 ⟨rfl, hf4⟩
      have HF4 := Lib.hid hf4
      clear hf4
      go_wp2_with fail
      go_ret
      exact ⟨rfl, ff (ff HF2.out HF3.out) HF4.out⟩
theorem rShowAmount_any (n : Int) (w : World) : Calls Tryd.prog 16 #[.int .i64 n] w (ShowR (showA n) w) := by
  by_cases h1 : n < -86400
  · rw [showA, if_neg (by omega)]
    go_enter Tryd.func16, Tryd.ntmps16
    go_wp2_with fail
    go_ret2
    exact ⟨Fr.refl _ _, rfl⟩
  · by_cases h2 : 86400 < n
    · rw [showA, if_neg (by omega)]
      go_enter Tryd.func16, Tryd.ntmps16
      go_wp2_with fail
      go_ret2
      exact ⟨Fr.refl _ _, rfl⟩
    · rw [showA, if_pos (by omega)]
      have HT := Lib.hid (rshown_any n (by omega) (by omega) w)
      go_enter Tryd.func16, Tryd.ntmps16
      go_wp2_with fail
      refine HT.out.mono ?_
      rintro e w2 ⟨rfl, hf2⟩
      have HF2 := Lib.hid hf2
      clear hf2
      go_wp2_with fail
      go_ret2
      exact ⟨HF2.out, rfl⟩
end Go.Proofs.YtgfmodfakcbgfaaDoor
