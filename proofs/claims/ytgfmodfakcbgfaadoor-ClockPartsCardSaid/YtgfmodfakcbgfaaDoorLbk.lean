import Derived.Test.YtgfmodfakcbgfaaDoorAli
import Derived.Test.YtgfmodfakcbgfaaDoorLpa
import Derived.Test.YtgfmodfakcbgfaaDoorLsh
namespace Go.Proofs.YtgfmodfakcbgfaaDoor
open Go.RowKit Go.Mem Go.Clk

theorem showT_parse {n k : Int} (h : (-604799 ≤ n ∧ n ≤ 604799) ∧ (0 ≤ k ∧ k ≤ 2)) : ∃ t : Bs, showT n k = some t ∧ t.length ≤ 100 ∧ parseD t = some (n, k.toNat) := by
  refine ⟨_, by rw [showT, if_pos h], ?_, parse_show h.1.1 h.1.2 (by omega)⟩
  have h1 := textL_len h.1.1 h.1.2
  have h2 := markL_len k.toNat
  simp
  omega
theorem showA_amt {m : Int} (h : -86400 ≤ m ∧ m ≤ 86400) : ∃ t : Bs, showA m = some t ∧ t.length ≤ 100 ∧ amtD t = some m := by
  refine ⟨_, by rw [showA, if_pos h], ?_, amt_show h.1 h.2⟩
  have h1 := textL_len (n := m) (by omega) (by omega)
  omega
set_option maxHeartbeats 1600000 in
theorem back_in_in (n k m : Int) (w : World) (hin : (-604799 ≤ n ∧ n ≤ 604799) ∧ (0 ≤ k ∧ k ≤ 2)) (hm : -86400 ≤ m ∧ m ≤ 86400) (hg : GOk w.heap.size w) :
    Calls Tryd.prog 5 #[atI n k, .int .i64 m] w fun e w' => e = .returned (.bool true) ∧ Fr w w' (fun _ => False) := by
  have hf0 := Fr.new w (.cells #[.int .i64 n, .int .i64 k] 24) (fun _ => False)
  have P1 := Show_any w.heap.size n k (w.alloc (.cells #[.int .i64 n, .int .i64 k] 24)) hf0.size (hg.fr (Nat.le_refl _) hf0)
  have I1 := fun (W : World) (h : Fr w W (fun _ => False)) => ShowAmount_any w.heap.size m W h.size (hg.fr (Nat.le_refl _) h)
  have HA := Lib.hid (fun (W : World) (h : Fr w W (fun _ => False)) => alive_any w.heap.size W h.size (hg.fr (Nat.le_refl _) h))
  obtain ⟨T, hT, hTl, hTp⟩ := showT_parse hin
  rw [hT] at P1
  have PP := Lib.hid (fun W => parse_is hTp (by omega) k (by omega) W)
  have E1 := fun w => neq_at n k n k w
  rw [show (!(n == n && k == k)) = false by simp] at E1
  clear hT hTl hTp hin
  obtain ⟨U, hU, hUl, hUp⟩ := showA_amt hm
  rw [hU] at I1
  have AA := Lib.hid (fun W => amt_is hUp (by omega) W)
  obtain ⟨m1, m2⟩ := hm
  clear hU hUl hUp
  have P1 := Lib.hid P1
  have I1 := Lib.hid I1
  have HF0 := Lib.hid hf0
  obtain ⟨a0, a1⟩ := two_cells w n k
  clear hg hf0
  go_enter Tryd.func5, Tryd.ntmps5
  go_wp2_with fail
  refine P1.out.mono ?_
  rintro e w2 ⟨hf2, rfl⟩
  have HF2 := Lib.hid hf2
  clear hf2
  go_wp2_with fail
  refine (PP.out _).mono ?_
  rintro e w3 ⟨hf3, rfl⟩
  obtain ⟨b0, b1⟩ := at_cells (ff (ff HF2.out hf3) (Fr.new w3 (.cells #[.int .i64 n, .int .i64 k] 24) (fun _ => False)))
  have HF3 := Lib.hid (ff HF0.out (ff (ff HF2.out hf3) (Fr.new w3 (.cells #[.int .i64 n, .int .i64 k] 24) (fun _ => False))))
  clear hf3
  go_wp2_with fail
  refine (I1.out _ HF3.out).mono ?_
  rintro e w4 ⟨hf4, rfl⟩
  have HF4 := Lib.hid (ff HF3.out hf4)
  clear hf4
  go_wp2_with fail
  refine (AA.out _).mono ?_
  rintro e w5 ⟨hf5, rfl⟩
  have HF5 := Lib.hid (ff HF4.out hf5)
  clear hf5
  go_wp2_with fail
  refine (HA.out _ HF5.out).mono ?_
  rintro e w6 ⟨rfl, hf6⟩
  have HF6 := Lib.hid (ff HF5.out hf6)
  clear hf6
  go_wp2_with fail
  go_ret
  exact ⟨rfl, HF6.out⟩
set_option maxHeartbeats 1600000 in
theorem back_in_low (n k m : Int) (w : World) (hin : (-604799 ≤ n ∧ n ≤ 604799) ∧ (0 ≤ k ∧ k ≤ 2)) (hm : m < -86400) (hg : GOk w.heap.size w) :
    Calls Tryd.prog 5 #[atI n k, .int .i64 m] w fun e w' => e = .returned (.bool true) ∧ Fr w w' (fun _ => False) := by
  have hf0 := Fr.new w (.cells #[.int .i64 n, .int .i64 k] 24) (fun _ => False)
  have P1 := Show_any w.heap.size n k (w.alloc (.cells #[.int .i64 n, .int .i64 k] 24)) hf0.size (hg.fr (Nat.le_refl _) hf0)
  have I1 := fun (W : World) (h : Fr w W (fun _ => False)) => ShowAmount_any w.heap.size m W h.size (hg.fr (Nat.le_refl _) h)
  have HA := Lib.hid (fun (W : World) (h : Fr w W (fun _ => False)) => alive_any w.heap.size W h.size (hg.fr (Nat.le_refl _) h))
  obtain ⟨T, hT, hTl, hTp⟩ := showT_parse hin
  rw [hT] at P1
  have PP := Lib.hid (fun W => parse_is hTp (by omega) k (by omega) W)
  have E1 := fun w => neq_at n k n k w
  rw [show (!(n == n && k == k)) = false by simp] at E1
  clear hT hTl hTp hin
  rw [showA, if_neg (by omega)] at I1
  have P1 := Lib.hid P1
  have I1 := Lib.hid I1
  have HF0 := Lib.hid hf0
  obtain ⟨a0, a1⟩ := two_cells w n k
  clear hg hf0
  go_enter Tryd.func5, Tryd.ntmps5
  go_wp2_with fail
  refine P1.out.mono ?_
  rintro e w2 ⟨hf2, rfl⟩
  have HF2 := Lib.hid hf2
  clear hf2
  go_wp2_with fail
  refine (PP.out _).mono ?_
  rintro e w3 ⟨hf3, rfl⟩
  obtain ⟨b0, b1⟩ := at_cells (ff (ff HF2.out hf3) (Fr.new w3 (.cells #[.int .i64 n, .int .i64 k] 24) (fun _ => False)))
  have HF3 := Lib.hid (ff HF0.out (ff (ff HF2.out hf3) (Fr.new w3 (.cells #[.int .i64 n, .int .i64 k] 24) (fun _ => False))))
  clear hf3
  go_wp2_with fail
  refine (I1.out _ HF3.out).mono ?_
  rintro e w4 ⟨hf4, rfl⟩
  have HF4 := Lib.hid (ff HF3.out hf4)
  clear hf4
  go_wp2_with fail
  have HF5 := HF4
  refine (HA.out _ HF5.out).mono ?_
  rintro e w6 ⟨rfl, hf6⟩
  have HF6 := Lib.hid (ff HF5.out hf6)
  clear hf6
  go_wp2_with fail
  go_ret
  exact ⟨rfl, HF6.out⟩
set_option maxHeartbeats 1600000 in
theorem back_in_high (n k m : Int) (w : World) (hin : (-604799 ≤ n ∧ n ≤ 604799) ∧ (0 ≤ k ∧ k ≤ 2)) (hm : 86400 < m) (hg : GOk w.heap.size w) :
    Calls Tryd.prog 5 #[atI n k, .int .i64 m] w fun e w' => e = .returned (.bool true) ∧ Fr w w' (fun _ => False) := by
  have hf0 := Fr.new w (.cells #[.int .i64 n, .int .i64 k] 24) (fun _ => False)
  have P1 := Show_any w.heap.size n k (w.alloc (.cells #[.int .i64 n, .int .i64 k] 24)) hf0.size (hg.fr (Nat.le_refl _) hf0)
  have I1 := fun (W : World) (h : Fr w W (fun _ => False)) => ShowAmount_any w.heap.size m W h.size (hg.fr (Nat.le_refl _) h)
  have HA := Lib.hid (fun (W : World) (h : Fr w W (fun _ => False)) => alive_any w.heap.size W h.size (hg.fr (Nat.le_refl _) h))
  obtain ⟨T, hT, hTl, hTp⟩ := showT_parse hin
  rw [hT] at P1
  have PP := Lib.hid (fun W => parse_is hTp (by omega) k (by omega) W)
  have E1 := fun w => neq_at n k n k w
  rw [show (!(n == n && k == k)) = false by simp] at E1
  clear hT hTl hTp hin
  rw [showA, if_neg (by omega)] at I1
  have P1 := Lib.hid P1
  have I1 := Lib.hid I1
  have HF0 := Lib.hid hf0
  obtain ⟨a0, a1⟩ := two_cells w n k
  clear hg hf0
  go_enter Tryd.func5, Tryd.ntmps5
  go_wp2_with fail
  refine P1.out.mono ?_
  rintro e w2 ⟨hf2, rfl⟩
  have HF2 := Lib.hid hf2
  clear hf2
  go_wp2_with fail
  refine (PP.out _).mono ?_
  rintro e w3 ⟨hf3, rfl⟩
  obtain ⟨b0, b1⟩ := at_cells (ff (ff HF2.out hf3) (Fr.new w3 (.cells #[.int .i64 n, .int .i64 k] 24) (fun _ => False)))
  have HF3 := Lib.hid (ff HF0.out (ff (ff HF2.out hf3) (Fr.new w3 (.cells #[.int .i64 n, .int .i64 k] 24) (fun _ => False))))
  clear hf3
  go_wp2_with fail
  refine (I1.out _ HF3.out).mono ?_
  rintro e w4 ⟨hf4, rfl⟩
  have HF4 := Lib.hid (ff HF3.out hf4)
  clear hf4
  go_wp2_with fail
  have HF5 := HF4
  refine (HA.out _ HF5.out).mono ?_
  rintro e w6 ⟨rfl, hf6⟩
  have HF6 := Lib.hid (ff HF5.out hf6)
  clear hf6
  go_wp2_with fail
  go_ret
  have q : decide (m ≤ 86400) = false := by simp; omega
  exact ⟨by show Ending.returned (.bool (!decide (m ≤ 86400))) = _; rw [q]; rfl, HF6.out⟩
set_option maxHeartbeats 1600000 in
theorem back_out_in (n k m : Int) (w : World) (hin : ¬ ((-604799 ≤ n ∧ n ≤ 604799) ∧ (0 ≤ k ∧ k ≤ 2))) (hm : -86400 ≤ m ∧ m ≤ 86400) (hg : GOk w.heap.size w) :
    Calls Tryd.prog 5 #[atI n k, .int .i64 m] w fun e w' => e = .returned (.bool true) ∧ Fr w w' (fun _ => False) := by
  have hf0 := Fr.new w (.cells #[.int .i64 n, .int .i64 k] 24) (fun _ => False)
  have P1 := Show_any w.heap.size n k (w.alloc (.cells #[.int .i64 n, .int .i64 k] 24)) hf0.size (hg.fr (Nat.le_refl _) hf0)
  have I1 := fun (W : World) (h : Fr w W (fun _ => False)) => ShowAmount_any w.heap.size m W h.size (hg.fr (Nat.le_refl _) h)
  have HA := Lib.hid (fun (W : World) (h : Fr w W (fun _ => False)) => alive_any w.heap.size W h.size (hg.fr (Nat.le_refl _) h))
  rw [showT, if_neg hin] at P1
  clear hin
  obtain ⟨U, hU, hUl, hUp⟩ := showA_amt hm
  rw [hU] at I1
  have AA := Lib.hid (fun W => amt_is hUp (by omega) W)
  obtain ⟨m1, m2⟩ := hm
  clear hU hUl hUp
  have P1 := Lib.hid P1
  have I1 := Lib.hid I1
  have HF0 := Lib.hid hf0
  obtain ⟨a0, a1⟩ := two_cells w n k
  clear hg hf0
  go_enter Tryd.func5, Tryd.ntmps5
  go_wp2_with fail
  refine P1.out.mono ?_
  rintro e w2 ⟨hf2, rfl⟩
  have HF2 := Lib.hid hf2
  clear hf2
  go_wp2_with fail
  have HF3 := Lib.hid (ff HF0.out HF2.out)
  refine (I1.out _ HF3.out).mono ?_
  rintro e w4 ⟨hf4, rfl⟩
  have HF4 := Lib.hid (ff HF3.out hf4)
  clear hf4
  go_wp2_with fail
  refine (AA.out _).mono ?_
  rintro e w5 ⟨hf5, rfl⟩
  have HF5 := Lib.hid (ff HF4.out hf5)
  clear hf5
  go_wp2_with fail
  refine (HA.out _ HF5.out).mono ?_
  rintro e w6 ⟨rfl, hf6⟩
  have HF6 := Lib.hid (ff HF5.out hf6)
  clear hf6
  go_wp2_with fail
  go_ret
  exact ⟨rfl, HF6.out⟩
set_option maxHeartbeats 1600000 in
theorem back_out_low (n k m : Int) (w : World) (hin : ¬ ((-604799 ≤ n ∧ n ≤ 604799) ∧ (0 ≤ k ∧ k ≤ 2))) (hm : m < -86400) (hg : GOk w.heap.size w) :
    Calls Tryd.prog 5 #[atI n k, .int .i64 m] w fun e w' => e = .returned (.bool true) ∧ Fr w w' (fun _ => False) := by
  have hf0 := Fr.new w (.cells #[.int .i64 n, .int .i64 k] 24) (fun _ => False)
  have P1 := Show_any w.heap.size n k (w.alloc (.cells #[.int .i64 n, .int .i64 k] 24)) hf0.size (hg.fr (Nat.le_refl _) hf0)
  have I1 := fun (W : World) (h : Fr w W (fun _ => False)) => ShowAmount_any w.heap.size m W h.size (hg.fr (Nat.le_refl _) h)
  have HA := Lib.hid (fun (W : World) (h : Fr w W (fun _ => False)) => alive_any w.heap.size W h.size (hg.fr (Nat.le_refl _) h))
  rw [showT, if_neg hin] at P1
  clear hin
  rw [showA, if_neg (by omega)] at I1
  have P1 := Lib.hid P1
  have I1 := Lib.hid I1
  have HF0 := Lib.hid hf0
  obtain ⟨a0, a1⟩ := two_cells w n k
  clear hg hf0
  go_enter Tryd.func5, Tryd.ntmps5
  go_wp2_with fail
  refine P1.out.mono ?_
  rintro e w2 ⟨hf2, rfl⟩
  have HF2 := Lib.hid hf2
  clear hf2
  go_wp2_with fail
  have HF3 := Lib.hid (ff HF0.out HF2.out)
  refine (I1.out _ HF3.out).mono ?_
  rintro e w4 ⟨hf4, rfl⟩
  have HF4 := Lib.hid (ff HF3.out hf4)
  clear hf4
  go_wp2_with fail
  have HF5 := HF4
  refine (HA.out _ HF5.out).mono ?_
  rintro e w6 ⟨rfl, hf6⟩
  have HF6 := Lib.hid (ff HF5.out hf6)
  clear hf6
  go_wp2_with fail
  go_ret
  exact ⟨rfl, HF6.out⟩
set_option maxHeartbeats 1600000 in
theorem back_out_high (n k m : Int) (w : World) (hin : ¬ ((-604799 ≤ n ∧ n ≤ 604799) ∧ (0 ≤ k ∧ k ≤ 2))) (hm : 86400 < m) (hg : GOk w.heap.size w) :
    Calls Tryd.prog 5 #[atI n k, .int .i64 m] w fun e w' => e = .returned (.bool true) ∧ Fr w w' (fun _ => False) := by
  have hf0 := Fr.new w (.cells #[.int .i64 n, .int .i64 k] 24) (fun _ => False)
  have P1 := Show_any w.heap.size n k (w.alloc (.cells #[.int .i64 n, .int .i64 k] 24)) hf0.size (hg.fr (Nat.le_refl _) hf0)
  have I1 := fun (W : World) (h : Fr w W (fun _ => False)) => ShowAmount_any w.heap.size m W h.size (hg.fr (Nat.le_refl _) h)
  have HA := Lib.hid (fun (W : World) (h : Fr w W (fun _ => False)) => alive_any w.heap.size W h.size (hg.fr (Nat.le_refl _) h))
  rw [showT, if_neg hin] at P1
  clear hin
  rw [showA, if_neg (by omega)] at I1
  have P1 := Lib.hid P1
  have I1 := Lib.hid I1
  have HF0 := Lib.hid hf0
  obtain ⟨a0, a1⟩ := two_cells w n k
  clear hg hf0
  go_enter Tryd.func5, Tryd.ntmps5
  go_wp2_with fail
  refine P1.out.mono ?_
  rintro e w2 ⟨hf2, rfl⟩
  have HF2 := Lib.hid hf2
  clear hf2
  go_wp2_with fail
  have HF3 := Lib.hid (ff HF0.out HF2.out)
  refine (I1.out _ HF3.out).mono ?_
  rintro e w4 ⟨hf4, rfl⟩
  have HF4 := Lib.hid (ff HF3.out hf4)
  clear hf4
  go_wp2_with fail
  have HF5 := HF4
  refine (HA.out _ HF5.out).mono ?_
  rintro e w6 ⟨rfl, hf6⟩
  have HF6 := Lib.hid (ff HF5.out hf6)
  clear hf6
  go_wp2_with fail
  go_ret
  have q : decide (m ≤ 86400) = false := by simp; omega
  exact ⟨by show Ending.returned (.bool (!decide (m ≤ 86400))) = _; rw [q]; rfl, HF6.out⟩
theorem back_walk (n k m : Int) (w : World) (hg : GOk w.heap.size w) :
    Calls Tryd.prog 5 #[atI n k, .int .i64 m] w fun e w' => e = .returned (.bool true) ∧ Fr w w' (fun _ => False) := by
  by_cases hin : (-604799 ≤ n ∧ n ≤ 604799) ∧ (0 ≤ k ∧ k ≤ 2)
  · by_cases h1 : m < -86400
    · exact back_in_low n k m w hin h1 hg
    · by_cases h2 : 86400 < m
      · exact back_in_high n k m w hin h2 hg
      · exact back_in_in n k m w hin (by omega) hg
  · by_cases h1 : m < -86400
    · exact back_out_low n k m w hin h1 hg
    · by_cases h2 : 86400 < m
      · exact back_out_high n k m w hin h2 hg
      · exact back_out_in n k m w hin (by omega) hg
end Go.Proofs.YtgfmodfakcbgfaaDoor
