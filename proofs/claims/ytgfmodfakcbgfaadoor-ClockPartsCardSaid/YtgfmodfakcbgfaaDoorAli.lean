import Derived.Test.YtgfmodfakcbgfaaDoorShw
import Derived.Laws.StructEq
namespace Go.Proofs.YtgfmodfakcbgfaaDoor
open Go.RowKit Go.Mem Go.Clk

theorem eql_at (n k m j : Int) (w : World) : (binOp .eql 24 (atI n k) (atI m j)).run Tryd.prog w = .ok (.bool (n == m && k == j)) w := by
  have u3 := Tryd.underlying3
  have hS : Tryd.prog.underlying 24 = some (.struct (Tryd.prog.fieldsOf 24)) := by kernel_rfl
  have hp : Tryd.prog.stoodInHeld 24 = false := by kernel_rfl
  rw [run_eql_struct, show (10000 : Nat) = 9999 + 1 from rfl, run_equalIn_agg w 9999 24 _ _ hS hp]
  simp only [Program.fieldsOf, Tryd.underlying24]
  go_simp
  by_cases h1 : n = m <;> by_cases h2 : k = j <;> simp [h1, h2]
theorem neq_at (n k m j : Int) (w : World) : (binOp .neq 24 (atI n k) (atI m j)).run Tryd.prog w = .ok (.bool (!(n == m && k == j))) w := by
  have u3 := Tryd.underlying3
  have hS : Tryd.prog.underlying 24 = some (.struct (Tryd.prog.fieldsOf 24)) := by kernel_rfl
  have hp : Tryd.prog.stoodInHeld 24 = false := by kernel_rfl
  rw [run_neq_struct, show (10000 : Nat) = 9999 + 1 from rfl, run_equalIn_agg w 9999 24 _ _ hS hp]
  simp only [Program.fieldsOf, Tryd.underlying24]
  go_simp
  by_cases h1 : n = m <;> by_cases h2 : k = j <;> simp [h1, h2]
/-- what Parse answers, said with ints -/
def ParseR (n k : Int) (w : World) (e : Ending) (w' : World) : Prop := Fr w w' (fun _ => False) ∧ e = .returned (.tuple #[atI n k, .int .i64 0])
theorem parse_is {l : Bs} {n : Int} {k : Nat} (h : parseD l = some (n, k)) (hz : l.length ≤ 1000000) (j : Int) (hj : j = (k : Int)) (w : World) : Calls Tryd.prog 9 #[strV l] w (ParseR n j w) := by
  subst hj
  have := Parse_any l w hz
  rw [h] at this
  exact this
theorem amt_is {l : Bs} {n : Int} (h : amtD l = some n) (hz : l.length ≤ 1000000) (w : World) : Calls Tryd.prog 11 #[strV l] w fun e w' => Fr w w' (fun _ => False) ∧ e = .returned (.tuple #[.int .i64 n, .int .i64 0]) := by
  have := Amount_any l w hz
  rw [h] at this
  exact this
theorem at_cells {w w' : World} {n k : Int} (h : Fr (w.alloc (.cells #[.int .i64 n, .int .i64 k] 24)) w' (fun _ => False)) : w'.cell? ⟨w.heap.size, 0, none⟩ = some (.int .i64 n) ∧ w'.cell? ⟨w.heap.size, 1, none⟩ = some (.int .i64 k) :=
  ⟨h.cell0 (two_cells w n k).1, h.cell0 (two_cells w n k).2⟩
theorem alive_show : textL 7200 ++ markL 1 = [50, 58, 48, 48, 115] := by
  rw [textL, if_neg (by decide), textN, dec_eq _ (by decide)]
  decide
set_option maxHeartbeats 800000 in
theorem alive_any (B : Nat) (w : World) (hB : B ≤ w.heap.size) (hg : GOk B w) : Calls Tryd.prog 8 #[] w fun e w' => e = .returned (.bool true) ∧ Fr w w' (fun _ => False) := by
  have H1 := Lib.hid (parse_is (l := [50, 58, 48, 48, 115]) (n := 7200) (k := 1) (by decide) (by decide) 1 rfl w)
  have H2 := Lib.hid (fun w => amt_is (l := [45, 49, 58, 51, 48]) (n := -5400) (by decide) (by decide) w)
  have H3 := Lib.hid (fun w => parse_is (l := [50, 54]) (n := 93600) (k := 0) (by decide) (by decide) 0 rfl w)
  have H4 := Lib.hid (fun (W : World) (h : Fr w W (fun _ => False)) => Show_any B 7200 1 W (Nat.le_trans hB h.size) (hg.fr hB h))
  rw [show showT 7200 1 = some [50, 58, 48, 48, 115] by rw [showT, if_pos (by decide)]; exact congrArg some alive_show] at H4
  have E1 := fun w => eql_at 7200 1 7200 1 w
  rw [show ((7200 : Int) == 7200 && (1 : Int) == 1) = true by decide] at E1
  clear hg hB
  go_enter Tryd.func8, Tryd.ntmps8
  go_wp2_with fail
  refine H1.out.mono ?_
  rintro e w2 ⟨hf2, rfl⟩
  have HF2 := Lib.hid (ff hf2 (Fr.new w2 (.cells #[.int .i64 7200, .int .i64 1] 24) (fun _ => False)))
  clear hf2
  go_wp2_with fail
  refine (H2.out _).mono ?_
  rintro e w3 ⟨hf3, rfl⟩
  have HF3 := Lib.hid hf3
  clear hf3
  go_wp2_with fail
  refine (H3.out _).mono ?_
  rintro e w4 ⟨hf4, rfl⟩
  have HF4 := Lib.hid (ff hf4 (Fr.new w4 (.cells #[.int .i64 93600, .int .i64 0] 24) (fun _ => False)))
  have HA4 := Lib.hid (H4.out _ (ff (ff HF2.out HF3.out) HF4.out))
  clear hf4
  go_wp2_with fail
  refine HA4.out.mono ?_
  rintro e w5 ⟨hf5, rfl⟩
  obtain ⟨c0, c1⟩ := at_cells (ff (ff HF3.out HF4.out) hf5)
  obtain ⟨d0, d1⟩ := at_cells hf5
  have HF5 := Lib.hid hf5
  clear hf5
  go_wp2_with fail
  go_ret
  exact ⟨rfl, ff (ff (ff HF2.out HF3.out) HF4.out) HF5.out⟩
end Go.Proofs.YtgfmodfakcbgfaaDoor
