import Derived.Test.YtgfmodfakcbgfaaDoorRsm
import Derived.Deep.RegionWith
namespace Go.Proofs.YtgfmodfakcbgfaaDoor
open Go.RowKit Go.Mem Go.Clk

set_option maxHeartbeats 1600000 in
theorem rShow_in1 (n : Int) (w : World) (hin : -604799 ≤ n ∧ n ≤ 604799) : Calls Tryd.prog 14 #[atI n 1] w (ShowR (some (textL n ++ [115])) w) := by
  have hf0 := Fr.new w (.cells #[.int .i64 n, .int .i64 1] 24) (fun _ => False)
  have HT := fun (W : World) => rshown_any n hin.1 hin.2 W
  have hl1 := textL_len hin.1 hin.2
  have t1 : ¬ n < -604799 := by omega
  have t2 : ¬ 604799 < n := by omega
  generalize textL n = T at HT hl1 ⊢
  have HA := Lib.hid ((HT (w.alloc (.cells #[.int .i64 n, .int .i64 1] 24)).drew).mono (R' := fun e w' => e = .returned (strV T) ∧ Fr w w' (fun _ => False) ∧ w'.cell? ⟨w.heap.size, 1, none⟩ = some (.int .i64 1) ∧ (w'.alloc marksO).cell? ⟨w.heap.size, 1, none⟩ = some (.int .i64 1) ∧ w.heap.size < w'.heap.size) fun e w' ⟨h1, h2⟩ => ⟨h1, ff hf0 (ff (Fr.drew _ _) h2), h2.cell0 (two_cells w n 1).2, (Fr.new _ _ _).cell0 (h2.cell0 (two_cells w n 1).2), by have := h2.size; simp at this; omega⟩)
  have HB := Lib.hid ((HT ((w.alloc (.cells #[.int .i64 n, .int .i64 1] 24)).alloc marksO).drew).mono (R' := fun e w' => e = .returned (strV T) ∧ Fr w w' (fun _ => False) ∧ w'.cell? ⟨w.heap.size, 1, none⟩ = some (.int .i64 1) ∧ w'.cell? ⟨w.heap.size + 1, 1, none⟩ = some (.string ⟨#[115]⟩)) fun e w' ⟨h1, h2⟩ => ⟨h1, ff (ff hf0 (Fr.new _ marksO _)) (ff (Fr.drew _ _) h2), h2.cell0 (four_cells w n 1).1, h2.cell0 (four_cells w n 1).2.2.1⟩)
  have ha := fun w => run_add_str (P := Tryd.prog) w T [115] (by simp; omega)
  clear hin hf0 hl1 HT
  go_enter Tryd.func14, Tryd.ntmps14
  go_wp2_with fail
  go_region_with ((go_at_call 26; first | ((with_reducible refine HA.out.mono ?_); rintro e w5 ⟨rfl, hfr, d1, d2, d3⟩) | ((with_reducible refine HB.out.mono ?_); rintro e w5 ⟨rfl, hfr, d1, d2⟩)))
  all_goals
    have HS := Lib.hid hfr
    have HS2 := Lib.hid (ff hfr (Fr.new w5 marksO (fun _ => False)))
    clear hfr
    go_wp2_with fail
    go_ret2
    first | exact ⟨HS.out, rfl⟩ | exact ⟨HS2.out, rfl⟩
end Go.Proofs.YtgfmodfakcbgfaaDoor
