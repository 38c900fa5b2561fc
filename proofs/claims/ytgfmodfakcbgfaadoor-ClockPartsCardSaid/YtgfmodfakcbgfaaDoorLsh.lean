import Derived.Test.YtgfmodfakcbgfaaDoorAli
import Derived.Test.YtgfmodfakcbgfaaDoorRsw
namespace Go.Proofs.YtgfmodfakcbgfaaDoor
open Go.RowKit Go.Mem Go.Clk

def TxtR (t : Bs) (j : Int) (w : World) (e : Ending) (w' : World) : Prop := Fr w w' (fun _ => False) ∧ e = .returned (.tuple #[strV t, .int .i64 j])
theorem show_form (T : Option Bs) : ∃ t j, ∀ w e w', ShowR T w e w' → TxtR t j w e w' := by
  cases T with
  | none => exact ⟨[], 1, fun w e w' h => h⟩
  | some v => exact ⟨v, 0, fun w e w' h => h⟩
set_option maxHeartbeats 1600000 in
theorem shows_walk (n k m : Int) (w : World) (hg : GOk w.heap.size w) :
    Calls Tryd.prog 4 #[atI n k, .int .i64 m] w fun e w' => e = .returned (.bool true) ∧ Fr w w' (fun _ => False) := by
  have hf0 := Fr.new w (.cells #[.int .i64 n, .int .i64 k] 24) (fun _ => False)
  obtain ⟨t, j, hT⟩ := show_form (showT n k)
  obtain ⟨u, i, hA⟩ := show_form (showA m)
  have P1 := Lib.hid (fun (W : World) (h : Fr w W (fun _ => False)) => (Show_any w.heap.size n k W h.size (hg.fr (Nat.le_refl _) h)).mono (hT W))
  have P2 := Lib.hid (fun (W : World) => (rShow_any n k W).mono (hT W))
  have I1 := Lib.hid (fun (W : World) (h : Fr w W (fun _ => False)) => (ShowAmount_any w.heap.size m W h.size (hg.fr (Nat.le_refl _) h)).mono (hA W))
  have I2 := Lib.hid (fun (W : World) => (rShowAmount_any m W).mono (hA W))
  have HA := Lib.hid (fun (W : World) (h : Fr w W (fun _ => False)) => alive_any w.heap.size W h.size (hg.fr (Nat.le_refl _) h))
  obtain ⟨a0, a1⟩ := two_cells w n k
  have HF0 := Lib.hid hf0
  have P1a := Lib.hid (P1.out _ hf0)
  clear hT hA hg hf0
  go_enter Tryd.func4, Tryd.ntmps4
  go_wp2_with fail
  refine P1a.out.mono ?_
  rintro e w2 ⟨hf2, rfl⟩
  obtain ⟨b0, b1⟩ := at_cells hf2
  have HF2 := Lib.hid (ff HF0.out hf2)
  clear hf2
  go_wp2_with fail
  refine (P2.out _).mono ?_
  rintro e w3 ⟨hf3, rfl⟩
  have HF3 := Lib.hid (ff HF2.out hf3)
  have I1a := Lib.hid (I1.out _ HF3.out)
  clear hf3
  go_wp2_with fail
  refine I1a.out.mono ?_
  rintro e w4 ⟨hf4, rfl⟩
  have HF4 := Lib.hid (ff HF3.out hf4)
  clear hf4
  go_wp2_with fail
  refine (I2.out _).mono ?_
  rintro e w5 ⟨hf5, rfl⟩
  have HF5 := Lib.hid (ff HF4.out hf5)
  have HA5 := Lib.hid (HA.out _ HF5.out)
  clear hf5
  go_wp2_with fail
  refine HA5.out.mono ?_
  rintro e w6 ⟨rfl, hf6⟩
  have HF6 := Lib.hid (ff HF5.out hf6)
  clear hf6
  go_wp2_with fail
  go_ret
  exact ⟨rfl, HF6.out⟩
end Go.Proofs.YtgfmodfakcbgfaaDoor
