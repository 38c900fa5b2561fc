import Derived.Test.YtgfmodfakcbgfaaDoorAli
import Derived.Test.YtgfmodfakcbgfaaDoorRpr
namespace Go.Proofs.YtgfmodfakcbgfaaDoor
open Go.RowKit Go.Mem Go.Clk

def AtR (n k j : Int) (w : World) (e : Ending) (w' : World) : Prop := Fr w w' (fun _ => False) ∧ e = .returned (.tuple #[atI n k, .int .i64 j])
def IntR (n j : Int) (w : World) (e : Ending) (w' : World) : Prop := Fr w w' (fun _ => False) ∧ e = .returned (.tuple #[.int .i64 n, .int .i64 j])
theorem readA_form (T : Option (Int × Nat)) : ∃ n k j, ∀ w e w', ReadA T w e w' → AtR n k j w e w' := by
  cases T with
  | none => exact ⟨0, 0, 7, fun w e w' h => h⟩
  | some v => exact ⟨v.1, (v.2 : Int), 0, fun w e w' h => h⟩
theorem readI_form (T : Option Int) : ∃ n j, ∀ w e w', ReadI T w e w' → IntR n j w e w' := by
  cases T with
  | none => exact ⟨0, 7, fun w e w' h => h⟩
  | some v => exact ⟨v, 0, fun w e w' h => h⟩
set_option maxHeartbeats 1600000 in
theorem parses_walk (l : Bs) (w : World) (hl : l.length ≤ maxLen) (hg : GOk w.heap.size w) :
    Calls Tryd.prog 3 #[strV l] w fun e w' => e = .returned (.bool true) ∧ Fr w w' (fun _ => False) := by
  have hz := str_size l
  unfold maxLen at hl
  by_cases hbig : 500 < l.length
  · have HA := Lib.hid (alive_any w.heap.size w (Nat.le_refl _) hg)
    have t1 : (500 : Int) < (l.length : Int) := by omega
    clear hg
    go_enter Tryd.func3, Tryd.ntmps3
    go_wp2_with fail
    refine HA.out.mono ?_
    rintro e w2 ⟨rfl, hf⟩
    have HF := Lib.hid hf
    clear hf
    go_wp2_with fail
    go_ret
    exact ⟨rfl, HF.out⟩
  · have t1 : ¬ (500 : Int) < (l.length : Int) := by omega
    obtain ⟨n, k, j, hP⟩ := readA_form (parseD l)
    obtain ⟨m, i, hI⟩ := readI_form (amtD l)
    have P1 := Lib.hid (fun W => (Parse_any l W (by omega)).mono (hP W))
    have P2 := Lib.hid (fun W => (rParse_any l W (by omega)).mono (hP W))
    have I1 := Lib.hid (fun W => (Amount_any l W (by omega)).mono (hI W))
    have I2 := Lib.hid (fun W => (rAmount_any l W (by omega)).mono (hI W))
    have HA := Lib.hid (fun (W : World) (h : Fr w W (fun _ => False)) => alive_any w.heap.size W h.size (hg.fr (Nat.le_refl _) h))
    have E1 := fun w => eql_at n k n k w
    rw [show (n == n && k == k) = true by simp] at E1
    clear hP hI hg
    go_enter Tryd.func3, Tryd.ntmps3
    go_wp2_with fail
    refine (P1.out _).mono ?_
    rintro e w2 ⟨hf2, rfl⟩
    have HF2 := Lib.hid (ff hf2 (Fr.new w2 (.cells #[.int .i64 n, .int .i64 k] 24) (fun _ => False)))
    clear hf2
    go_wp2_with fail
    refine (P2.out _).mono ?_
    rintro e w3 ⟨hf3, rfl⟩
    have HF3 := Lib.hid (ff hf3 (Fr.new w3 (.cells #[.int .i64 n, .int .i64 k] 24) (fun _ => False)))
    clear hf3
    go_wp2_with fail
    refine (I1.out _).mono ?_
    rintro e w4 ⟨hf4, rfl⟩
    have HF4 := Lib.hid hf4
    clear hf4
    go_wp2_with fail
    refine (I2.out _).mono ?_
    rintro e w5 ⟨hf5, rfl⟩
    have HF5 := Lib.hid hf5
    obtain ⟨c0, c1⟩ := at_cells (ff HF3.out (ff HF4.out hf5))
    obtain ⟨d0, d1⟩ := at_cells (ff HF4.out hf5)
    have HF := Lib.hid (ff (ff (ff HF2.out HF3.out) HF4.out) hf5)
    have HA5 := Lib.hid (HA.out _ HF.out)
    clear hf5
    go_wp2_with fail
    refine HA5.out.mono ?_
    rintro e w6 ⟨rfl, hf6⟩
    have HF6 := Lib.hid hf6
    clear hf6
    go_wp2_with fail
    go_ret
    exact ⟨rfl, ff HF.out HF6.out⟩
end Go.Proofs.YtgfmodfakcbgfaaDoor
