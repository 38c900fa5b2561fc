import Derived.Test.YtgfmodfakcbgfaaDoorRsa
import Derived.Test.YtgfmodfakcbgfaaDoorRsb
import Derived.Test.YtgfmodfakcbgfaaDoorRsc
namespace Go.Proofs.YtgfmodfakcbgfaaDoor
open Go.RowKit Go.Mem Go.Clk

theorem rShow_any (n k : Int) (w : World) : Calls Tryd.prog 14 #[atI n k] w (ShowR (showT n k) w) := by
  by_cases hin : (-604799 ≤ n ∧ n ≤ 604799) ∧ (0 ≤ k ∧ k ≤ 2)
  · rw [showT, if_pos hin]
    rcases mark_is k hin.2 with ⟨rfl, e⟩ | ⟨rfl, e⟩ | ⟨rfl, e⟩
    · rw [e]; exact rShow_in0 n w hin.1
    · rw [e]; exact rShow_in1 n w hin.1
    · rw [e]; exact rShow_in2 n w hin.1
  · rw [showT, if_neg hin]
    have HF := Lib.hid (Fr.new w (.cells #[.int .i64 n, .int .i64 k] 24) (fun _ => False))
    by_cases h1 : n < -604799
    · clear hin
      go_enter Tryd.func14, Tryd.ntmps14
      go_wp2_with fail
      go_ret2
      exact ⟨HF.out, rfl⟩
    · by_cases h2 : 604799 < n
      · clear hin
        go_enter Tryd.func14, Tryd.ntmps14
        go_wp2_with fail
        go_ret2
        exact ⟨HF.out, rfl⟩
      · by_cases h3 : k < 0
        · clear hin
          go_enter Tryd.func14, Tryd.ntmps14
          go_wp2_with fail
          go_ret2
          exact ⟨HF.out, rfl⟩
        · have h4 : 2 < k := by omega
          clear hin
          go_enter Tryd.func14, Tryd.ntmps14
          go_wp2_with fail
          go_ret2
          exact ⟨HF.out, rfl⟩
end Go.Proofs.YtgfmodfakcbgfaaDoor
