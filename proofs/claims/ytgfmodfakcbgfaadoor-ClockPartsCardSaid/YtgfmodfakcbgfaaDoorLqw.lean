import Derived.Test.YtgfmodfakcbgfaaDoorLqa
import Derived.Test.YtgfmodfakcbgfaaDoorLqb
import Derived.Test.YtgfmodfakcbgfaaDoorLqc
import Derived.Test.YtgfmodfakcbgfaaDoorLqd
namespace Go.Proofs.YtgfmodfakcbgfaaDoor
open Go.RowKit Go.Mem Go.Clk

theorem parts_walk (h m s k : Int) (low : Bool) (w : World) (hg : GOk w.heap.size w) :
    Calls Tryd.prog 7 #[.int .i64 h, .int .i64 m, .int .i64 s, .int .i64 k, .bool low] w fun e w' => e = .returned (.bool true) ∧ Fr w w' (fun _ => False) := by
  by_cases ho : Outside h m s k
  · exact parts_out h m s k low w ho hg
  · unfold Outside at ho
    by_cases hb : 99 < h
    · cases low
      · exact parts_high_three h m s k w (by omega) (by omega) hb (by omega) (by omega) (by omega) (by omega) (by omega) (by omega) hg
      · exact parts_low_three h m s k w (by omega) (by omega) hb (by omega) (by omega) (by omega) (by omega) (by omega) (by omega) hg
    · cases low
      · exact parts_high_two h m s k w (by omega) (by omega) hb (by omega) (by omega) (by omega) (by omega) (by omega) (by omega) hg
      · exact parts_low_two h m s k w (by omega) (by omega) hb (by omega) (by omega) (by omega) (by omega) (by omega) (by omega) hg
end Go.Proofs.YtgfmodfakcbgfaaDoor
