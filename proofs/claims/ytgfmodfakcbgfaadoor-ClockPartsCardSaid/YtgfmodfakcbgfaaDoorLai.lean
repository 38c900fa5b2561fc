import Derived.Test.YtgfmodfakcbgfaaDoorCards
import Derived.Test.YtgfmodfakcbgfaaDoorTie
import Derived.Test.YtgfmodfakcbgfaaDoorAli
import Derived.ShutString
import Derived.ChangeOld
import Derived.ChangeMaps5
import Derived.ProofKit
import Derived.OpenShut
import Derived.JoinedCond
import Derived.Deep.DeepHandedRow
import Derived.Deep.DeepWitnessRowRef
import Derived.Lib.LaidTab
import Derived.Lib.LaidU8
import Derived.Lib.SmallJoins
import Derived.Lay
import Derived.LaidLaws
namespace Go.Proofs.YtgfmodfakcbgfaaDoor
open Go.ChangeShapes Go.WideShapes Go.ChangeAt Go.RowKit Go.Mem

theorem own : ownKnob Tryd.prog.godebug = none := by kernel_rfl
theorem laidOut : laidOutB Tryd.prog = true := by kernel_rfl
theorem gPow : Tryd.prog.globalNamed "internal/strconv.uint64pow10" = some 0 := by kernel_rfl
theorem gPowType : (Tryd.prog.globals[0]?).map (·.type) = some 67 := by kernel_rfl
theorem cellsPow : Tryd.prog.cellsOf 67 = 20 := by kernel_rfl
theorem cellsU64 : Tryd.prog.cellsOf 60 = 1 := by kernel_rfl
theorem cellsAt : Tryd.prog.cellsOf 24 = 2 := by kernel_rfl
abbrev theList : List (String × DataW Unit) := [("math/bits.deBruijn32tab", Rows.laid_math_bits_deBruijn32tab), ("math/bits.deBruijn64tab", Rows.laid_math_bits_deBruijn64tab), ("internal/strconv.uint64pow10", Rows.laid_internal_strconv_uint64pow10)]

theorem gok {W : World} (h : laidMetH Tryd.prog theList W) : GOk W.heap.size W := by
  have h1 := h.filter (fun x => x.1 == "internal/strconv.uint64pow10")
  have h2 : theList.filter (fun x => x.1 == "internal/strconv.uint64pow10") = [("internal/strconv.uint64pow10", Rows.laid_internal_strconv_uint64pow10)] := by kernel_rfl
  rw [h2] at h1
  exact Lib.tabBelow_of_tabIs (Lib.tabIs_of_head (rest := []) (zs := Lib.pow10Tab) gPow gPowType Tryd.underlying67 Tryd.underlying60 cellsU64 cellsPow h1)
theorem laid_met (os : Os) (args : Array Value) : laidMet Tryd.prog theList ((World.laidAll Tryd.prog os theList).forCall (fun _ _ => 0) ⟨#[], args, []⟩).memory :=
  laidMet_laidAll args (by kernel_rfl) (by kernel_rfl)
theorem list_len (s : ByteArray) (h : s.size ≤ maxLen) : s.data.toList.length ≤ maxLen := by
  rw [bytes_len]
  exact h
/-- a time that came in -/
theorem open_at {H : Type} {enc : TypeId × Value → H} {w : World} {base b0 : Nat} {spare : Nat → Bool} {held : Bool} {r : Reach} {v : Value} {d : DataW H} {p : List MemPlace}
    (hv : Value.okWide Tryd.prog w r b0 24 v) (h : DataW.Trod enc Tryd.prog w base spare held 24 v d p) : ∃ n k : Int, v = atI n k := by
  obtain ⟨v0, v1, y0, y1, m, rfl, -, -, t0, t1⟩ := Go.Joins.open_agg2 Tryd.underlying24 (by kernel_rfl) cellsAt hv h
  obtain ⟨n, e0, -, -⟩ := DataW.trod_int Tryd.underlying3 t0
  obtain ⟨k, e1, -, -⟩ := DataW.trod_int Tryd.underlying3 t1
  simp at e0 e1
  subst e0 e1
  exact ⟨n, k, rfl⟩
end Go.Proofs.YtgfmodfakcbgfaaDoor
