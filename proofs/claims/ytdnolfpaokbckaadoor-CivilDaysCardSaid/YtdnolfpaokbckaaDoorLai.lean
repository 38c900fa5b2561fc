import Derived.Test.YtdnolfpaokbckaaDoorCards
import Derived.Test.YtdnolfpaokbckaaDoorTie
import Derived.Test.YtdnolfpaokbckaaDoorAli
import Derived.ShutString
import Derived.ChangeOld
import Derived.ChangeMaps5
import Derived.ProofKit
import Derived.OpenShut
import Derived.JoinedCond
import Derived.Deep.DeepHandedRow
import Derived.Deep.DeepWitnessRowRef
import Derived.Lib.LaidTab
import Derived.Lay
import Derived.LaidLaws
namespace Go.Proofs.YtdnolfpaokbckaaDoor
open Go.ChangeShapes Go.WideShapes Go.ChangeAt Go.RowKit Go.Mem

theorem own : ownKnob Tryd.prog.godebug = none := by kernel_rfl
theorem laidOut : laidOutB Tryd.prog = true := by kernel_rfl
theorem gLen : Tryd.prog.globalNamed "noonmark/civil.lengths" = some 0 := by kernel_rfl
theorem gLenType : (Tryd.prog.globals[0]?).map (·.type) = some 36 := by kernel_rfl
theorem cellsArr : Tryd.prog.cellsOf 36 = 12 := by kernel_rfl
theorem cellsInt : Tryd.prog.cellsOf 3 = 1 := by kernel_rfl
abbrev theList : List (String × DataW Unit) := [("noonmark/civil.lengths", Rows.laid_noonmark_civil_lengths)]

theorem lok {W : World} (h : laidMetH Tryd.prog theList W) : LOk W := by
  have h1 := h.filter (fun x => x.1 == "noonmark/civil.lengths")
  have h2 : theList.filter (fun x => x.1 == "noonmark/civil.lengths") = [("noonmark/civil.lengths", Rows.laid_noonmark_civil_lengths)] := by kernel_rfl
  rw [h2] at h1
  have ht := Lib.tabIs_of_head (rest := []) (zs := lenTab) gLen gLenType Tryd.underlying36 Tryd.underlying3 cellsInt cellsArr h1
  exact fun i hi => ht.cell gLen i hi
theorem laid_met (os : Os) (args : Array Value) : laidMet Tryd.prog theList ((World.laidAll Tryd.prog os theList).forCall (fun _ _ => 0) ⟨#[], args, []⟩).memory :=
  laidMet_laidAll args (by kernel_rfl) (by kernel_rfl)
end Go.Proofs.YtdnolfpaokbckaaDoor
