import Derived.Test.YtbolgodoifbnnaaDoorCards
import Derived.Test.YtbolgodoifbnnaaDoorTie
import Derived.Test.YtbolgodoifbnnaaDoorRpi
import Derived.ShutString
import Derived.ChangeOld
import Derived.ChangeMaps5
import Derived.ProofKit
import Derived.OpenShut
import Derived.JoinedCond
import Derived.Deep.DeepHandedRow
import Derived.Deep.DeepWitnessRowRef
import Derived.Lib.LaidTab
import Derived.Lib.LaidU8
import Derived.Lay
import Derived.LaidLaws
namespace Go.Proofs.YtbolgodoifbnnaaDoor
open Go.ChangeShapes Go.WideShapes Go.ChangeAt Go.RowKit Go.Mem

theorem own : ownKnob Tryd.prog.godebug = none := by kernel_rfl
theorem laidOut : laidOutB Tryd.prog = true := by kernel_rfl
theorem gPow : Tryd.prog.globalNamed "internal/strconv.uint64pow10" = some 2 := by kernel_rfl
theorem gPowType : (Tryd.prog.globals[2]?).map (·.type) = some 93 := by kernel_rfl
theorem cellsPow : Tryd.prog.cellsOf 93 = 20 := by kernel_rfl
theorem cellsU64 : Tryd.prog.cellsOf 71 = 1 := by kernel_rfl
theorem gErr : Tryd.prog.globalNamed "strconv.ErrRange" = some 1 := by kernel_rfl
theorem gErrType : (Tryd.prog.globals[1]?).map (·.type) = some 41 := by kernel_rfl
abbrev theList : List (String × DataW Unit) := [("math/bits.deBruijn32tab", Rows.laid_math_bits_deBruijn32tab), ("math/bits.deBruijn64tab", Rows.laid_math_bits_deBruijn64tab), ("internal/strconv.uint64pow10", Rows.laid_internal_strconv_uint64pow10), ("strconv.ErrRange", Rows.laid_strconv_ErrRange), ("strconv.ErrSyntax", Rows.laid_strconv_ErrSyntax)]

theorem table {W : World} (h : laidMetH Tryd.prog theList W) : Lib.TabBelow Tryd.prog W.heap.size W "internal/strconv.uint64pow10" .u64 Lib.pow10Tab := by
  have h1 := h.filter (fun x => x.1 == "internal/strconv.uint64pow10")
  have h2 : theList.filter (fun x => x.1 == "internal/strconv.uint64pow10") = [("internal/strconv.uint64pow10", Rows.laid_internal_strconv_uint64pow10)] := by kernel_rfl
  rw [h2] at h1
  exact Lib.tabBelow_of_tabIs (Lib.tabIs_of_head (rest := []) (zs := Lib.pow10Tab) gPow gPowType Tryd.underlying93 Tryd.underlying71 cellsU64 cellsPow h1)
/-- a variable that holds an interface value keeps it below -/
theorem var_below {w w' : World} {name : String} {cs : Array Value} (h : w.var? Tryd.prog name = some cs) (hb : Below w.heap.size w w') : w'.var? Tryd.prog name = some cs := by
  unfold World.var? at *
  cases hg : Tryd.prog.globalNamed name with
  | none => simp [hg] at h
  | some g =>
    simp only [hg, Option.bind_some] at h ⊢
    have hlt : g < w.heap.size := by
      rcases Nat.lt_or_ge g w.heap.size with h' | h'
      · exact h'
      · simp [Array.getElem?_eq_none h'] at h
    rw [hb.block g hlt]
    exact h
theorem errRange {W : World} (h : laidMetH Tryd.prog theList W) : ∃ tp p, ∀ w', Below W.heap.size W w' → w'.var? Tryd.prog "strconv.ErrRange" = some #[.iface tp p] := by
  have h := (laidMetH_iff.1 h).1
  obtain ⟨g, t, cs, fuel, p, hg, ht, hv, hd⟩ := Lib.laidMet.reads h (n := "strconv.ErrRange") (d := Rows.laid_strconv_ErrRange) (List.mem_filter.2 ⟨by simp [theList], by kernel_rfl⟩)
  obtain rfl : g = 1 := (Option.some.inj (gErr.symm.trans hg)).symm
  obtain rfl : t = 41 := (Option.some.inj (gErrType.symm.trans ht)).symm
  obtain ⟨_, u, v, hcs, _, _⟩ := iface_of_trod Tryd.underlying41 hd
  have hc : cs = #[.iface u v] := by
    cases cs
    simpa using hcs
  rw [hc] at hv
  exact ⟨u, v, fun w' hb => var_below hv hb⟩
theorem gok {W : World} (h : laidMetH Tryd.prog theList W) : GOk W.heap.size W := ⟨table h, errRange h⟩
theorem laid_met (os : Os) (args : Array Value) : laidMet Tryd.prog theList ((World.laidAll Tryd.prog os theList).forCall (fun _ _ => 0) ⟨#[], args, []⟩).memory :=
  laidMet_laidAll args (by kernel_rfl) (by kernel_rfl)
end Go.Proofs.YtbolgodoifbnnaaDoor
