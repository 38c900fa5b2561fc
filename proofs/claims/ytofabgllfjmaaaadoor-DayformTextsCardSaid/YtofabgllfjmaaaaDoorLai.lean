import Derived.Test.YtofabgllfjmaaaaDoorCards
import Derived.Test.YtofabgllfjmaaaaDoorTie
import Derived.Test.YtofabgllfjmaaaaDoorLcs
import Derived.ShutString
import Derived.ChangeOld
import Derived.ChangeMaps5
import Derived.ProofKit
import Derived.OpenShut
import Derived.JoinedCond
import Derived.Deep.DeepHandedRow
import Derived.Deep.DeepWitnessRowRef
import Derived.Lib.LaidTab
import Derived.Lib.LaidU8
import Derived.Lib.SmallJoins
import Derived.Lay
import Derived.LaidLaws
namespace Go.Proofs.YtofabgllfjmaaaaDoor
open Go.ChangeShapes Go.WideShapes Go.ChangeAt Go.RowKit Go.Mem Go.Dfm

theorem own : ownKnob Tryd.prog.godebug = none := by kernel_rfl
theorem laidOut : laidOutB Tryd.prog = true := by kernel_rfl
theorem gPow : Tryd.prog.globalNamed "internal/strconv.uint64pow10" = some 4 := by kernel_rfl
theorem gPowType : (Tryd.prog.globals[4]?).map (·.type) = some 87 := by kernel_rfl
theorem cellsPow : Tryd.prog.cellsOf 87 = 20 := by kernel_rfl
theorem cellsU64 : Tryd.prog.cellsOf 72 = 1 := by kernel_rfl
theorem gLen : Tryd.prog.globalNamed "noonmark/civil.lengths" = some 2 := by kernel_rfl
theorem gLenType : (Tryd.prog.globals[2]?).map (·.type) = some 51 := by kernel_rfl
theorem cellsArr : Tryd.prog.cellsOf 51 = 12 := by kernel_rfl
theorem cellsInt : Tryd.prog.cellsOf 3 = 1 := by kernel_rfl
theorem cellsStr : Tryd.prog.cellsOf 9 = 1 := by kernel_rfl
theorem cellsDay : Tryd.prog.cellsOf 23 = 3 := by kernel_rfl
theorem gMarks : Tryd.prog.globalNamed "noonmark/dayform.marks" = some 0 := by kernel_rfl
theorem gMarksType : (Tryd.prog.globals[0]?).map (·.type) = some 42 := by kernel_rfl
theorem gNames : Tryd.prog.globalNamed "noonmark/dayform.dayNames" = some 1 := by kernel_rfl
theorem gNamesType : (Tryd.prog.globals[1]?).map (·.type) = some 43 := by kernel_rfl
theorem gSyn : Tryd.prog.globalNamed "strconv.ErrSyntax" = some 5 := by kernel_rfl
theorem gSynType : (Tryd.prog.globals[5]?).map (·.type) = some 63 := by kernel_rfl
theorem gRan : Tryd.prog.globalNamed "strconv.ErrRange" = some 6 := by kernel_rfl
theorem gRanType : (Tryd.prog.globals[6]?).map (·.type) = some 63 := by kernel_rfl
abbrev theList : List (String × DataW Unit) := [("math/bits.deBruijn32tab", Rows.laid_math_bits_deBruijn32tab), ("math/bits.deBruijn64tab", Rows.laid_math_bits_deBruijn64tab), ("internal/strconv.uint64pow10", Rows.laid_internal_strconv_uint64pow10), ("noonmark/civil.lengths", Rows.laid_noonmark_civil_lengths), ("strconv.ErrRange", Rows.laid_strconv_ErrRange), ("strconv.ErrSyntax", Rows.laid_strconv_ErrSyntax), ("noonmark/dayform.marks", Rows.laid_noonmark_dayform_marks), ("noonmark/dayform.dayNames", Rows.laid_noonmark_dayform_dayNames)]

theorem lok {W : World} (h : laidMetH Tryd.prog theList W) : LOk W := by
  have h1 := h.filter (fun x => x.1 == "noonmark/civil.lengths")
  have h2 : theList.filter (fun x => x.1 == "noonmark/civil.lengths") = [("noonmark/civil.lengths", Rows.laid_noonmark_civil_lengths)] := by kernel_rfl
  rw [h2] at h1
  have ht := Lib.tabIs_of_head (rest := []) (zs := lenTab) gLen gLenType Tryd.underlying51 Tryd.underlying3 cellsInt cellsArr h1
  exact fun i hi => ht.cell gLen i hi
theorem table {W : World} (h : laidMetH Tryd.prog theList W) : Lib.TabBelow Tryd.prog W.heap.size W "internal/strconv.uint64pow10" .u64 Lib.pow10Tab := by
  have h1 := h.filter (fun x => x.1 == "internal/strconv.uint64pow10")
  have h2 : theList.filter (fun x => x.1 == "internal/strconv.uint64pow10") = [("internal/strconv.uint64pow10", Rows.laid_internal_strconv_uint64pow10)] := by kernel_rfl
  rw [h2] at h1
  exact Lib.tabBelow_of_tabIs (Lib.tabIs_of_head (rest := []) (zs := Lib.pow10Tab) gPow gPowType Tryd.underlying87 Tryd.underlying72 cellsU64 cellsPow h1)
set_option maxRecDepth 100000 in
/-- an array of strings that is laid -/
theorem strs_laid {W : World} {name : String} {g : Nat} {t : TypeId} {n : Nat} {zs : List Bs} (hg : Tryd.prog.globalNamed name = some g) (hty : (Tryd.prog.globals[g]?).map (·.type) = some t) (ht : Tryd.prog.underlying t = some (.array n 9))
    (h : Lib.VarReads Tryd.prog W name (.agg (zs.map fun z => .lit (.string z)))) (i : Nat) (hi : i < n) : W.cell? ⟨g, i, none⟩ = some (strV (zs.getD i [])) := by
  obtain ⟨g', t', cs, fuel, p, hg', ht', hv, hd⟩ := h
  obtain rfl := Option.some.inj (hg.symm.trans hg')
  obtain rfl := Option.some.inj (hty.symm.trans ht')
  obtain ⟨f', d, q, hds, he⟩ := Lib.array_elem ht hd i hi
  rw [cellsStr, Nat.mul_one] at he
  obtain ⟨s, hs, hx, _⟩ := DataW.trod_string Tryd.underlying9 he
  have hd2 : d = .lit (.string s.data.toList) := congrArg Prod.fst hx
  rw [List.getElem?_map, hd2] at hds
  obtain ⟨z, hz, e⟩ := Option.map_eq_some_iff.1 hds
  injection e with e
  injection e with e
  have hc := World.var?_cell hg hv i
  have h1 := congrArg (·[0]?) hs
  simp only [List.getElem?_take, List.getElem?_drop, Nat.add_zero] at h1
  rw [if_pos (by decide)] at h1
  rw [hc, ← Array.getElem?_toList, h1, List.getD_eq_getElem?_getD, hz]
  show some (Value.string s) = some (strV z)
  rw [e]
theorem errs_laid {W : World} {name : String} {g : Nat} {dt : DataW Unit} {nm : String} {d : DataW Unit} (hd0 : dt = .iface nm d) (hg : Tryd.prog.globalNamed name = some g) (hty : (Tryd.prog.globals[g]?).map (·.type) = some 63)
    (h : Lib.VarReads Tryd.prog W name dt) : ∃ t p, W.cell? ⟨g, 0, none⟩ = some (.iface t p) := by
  subst hd0
  obtain ⟨g', t', cs, fuel, p, hg', ht', hv, hd⟩ := h
  obtain rfl := Option.some.inj (hg.symm.trans hg')
  obtain rfl := Option.some.inj (hty.symm.trans ht')
  obtain ⟨_, u, v, hcs, _, _⟩ := iface_of_trod Tryd.underlying63 hd
  have hc := World.var?_cell hg hv 0
  refine ⟨u, v, ?_⟩
  rw [hc, ← Array.getElem?_toList, hcs]
  rfl
theorem reads4 {W : World} (h : laidMetH Tryd.prog theList W) : Lib.VarReads Tryd.prog W "strconv.ErrRange" Rows.laid_strconv_ErrRange := by
  have h1 := h.filter (fun x => x.1 == "strconv.ErrRange")
  have h2 : theList.filter (fun x => x.1 == "strconv.ErrRange") = [("strconv.ErrRange", Rows.laid_strconv_ErrRange)] := by kernel_rfl
  rw [h2] at h1
  exact Lib.laidMet.reads h1 (.head _)
theorem reads5 {W : World} (h : laidMetH Tryd.prog theList W) : Lib.VarReads Tryd.prog W "strconv.ErrSyntax" Rows.laid_strconv_ErrSyntax := by
  have h1 := h.filter (fun x => x.1 == "strconv.ErrSyntax")
  have h2 : theList.filter (fun x => x.1 == "strconv.ErrSyntax") = [("strconv.ErrSyntax", Rows.laid_strconv_ErrSyntax)] := by kernel_rfl
  rw [h2] at h1
  exact Lib.laidMet.reads h1 (.head _)
theorem reads6 {W : World} (h : laidMetH Tryd.prog theList W) : Lib.VarReads Tryd.prog W "noonmark/dayform.marks" Rows.laid_noonmark_dayform_marks := by
  have h1 := h.filter (fun x => x.1 == "noonmark/dayform.marks")
  have h2 : theList.filter (fun x => x.1 == "noonmark/dayform.marks") = [("noonmark/dayform.marks", Rows.laid_noonmark_dayform_marks)] := by kernel_rfl
  rw [h2] at h1
  exact Lib.laidMet.reads h1 (.head _)
theorem reads7 {W : World} (h : laidMetH Tryd.prog theList W) : Lib.VarReads Tryd.prog W "noonmark/dayform.dayNames" Rows.laid_noonmark_dayform_dayNames := by
  have h1 := h.filter (fun x => x.1 == "noonmark/dayform.dayNames")
  have h2 : theList.filter (fun x => x.1 == "noonmark/dayform.dayNames") = [("noonmark/dayform.dayNames", Rows.laid_noonmark_dayform_dayNames)] := by kernel_rfl
  rw [h2] at h1
  exact Lib.laidMet.reads h1 (.head _)
theorem maxLen_laid {W : World} (h : W.ShapedOpen Tryd.prog) : ∃ m, W.cell? ⟨3, 0, none⟩ = some (.int .i64 m) :=
  Go.Proofs.cell_of_shapedOpen_int (zero := #[.int .i64 0]) (t := 3) h (of_decide_eq_true (by kernel_rfl)) (by kernel_rfl) rfl (by kernel_rfl) (by kernel_rfl) Tryd.underlying3
theorem wok {W : World} (h : laidMetH Tryd.prog theList W) (hs : W.ShapedOpen Tryd.prog) : WOk W := by
  refine ⟨lok h, ⟨_, Nat.le_refl _, table h⟩, maxLen_laid hs, ?_, ?_, fun i hi => ?_, fun i hi => ?_⟩
  · exact errs_laid rfl gSyn gSynType (reads5 h)
  · exact errs_laid rfl gRan gRanType (reads4 h)
  · exact strs_laid (zs := marksT) gMarks gMarksType Tryd.underlying42 (reads6 h) i hi
  · exact strs_laid (zs := namesT) gNames gNamesType Tryd.underlying43 (reads7 h) i hi
theorem laid_met (os : Os) (args : Array Value) : laidMet Tryd.prog theList ((World.laidAll Tryd.prog os theList).forCall (fun _ _ => 0) ⟨#[], args, []⟩).memory :=
  laidMet_laidAll args (by kernel_rfl) (by kernel_rfl)
theorem list_len (s : ByteArray) (h : s.size ≤ maxLen) : s.data.toList.length ≤ maxLen := by
  rw [bytes_len]
  exact h

set_option maxRecDepth 100000 in
theorem open_day {H : Type} {enc : TypeId × Value → H} {w : World} {base b0 : Nat} {spare : Nat → Bool} {held : Bool} {r : Reach} {v : Value} {d : DataW H} {p : List MemPlace}
    (hv : Value.okWide Tryd.prog w r b0 23 v) (h : DataW.Trod enc Tryd.prog w base spare held 23 v d p) : ∃ k n q : Int, v = dayV k n q := by
  obtain ⟨v0, v1, v2, y0, y1, y2, m, rfl, -, -, t0, t1, t2⟩ := Go.Joins.open_agg3 Tryd.underlying23 (by kernel_rfl) cellsDay hv h
  obtain ⟨k, e0, -, -⟩ := DataW.trod_int Tryd.underlying3 t0
  obtain ⟨n, e1, -, -⟩ := DataW.trod_int Tryd.underlying3 t1
  obtain ⟨q, e2, -, -⟩ := DataW.trod_int Tryd.underlying3 t2
  simp at e0 e1 e2
  subst e0 e1 e2
  exact ⟨k, n, q, rfl⟩
end Go.Proofs.YtofabgllfjmaaaaDoor
