import Derived.Test.YtgcheollgnhdlaaGreatDoorCards
import Derived.Test.YtgcheollgnhdlaaGreatDoorTie
import Derived.Test.YtgcheollgnhdlaaGreatDoorLco
import Derived.ShutString
import Derived.ChangeOld
import Derived.ChangeMaps5
import Derived.ProofKit
import Derived.OpenShut
import Derived.JoinedCond
import Derived.Deep.DeepHandedRow
import Derived.Deep.DeepWitnessRowRef
import Derived.Lib.LaidTab
import Derived.Lib.LaidU8
import Derived.Lib.SmallJoins
import Derived.Lay
import Derived.LaidLaws
import Derived.Shelf.Vars
namespace Go.Proofs.YtgcheollgnhdlaaGreatDoor
open Go.ChangeShapes Go.WideShapes Go.ChangeAt Go.RowKit Go.Mem Go.Dfm

theorem own : ownKnob Tryz.prog.godebug = none := by kernel_rfl
theorem laidOut : laidOutB Tryz.prog = true := by kernel_rfl
theorem gPow : Tryz.prog.globalNamed "internal/strconv.uint64pow10" = some 5 := by kernel_rfl
theorem gPowType : (Tryz.prog.globals[5]?).map (·.type) = some 168 := by kernel_rfl
theorem cellsPow : Tryz.prog.cellsOf 168 = 20 := by kernel_rfl
theorem cellsU64 : Tryz.prog.cellsOf 146 = 1 := by kernel_rfl
theorem gLen : Tryz.prog.globalNamed "noonmark/civil.lengths" = some 6 := by kernel_rfl
theorem gLenType : (Tryz.prog.globals[6]?).map (·.type) = some 194 := by kernel_rfl
theorem cellsArr : Tryz.prog.cellsOf 194 = 12 := by kernel_rfl
theorem cellsInt : Tryz.prog.cellsOf 3 = 1 := by kernel_rfl
theorem cellsStr : Tryz.prog.cellsOf 9 = 1 := by kernel_rfl
theorem gMarks : Tryz.prog.globalNamed "noonmark/dayform.marks" = some 0 := by kernel_rfl
theorem gMarksType : (Tryz.prog.globals[0]?).map (·.type) = some 93 := by kernel_rfl
theorem gNames : Tryz.prog.globalNamed "noonmark/dayform.dayNames" = some 1 := by kernel_rfl
theorem gNamesType : (Tryz.prog.globals[1]?).map (·.type) = some 94 := by kernel_rfl
theorem gSyn : Tryz.prog.globalNamed "strconv.ErrSyntax" = some 9 := by kernel_rfl
theorem gSynType : (Tryz.prog.globals[9]?).map (·.type) = some 153 := by kernel_rfl
theorem gRan : Tryz.prog.globalNamed "strconv.ErrRange" = some 10 := by kernel_rfl
theorem gRanType : (Tryz.prog.globals[10]?).map (·.type) = some 153 := by kernel_rfl
theorem gCounts : Tryz.prog.globalNamed "noonmark/line.counts" = some 2 := by kernel_rfl
theorem gCountsType : (Tryz.prog.globals[2]?).map (·.type) = some 99 := by kernel_rfl
theorem gSlots : Tryz.prog.globalNamed "noonmark/line.slots" = some 3 := by kernel_rfl
theorem gSlotsType : (Tryz.prog.globals[3]?).map (·.type) = some 164 := by kernel_rfl
theorem cellsPair : Tryz.prog.cellsOf 98 = 2 := by kernel_rfl
abbrev theList : List (String × DataW Unit) := [("math/bits.deBruijn32tab", Rows.laid_math_bits_deBruijn32tab), ("math/bits.deBruijn64tab", Rows.laid_math_bits_deBruijn64tab), ("internal/strconv.uint64pow10", Rows.laid_internal_strconv_uint64pow10), ("noonmark/civil.lengths", Rows.laid_noonmark_civil_lengths), ("unicode/utf8.acceptRanges", Rows.laid_unicode_utf8_acceptRanges), ("strconv.ErrRange", Rows.laid_strconv_ErrRange), ("strconv.ErrSyntax", Rows.laid_strconv_ErrSyntax), ("noonmark/dayform.marks", Rows.laid_noonmark_dayform_marks), ("noonmark/dayform.dayNames", Rows.laid_noonmark_dayform_dayNames), ("noonmark/line.counts", Rows.laid_noonmark_line_counts), ("noonmark/line.slots", Rows.laid_noonmark_line_slots), ("unicode/utf8.first", Rows.laid_unicode_utf8_first)]

theorem lok {W : World} (h : laidMetH Tryz.prog theList W) : S6.LOk W := by
  have h1 := h.filter (fun x => x.1 == "noonmark/civil.lengths")
  have h2 : theList.filter (fun x => x.1 == "noonmark/civil.lengths") = [("noonmark/civil.lengths", Rows.laid_noonmark_civil_lengths)] := by kernel_rfl
  rw [h2] at h1
  have ht := Lib.tabIs_of_head (rest := []) (zs := S6.lenTab) gLen gLenType Tryz.underlying194 Tryz.underlying3 cellsInt cellsArr h1
  exact fun i hi => ht.cell gLen i hi
theorem table {W : World} (h : laidMetH Tryz.prog theList W) : Lib.TabBelow Tryz.prog W.heap.size W "internal/strconv.uint64pow10" .u64 Lib.pow10Tab := by
  have h1 := h.filter (fun x => x.1 == "internal/strconv.uint64pow10")
  have h2 : theList.filter (fun x => x.1 == "internal/strconv.uint64pow10") = [("internal/strconv.uint64pow10", Rows.laid_internal_strconv_uint64pow10)] := by kernel_rfl
  rw [h2] at h1
  exact Lib.tabBelow_of_tabIs (Lib.tabIs_of_head (rest := []) (zs := Lib.pow10Tab) gPow gPowType Tryz.underlying168 Tryz.underlying146 cellsU64 cellsPow h1)
set_option maxRecDepth 100000 in
/-- an array of strings that is laid -/
theorem strs_laid {W : World} {name : String} {g : Nat} {t : TypeId} {n : Nat} {zs : List Go.Lin.Bs} (hg : Tryz.prog.globalNamed name = some g) (hty : (Tryz.prog.globals[g]?).map (·.type) = some t) (ht : Tryz.prog.underlying t = some (.array n 9))
    (h : Lib.VarReads Tryz.prog W name (.agg (zs.map fun z => .lit (.string z)))) (i : Nat) (hi : i < n) : W.cell? ⟨g, i, none⟩ = some (strV (zs.getD i [])) := by
  obtain ⟨g', t', cs, fuel, p, hg', ht', hv, hd⟩ := h
  obtain rfl := Option.some.inj (hg.symm.trans hg')
  obtain rfl := Option.some.inj (hty.symm.trans ht')
  obtain ⟨f', d, q, hds, he⟩ := Lib.array_elem ht hd i hi
  rw [cellsStr, Nat.mul_one] at he
  obtain ⟨s, hs, hx, _⟩ := DataW.trod_string Tryz.underlying9 he
  have hd2 : d = .lit (.string s.data.toList) := congrArg Prod.fst hx
  rw [List.getElem?_map, hd2] at hds
  obtain ⟨z, hz, e⟩ := Option.map_eq_some_iff.1 hds
  injection e with e
  injection e with e
  have hc := World.var?_cell hg hv i
  have h1 := congrArg (·[0]?) hs
  simp only [List.getElem?_take, List.getElem?_drop, Nat.add_zero] at h1
  rw [if_pos (by decide)] at h1
  rw [hc, ← Array.getElem?_toList, h1, List.getD_eq_getElem?_getD, hz]
  show some (Value.string s) = some (strV z)
  rw [e]
/-- an array of pairs of ints that is laid -/
theorem pairs_laid {W : World} {name : String} {g : Nat} {t : TypeId} {n : Nat} {zs : List (Int × Int)} (hg : Tryz.prog.globalNamed name = some g) (hty : (Tryz.prog.globals[g]?).map (·.type) = some t) (ht : Tryz.prog.underlying t = some (.array n 98))
    (h : Lib.VarReads Tryz.prog W name (.agg (zs.map fun z => .agg [.lit (.int .i64 z.1), .lit (.int .i64 z.2)]))) (i : Nat) (hi : i < n) :
    W.cell? ⟨g, i * 2, none⟩ = some (intV (zs.getD i (0, 0)).1) ∧ W.cell? ⟨g, i * 2 + 1, none⟩ = some (intV (zs.getD i (0, 0)).2) := by
  obtain ⟨g', t', cs, fuel, p, hg', ht', hv, hd⟩ := h
  obtain rfl := Option.some.inj (hg.symm.trans hg')
  obtain rfl := Option.some.inj (hty.symm.trans ht')
  obtain ⟨f', d, q, hds, he⟩ := Lib.array_elem ht hd i hi
  rw [cellsPair] at he
  obtain ⟨xs, m, -, hx, -, hlen, hf⟩ := DataW.trod_struct Tryz.underlying98 he
  obtain ⟨x0, x1, rfl⟩ : ∃ x0 x1, xs = [x0, x1] := by
    match xs, hlen with
    | [a, b], _ => exact ⟨a, b, rfl⟩
  have a0 := hf 0 _ rfl
  have a1 := hf 1 _ rfl
  obtain ⟨n0, e0, g0, -⟩ := DataW.trod_int Tryz.underlying3 a0
  obtain ⟨n1, e1, g1, -⟩ := DataW.trod_int Tryz.underlying3 a1
  have h0 := congrArg (·[0]?) e0
  have h1 := congrArg (·[0]?) e1
  simp [cellsInt, List.getElem?_drop] at h0 h1
  have hd2 : d = .agg [x0.1, x1.1] := congrArg Prod.fst hx
  rw [g0, g1] at hd2
  rw [List.getElem?_map, hd2] at hds
  obtain ⟨z, hz, e⟩ := Option.map_eq_some_iff.1 hds
  injection e with e
  injection e with b0 b1
  injection b0 with b0
  injection b0 with _ b0
  injection b1 with b1 _
  injection b1 with b1
  injection b1 with _ b1
  have hgd : zs.getD i (0, 0) = z := by rw [List.getD_eq_getElem?_getD, hz]; rfl
  rw [hgd, b0, b1]
  refine ⟨?_, ?_⟩
  · rw [World.var?_cell hg hv (i * 2)]
    exact h0
  · rw [World.var?_cell hg hv (i * 2 + 1)]
    exact h1
theorem errs_laid {W : World} {name : String} {g : Nat} {dt : DataW Unit} {nm : String} {d : DataW Unit} (hd0 : dt = .iface nm d) (hg : Tryz.prog.globalNamed name = some g) (hty : (Tryz.prog.globals[g]?).map (·.type) = some 153)
    (h : Lib.VarReads Tryz.prog W name dt) : ∃ t p, W.cell? ⟨g, 0, none⟩ = some (.iface t p) := by
  subst hd0
  obtain ⟨g', t', cs, fuel, p, hg', ht', hv, hd⟩ := h
  obtain rfl := Option.some.inj (hg.symm.trans hg')
  obtain rfl := Option.some.inj (hty.symm.trans ht')
  obtain ⟨_, u, v, hcs, _, _⟩ := iface_of_trod Tryz.underlying153 hd
  have hc := World.var?_cell hg hv 0
  refine ⟨u, v, ?_⟩
  rw [hc, ← Array.getElem?_toList, hcs]
  rfl
theorem reads4 {W : World} (h : laidMetH Tryz.prog theList W) : Lib.VarReads Tryz.prog W "strconv.ErrRange" Rows.laid_strconv_ErrRange := by
  have h1 := h.filter (fun x => x.1 == "strconv.ErrRange")
  have h2 : theList.filter (fun x => x.1 == "strconv.ErrRange") = [("strconv.ErrRange", Rows.laid_strconv_ErrRange)] := by kernel_rfl
  rw [h2] at h1
  exact Lib.laidMet.reads h1 (.head _)
theorem reads5 {W : World} (h : laidMetH Tryz.prog theList W) : Lib.VarReads Tryz.prog W "strconv.ErrSyntax" Rows.laid_strconv_ErrSyntax := by
  have h1 := h.filter (fun x => x.1 == "strconv.ErrSyntax")
  have h2 : theList.filter (fun x => x.1 == "strconv.ErrSyntax") = [("strconv.ErrSyntax", Rows.laid_strconv_ErrSyntax)] := by kernel_rfl
  rw [h2] at h1
  exact Lib.laidMet.reads h1 (.head _)
theorem reads6 {W : World} (h : laidMetH Tryz.prog theList W) : Lib.VarReads Tryz.prog W "noonmark/dayform.marks" Rows.laid_noonmark_dayform_marks := by
  have h1 := h.filter (fun x => x.1 == "noonmark/dayform.marks")
  have h2 : theList.filter (fun x => x.1 == "noonmark/dayform.marks") = [("noonmark/dayform.marks", Rows.laid_noonmark_dayform_marks)] := by kernel_rfl
  rw [h2] at h1
  exact Lib.laidMet.reads h1 (.head _)
theorem reads7 {W : World} (h : laidMetH Tryz.prog theList W) : Lib.VarReads Tryz.prog W "noonmark/dayform.dayNames" Rows.laid_noonmark_dayform_dayNames := by
  have h1 := h.filter (fun x => x.1 == "noonmark/dayform.dayNames")
  have h2 : theList.filter (fun x => x.1 == "noonmark/dayform.dayNames") = [("noonmark/dayform.dayNames", Rows.laid_noonmark_dayform_dayNames)] := by kernel_rfl
  rw [h2] at h1
  exact Lib.laidMet.reads h1 (.head _)
theorem reads8 {W : World} (h : laidMetH Tryz.prog theList W) : Lib.VarReads Tryz.prog W "noonmark/line.counts" Rows.laid_noonmark_line_counts := by
  have h1 := h.filter (fun x => x.1 == "noonmark/line.counts")
  have h2 : theList.filter (fun x => x.1 == "noonmark/line.counts") = [("noonmark/line.counts", Rows.laid_noonmark_line_counts)] := by kernel_rfl
  rw [h2] at h1
  exact Lib.laidMet.reads h1 (.head _)
theorem reads9 {W : World} (h : laidMetH Tryz.prog theList W) : Lib.VarReads Tryz.prog W "noonmark/line.slots" Rows.laid_noonmark_line_slots := by
  have h1 := h.filter (fun x => x.1 == "noonmark/line.slots")
  have h2 : theList.filter (fun x => x.1 == "noonmark/line.slots") = [("noonmark/line.slots", Rows.laid_noonmark_line_slots)] := by kernel_rfl
  rw [h2] at h1
  exact Lib.laidMet.reads h1 (.head _)
def pairsT : List (Int × Int) := [(0, 0), (10, 10), (5, 9), (3, 7), (3, 3)]
theorem counts_laid {W : World} (h : laidMetH Tryz.prog theList W) (i : Nat) (hi : i < 10) : W.cell? ⟨2, i, none⟩ = some (intV (countsT.getD i 0)) := by
  have hk : ∀ j : Fin 5, countsT.getD (j.val * 2) 0 = (pairsT.getD j.val (0, 0)).1 ∧ countsT.getD (j.val * 2 + 1) 0 = (pairsT.getD j.val (0, 0)).2 := by decide
  obtain ⟨j, hj, e⟩ : ∃ j, j < 5 ∧ (i = j * 2 ∨ i = j * 2 + 1) := ⟨i / 2, by omega, by omega⟩
  have hp := pairs_laid (zs := pairsT) gCounts gCountsType Tryz.underlying99 (reads8 h) j hj
  rcases e with e | e
  · rw [e, hp.1, (hk ⟨j, hj⟩).1]
  · rw [e, hp.2, (hk ⟨j, hj⟩).2]
theorem maxLen_laid {W : World} (h : W.ShapedOpen Tryz.prog) : ∃ m, W.cell? ⟨4, 0, none⟩ = some (.int .i64 m) :=
  Go.Proofs.cell_of_shapedOpen_int (zero := #[.int .i64 0]) (t := 3) h (of_decide_eq_true (by kernel_rfl)) (by kernel_rfl) rfl (by kernel_rfl) (by kernel_rfl) Tryz.underlying3
theorem wok {W : World} (h : laidMetH Tryz.prog theList W) (hs : W.ShapedOpen Tryz.prog) : LOk W := by
  refine ⟨⟨lok h, ⟨_, Nat.le_refl _, table h⟩, maxLen_laid hs, ?_, ?_, fun i hi => ?_, fun i hi => ?_⟩, fun i hi => ?_, fun i hi => counts_laid h i hi⟩
  · exact errs_laid rfl gSyn gSynType (reads5 h)
  · exact errs_laid rfl gRan gRanType (reads4 h)
  · exact strs_laid (zs := S6.marksT) gMarks gMarksType Tryz.underlying93 (reads6 h) i hi
  · exact strs_laid (zs := namesT) gNames gNamesType Tryz.underlying94 (reads7 h) i hi
  · exact strs_laid (zs := Go.Lin.slotW) gSlots gSlotsType Tryz.underlying164 (reads9 h) i hi
theorem laid_met (os : Os) (args : Array Value) : laidMet Tryz.prog theList ((World.laidAll Tryz.prog os theList).forCall (fun _ _ => 0) ⟨#[], args, []⟩).memory :=
  laidMet_laidAll args (by kernel_rfl) (by kernel_rfl)
end Go.Proofs.YtgcheollgnhdlaaGreatDoor
