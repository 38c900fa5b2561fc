import Derived.Test.YtodcnbejnchmhaaGreatDoorCards
import Derived.Test.YtodcnbejnchmhaaGreatDoorTie
import Derived.Test.YtodcnbejnchmhaaGreatDoorYb19
import Derived.ShutString
import Derived.ChangeOld
import Derived.ChangeMaps5
import Derived.ProofKit
import Derived.OpenShut
import Derived.JoinedCond
import Derived.Deep.DeepHandedRow
import Derived.Deep.DeepWitnessRowRef
import Derived.Lib.LaidTab
import Derived.Lib.LaidU8
import Derived.Lib.SmallJoins
import Derived.Lay
import Derived.LaidLaws
import Derived.Shelf.Vars
import Derived.Test.YtodcnbejnchmhaaGreatDoorYb13
import Derived.Test.YtodcnbejnchmhaaGreatDoorYb14
import Derived.Test.YtodcnbejnchmhaaGreatDoorYb09
import Derived.Test.YtodcnbejnchmhaaGreatDoorYb15
import Derived.Deep.MidRow
import Derived.Great.BuildSlice
import Derived.Laws.OwnMore
import Derived.OwnWalk
import Derived.Lib.Hide
import Derived.LoopTactic
import Derived.IntWalk
import Derived.Deep.RegionHeld
namespace Go.Proofs.YtodcnbejnchmhaaGreatDoor
open Go.ChangeShapes Go.WideShapes Go.ChangeAt Go.RowKit Go.Mem Go.Dfm

theorem own : ownKnob Tryz.prog.godebug = none := by kernel_rfl
theorem laidOut : laidOutB Tryz.prog = true := by kernel_rfl
theorem gPow : Tryz.prog.globalNamed "internal/strconv.uint64pow10" = some 10 := by kernel_rfl
theorem gPowType : (Tryz.prog.globals[10]?).map (·.type) = some 298 := by kernel_rfl
theorem cellsPow : Tryz.prog.cellsOf 298 = 20 := by kernel_rfl
theorem cellsU64 : Tryz.prog.cellsOf 275 = 1 := by kernel_rfl
theorem gLen : Tryz.prog.globalNamed "noonmark/civil.lengths" = some 7 := by kernel_rfl
theorem gLenType : (Tryz.prog.globals[7]?).map (·.type) = some 284 := by kernel_rfl
theorem cellsArr : Tryz.prog.cellsOf 284 = 12 := by kernel_rfl
theorem cellsInt : Tryz.prog.cellsOf 3 = 1 := by kernel_rfl
theorem cellsStr : Tryz.prog.cellsOf 9 = 1 := by kernel_rfl
theorem gMarks : Tryz.prog.globalNamed "noonmark/dayform.marks" = some 5 := by kernel_rfl
theorem gMarksType : (Tryz.prog.globals[5]?).map (·.type) = some 269 := by kernel_rfl
theorem gNames : Tryz.prog.globalNamed "noonmark/dayform.dayNames" = some 6 := by kernel_rfl
theorem gNamesType : (Tryz.prog.globals[6]?).map (·.type) = some 281 := by kernel_rfl
theorem gSyn : Tryz.prog.globalNamed "strconv.ErrSyntax" = some 8 := by kernel_rfl
theorem gSynType : (Tryz.prog.globals[8]?).map (·.type) = some 195 := by kernel_rfl
theorem gRan : Tryz.prog.globalNamed "strconv.ErrRange" = some 9 := by kernel_rfl
theorem gRanType : (Tryz.prog.globals[9]?).map (·.type) = some 195 := by kernel_rfl
theorem gCounts : Tryz.prog.globalNamed "noonmark/line.counts" = some 1 := by kernel_rfl
theorem gCountsType : (Tryz.prog.globals[1]?).map (·.type) = some 223 := by kernel_rfl
theorem gSlots : Tryz.prog.globalNamed "noonmark/line.slots" = some 4 := by kernel_rfl
theorem gSlotsType : (Tryz.prog.globals[4]?).map (·.type) = some 263 := by kernel_rfl
theorem cellsPair : Tryz.prog.cellsOf 222 = 2 := by kernel_rfl
abbrev theList : List (String × DataW Unit) := [("math/bits.deBruijn32tab", Rows.laid_math_bits_deBruijn32tab), ("math/bits.deBruijn64tab", Rows.laid_math_bits_deBruijn64tab), ("internal/strconv.uint64pow10", Rows.laid_internal_strconv_uint64pow10), ("noonmark/civil.lengths", Rows.laid_noonmark_civil_lengths), ("unicode/utf8.acceptRanges", Rows.laid_unicode_utf8_acceptRanges), ("strconv.ErrRange", Rows.laid_strconv_ErrRange), ("strconv.ErrSyntax", Rows.laid_strconv_ErrSyntax), ("noonmark/dayform.marks", Rows.laid_noonmark_dayform_marks), ("noonmark/dayform.dayNames", Rows.laid_noonmark_dayform_dayNames), ("noonmark/line.counts", Rows.laid_noonmark_line_counts), ("noonmark/line.slots", Rows.laid_noonmark_line_slots), ("unicode/utf8.first", Rows.laid_unicode_utf8_first)]

theorem lok {W : World} (h : laidMetH Tryz.prog theList W) : S6.LOk W := by
  have h1 := h.filter (fun x => x.1 == "noonmark/civil.lengths")
  have h2 : theList.filter (fun x => x.1 == "noonmark/civil.lengths") = [("noonmark/civil.lengths", Rows.laid_noonmark_civil_lengths)] := by kernel_rfl
  rw [h2] at h1
  have ht := Lib.tabIs_of_head (rest := []) (zs := S6.lenTab) gLen gLenType Tryz.underlying284 Tryz.underlying3 cellsInt cellsArr h1
  exact fun i hi => ht.cell gLen i hi
theorem table {W : World} (h : laidMetH Tryz.prog theList W) : Lib.TabBelow Tryz.prog W.heap.size W "internal/strconv.uint64pow10" .u64 Lib.pow10Tab := by
  have h1 := h.filter (fun x => x.1 == "internal/strconv.uint64pow10")
  have h2 : theList.filter (fun x => x.1 == "internal/strconv.uint64pow10") = [("internal/strconv.uint64pow10", Rows.laid_internal_strconv_uint64pow10)] := by kernel_rfl
  rw [h2] at h1
  exact Lib.tabBelow_of_tabIs (Lib.tabIs_of_head (rest := []) (zs := Lib.pow10Tab) gPow gPowType Tryz.underlying298 Tryz.underlying275 cellsU64 cellsPow h1)
set_option maxRecDepth 100000 in
/-- an array of strings that is laid -/
theorem strs_laid {W : World} {name : String} {g : Nat} {t : TypeId} {n : Nat} {zs : List Go.Lin.Bs} (hg : Tryz.prog.globalNamed name = some g) (hty : (Tryz.prog.globals[g]?).map (·.type) = some t) (ht : Tryz.prog.underlying t = some (.array n 9))
    (h : Lib.VarReads Tryz.prog W name (.agg (zs.map fun z => .lit (.string z)))) (i : Nat) (hi : i < n) : W.cell? ⟨g, i, none⟩ = some (strV (zs.getD i [])) := by
  obtain ⟨g', t', cs, fuel, p, hg', ht', hv, hd⟩ := h
  obtain rfl := Option.some.inj (hg.symm.trans hg')
  obtain rfl := Option.some.inj (hty.symm.trans ht')
  obtain ⟨f', d, q, hds, he⟩ := Lib.array_elem ht hd i hi
  rw [cellsStr, Nat.mul_one] at he
  obtain ⟨s, hs, hx, _⟩ := DataW.trod_string Tryz.underlying9 he
  have hd2 : d = .lit (.string s.data.toList) := congrArg Prod.fst hx
  rw [List.getElem?_map, hd2] at hds
  obtain ⟨z, hz, e⟩ := Option.map_eq_some_iff.1 hds
  injection e with e
  injection e with e
  have hc := World.var?_cell hg hv i
  have h1 := congrArg (·[0]?) hs
  simp only [List.getElem?_take, List.getElem?_drop, Nat.add_zero] at h1
  rw [if_pos (by decide)] at h1
  rw [hc, ← Array.getElem?_toList, h1, List.getD_eq_getElem?_getD, hz]
  show some (Value.string s) = some (strV z)
  rw [e]
/-- an array of pairs of ints that is laid -/
theorem pairs_laid {W : World} {name : String} {g : Nat} {t : TypeId} {n : Nat} {zs : List (Int × Int)} (hg : Tryz.prog.globalNamed name = some g) (hty : (Tryz.prog.globals[g]?).map (·.type) = some t) (ht : Tryz.prog.underlying t = some (.array n 222))
    (h : Lib.VarReads Tryz.prog W name (.agg (zs.map fun z => .agg [.lit (.int .i64 z.1), .lit (.int .i64 z.2)]))) (i : Nat) (hi : i < n) :
    W.cell? ⟨g, i * 2, none⟩ = some (intV (zs.getD i (0, 0)).1) ∧ W.cell? ⟨g, i * 2 + 1, none⟩ = some (intV (zs.getD i (0, 0)).2) := by
  obtain ⟨g', t', cs, fuel, p, hg', ht', hv, hd⟩ := h
  obtain rfl := Option.some.inj (hg.symm.trans hg')
  obtain rfl := Option.some.inj (hty.symm.trans ht')
  obtain ⟨f', d, q, hds, he⟩ := Lib.array_elem ht hd i hi
  rw [cellsPair] at he
  obtain ⟨xs, m, -, hx, -, hlen, hf⟩ := DataW.trod_struct Tryz.underlying222 he
  obtain ⟨x0, x1, rfl⟩ : ∃ x0 x1, xs = [x0, x1] := by
    match xs, hlen with
    | [a, b], _ => exact ⟨a, b, rfl⟩
  have a0 := hf 0 _ rfl
  have a1 := hf 1 _ rfl
  obtain ⟨n0, e0, g0, -⟩ := DataW.trod_int Tryz.underlying3 a0
  obtain ⟨n1, e1, g1, -⟩ := DataW.trod_int Tryz.underlying3 a1
  have h0 := congrArg (·[0]?) e0
  have h1 := congrArg (·[0]?) e1
  simp [cellsInt, List.getElem?_drop] at h0 h1
  have hd2 : d = .agg [x0.1, x1.1] := congrArg Prod.fst hx
  rw [g0, g1] at hd2
  rw [List.getElem?_map, hd2] at hds
  obtain ⟨z, hz, e⟩ := Option.map_eq_some_iff.1 hds
  injection e with e
  injection e with b0 b1
  injection b0 with b0
  injection b0 with _ b0
  injection b1 with b1 _
  injection b1 with b1
  injection b1 with _ b1
  have hgd : zs.getD i (0, 0) = z := by rw [List.getD_eq_getElem?_getD, hz]; rfl
  rw [hgd, b0, b1]
  refine ⟨?_, ?_⟩
  · rw [World.var?_cell hg hv (i * 2)]
    exact h0
  · rw [World.var?_cell hg hv (i * 2 + 1)]
    exact h1
theorem errs_laid {W : World} {name : String} {g : Nat} {dt : DataW Unit} {nm : String} {d : DataW Unit} (hd0 : dt = .iface nm d) (hg : Tryz.prog.globalNamed name = some g) (hty : (Tryz.prog.globals[g]?).map (·.type) = some 195)
    (h : Lib.VarReads Tryz.prog W name dt) : ∃ t p, W.cell? ⟨g, 0, none⟩ = some (.iface t p) := by
  subst hd0
  obtain ⟨g', t', cs, fuel, p, hg', ht', hv, hd⟩ := h
  obtain rfl := Option.some.inj (hg.symm.trans hg')
  obtain rfl := Option.some.inj (hty.symm.trans ht')
  obtain ⟨_, u, v, hcs, _, _⟩ := iface_of_trod Tryz.underlying195 hd
  have hc := World.var?_cell hg hv 0
  refine ⟨u, v, ?_⟩
  rw [hc, ← Array.getElem?_toList, hcs]
  rfl
theorem reads4 {W : World} (h : laidMetH Tryz.prog theList W) : Lib.VarReads Tryz.prog W "strconv.ErrRange" Rows.laid_strconv_ErrRange := by
  have h1 := h.filter (fun x => x.1 == "strconv.ErrRange")
  have h2 : theList.filter (fun x => x.1 == "strconv.ErrRange") = [("strconv.ErrRange", Rows.laid_strconv_ErrRange)] := by kernel_rfl
  rw [h2] at h1
  exact Lib.laidMet.reads h1 (.head _)
theorem reads5 {W : World} (h : laidMetH Tryz.prog theList W) : Lib.VarReads Tryz.prog W "strconv.ErrSyntax" Rows.laid_strconv_ErrSyntax := by
  have h1 := h.filter (fun x => x.1 == "strconv.ErrSyntax")
  have h2 : theList.filter (fun x => x.1 == "strconv.ErrSyntax") = [("strconv.ErrSyntax", Rows.laid_strconv_ErrSyntax)] := by kernel_rfl
  rw [h2] at h1
  exact Lib.laidMet.reads h1 (.head _)
theorem reads6 {W : World} (h : laidMetH Tryz.prog theList W) : Lib.VarReads Tryz.prog W "noonmark/dayform.marks" Rows.laid_noonmark_dayform_marks := by
  have h1 := h.filter (fun x => x.1 == "noonmark/dayform.marks")
  have h2 : theList.filter (fun x => x.1 == "noonmark/dayform.marks") = [("noonmark/dayform.marks", Rows.laid_noonmark_dayform_marks)] := by kernel_rfl
  rw [h2] at h1
  exact Lib.laidMet.reads h1 (.head _)
theorem reads7 {W : World} (h : laidMetH Tryz.prog theList W) : Lib.VarReads Tryz.prog W "noonmark/dayform.dayNames" Rows.laid_noonmark_dayform_dayNames := by
  have h1 := h.filter (fun x => x.1 == "noonmark/dayform.dayNames")
  have h2 : theList.filter (fun x => x.1 == "noonmark/dayform.dayNames") = [("noonmark/dayform.dayNames", Rows.laid_noonmark_dayform_dayNames)] := by kernel_rfl
  rw [h2] at h1
  exact Lib.laidMet.reads h1 (.head _)
theorem reads8 {W : World} (h : laidMetH Tryz.prog theList W) : Lib.VarReads Tryz.prog W "noonmark/line.counts" Rows.laid_noonmark_line_counts := by
  have h1 := h.filter (fun x => x.1 == "noonmark/line.counts")
  have h2 : theList.filter (fun x => x.1 == "noonmark/line.counts") = [("noonmark/line.counts", Rows.laid_noonmark_line_counts)] := by kernel_rfl
  rw [h2] at h1
  exact Lib.laidMet.reads h1 (.head _)
theorem reads9 {W : World} (h : laidMetH Tryz.prog theList W) : Lib.VarReads Tryz.prog W "noonmark/line.slots" Rows.laid_noonmark_line_slots := by
  have h1 := h.filter (fun x => x.1 == "noonmark/line.slots")
  have h2 : theList.filter (fun x => x.1 == "noonmark/line.slots") = [("noonmark/line.slots", Rows.laid_noonmark_line_slots)] := by kernel_rfl
  rw [h2] at h1
  exact Lib.laidMet.reads h1 (.head _)
def pairsT : List (Int × Int) := [(0, 0), (10, 10), (5, 9), (3, 7), (3, 3)]
theorem counts_laid {W : World} (h : laidMetH Tryz.prog theList W) (i : Nat) (hi : i < 10) : W.cell? ⟨1, i, none⟩ = some (intV (countsT.getD i 0)) := by
  have hk : ∀ j : Fin 5, countsT.getD (j.val * 2) 0 = (pairsT.getD j.val (0, 0)).1 ∧ countsT.getD (j.val * 2 + 1) 0 = (pairsT.getD j.val (0, 0)).2 := by decide
  obtain ⟨j, hj, e⟩ : ∃ j, j < 5 ∧ (i = j * 2 ∨ i = j * 2 + 1) := ⟨i / 2, by omega, by omega⟩
  have hp := pairs_laid (zs := pairsT) gCounts gCountsType Tryz.underlying223 (reads8 h) j hj
  rcases e with e | e
  · rw [e, hp.1, (hk ⟨j, hj⟩).1]
  · rw [e, hp.2, (hk ⟨j, hj⟩).2]
theorem maxLen_laid {W : World} (h : W.ShapedOpen Tryz.prog) : ∃ m, W.cell? ⟨0, 0, none⟩ = some (.int .i64 m) :=
  Go.Proofs.cell_of_shapedOpen_int (zero := #[.int .i64 0]) (t := 3) h (of_decide_eq_true (by kernel_rfl)) (by kernel_rfl) rfl (by kernel_rfl) (by kernel_rfl) Tryz.underlying3
theorem wok {W : World} (h : laidMetH Tryz.prog theList W) (hs : W.ShapedOpen Tryz.prog) : LOk W := by
  refine ⟨⟨lok h, ⟨_, Nat.le_refl _, table h⟩, maxLen_laid hs, ?_, ?_, fun i hi => ?_, fun i hi => ?_⟩, fun i hi => ?_, fun i hi => counts_laid h i hi⟩
  · exact errs_laid rfl gSyn gSynType (reads5 h)
  · exact errs_laid rfl gRan gRanType (reads4 h)
  · exact strs_laid (zs := S6.marksT) gMarks gMarksType Tryz.underlying269 (reads6 h) i hi
  · exact strs_laid (zs := namesT) gNames gNamesType Tryz.underlying281 (reads7 h) i hi
  · exact strs_laid (zs := Go.Lin.slotW) gSlots gSlotsType Tryz.underlying263 (reads9 h) i hi
theorem laid_met (os : Os) (args : Array Value) : laidMet Tryz.prog theList ((World.laidAll Tryz.prog os theList).forCall (fun _ _ => 0) ⟨#[], args, []⟩).memory :=
  laidMet_laidAll args (by kernel_rfl) (by kernel_rfl)
end Go.Proofs.YtodcnbejnchmhaaGreatDoor
namespace Go.Rope
/- lines of a text in which a stretch is put in another's place -/
theorem lines_ahead : ∀ (l x : Bs) (i : Nat), i ≤ feeds l → linesL (l.take (behind l i) ++ x) = (linesL l).take i ++ linesL x
  | l, x, 0, _ => by rw [behind_zero]; simp
  | [], x, i + 1, h => by simp [feeds_nil] at h
  | c :: r, x, i + 1, h => by
    by_cases hc : c = 10
    · subst hc
      rw [feeds_cons10] at h
      have ih := lines_ahead r x i (by omega)
      simp only [behind, if_true, List.take_succ_cons, List.cons_append, linesL, ih]
    · rw [feeds_cons hc] at h
      have ih := lines_ahead r x (i + 1) h
      cases hl : linesL r with
      | nil => exact absurd hl (lines_ne r)
      | cons p ps =>
        rw [hl, List.take_succ_cons, List.cons_append] at ih
        simp only [behind, if_neg hc, List.take_succ_cons, List.cons_append, linesL, ih, hl]
theorem lines_drop : ∀ (l : Bs) (i : Nat), i ≤ feeds l → linesL (l.drop (behind l i)) = (linesL l).drop i
  | l, 0, _ => by rw [behind_zero]; simp
  | [], i + 1, h => by simp [feeds_nil] at h
  | c :: r, i + 1, h => by
    by_cases hc : c = 10
    · subst hc
      rw [feeds_cons10] at h
      have ih := lines_drop r i (by omega)
      simp only [behind, if_true, List.drop_succ_cons, linesL, ih]
    · rw [feeds_cons hc] at h
      have ih := lines_drop r (i + 1) h
      cases hl : linesL r with
      | nil => exact absurd hl (lines_ne r)
      | cons p ps =>
        rw [hl, List.drop_succ_cons] at ih
        simp only [behind, if_neg hc, List.drop_succ_cons, linesL, ih, hl]
theorem lines_behind (l x : Bs) (j : Nat) (h : j ≤ feeds l) : linesL (x ++ l.drop (endOf l j)) = linesL x ++ (linesL l).drop (j + 1) := by
  by_cases hj : j = feeds l
  · have e : endOf l j = l.length := by unfold endOf; rw [if_pos hj]
    rw [e, List.drop_length, List.append_nil, List.drop_eq_nil_of_le (by rw [lines_len]; omega), List.append_nil]
  · have hlt : j < feeds l := by omega
    obtain ⟨h1, h2⟩ := behind_pos hlt
    have hb := behind_le l (j + 1)
    have e : l.drop (endOf l j) = 10 :: l.drop (behind l (j + 1)) := by
      unfold endOf
      rw [if_neg hj]
      have hl : behind l (j + 1) - 1 < l.length := by omega
      rw [List.drop_eq_getElem_cons hl, show behind l (j + 1) - 1 + 1 = behind l (j + 1) by omega]
      rw [List.getElem?_eq_getElem hl] at h2
      rw [Option.some.inj h2]
    rw [e, Dcm.lines_two, lines_drop l (j + 1) hlt]
theorem cut_feeds {l : Bs} {i a b : Nat} (h : i ≤ feeds l) (h1 : behind l i ≤ a) (h2 : a ≤ b) (h3 : b ≤ endOf l i) : feeds (cut l a b) = 0 := by
  have hb := endOf_le l i
  have e1 := place_back h h1 (Nat.le_trans h2 h3)
  have e2 := place_back h (Nat.le_trans h1 h2) h3
  have : l.take b = l.take a ++ cut l a b := by
    unfold cut
    conv => lhs; rw [← List.take_append_drop a (l.take b)]
    rw [List.take_take, Nat.min_eq_left h2]
  rw [this, feeds_app, e1] at e2
  omega
/-- the middle of what comes -/
def midL (l : Bs) (i a b j : Nat) (s : Bs) : Bs := cut l (behind l i) a ++ s ++ cut l b (endOf l j)
/-- an edit's two places: in lines i and j, behind a and b bytes -/
structure Spot (l : Bs) (i a j b : Nat) : Prop where
  hi : i ≤ feeds l
  a1 : behind l i ≤ a
  a2 : a ≤ endOf l i
  hj : j ≤ feeds l
  b1 : behind l j ≤ b
  b2 : b ≤ endOf l j
theorem Spot.le {l : Bs} {i a j b : Nat} (h : Spot l i a j b) (hab : a ≤ b) : i ≤ j := by
  have e1 := place_back h.hi h.a1 h.a2
  have e2 := place_back h.hj h.b1 h.b2
  rw [← e1, ← e2]
  have : l.take a = (l.take b).take a := by rw [List.take_take, Nat.min_eq_left hab]
  rw [this]
  exact feeds_take_le _ _
theorem Spot.mid {l : Bs} {i a j b : Nat} (h : Spot l i a j b) (s : Bs) : feeds (midL l i a b j s) = feeds s := by
  unfold midL
  rw [feeds_app, feeds_app, cut_feeds h.hi (Nat.le_refl _) h.a1 h.a2, cut_feeds h.hj h.b1 h.b2 (Nat.le_refl _)]
  omega
theorem Spot.lines {l : Bs} {i a j b : Nat} (h : Spot l i a j b) (s : Bs) : linesL (l.take a ++ s ++ l.drop b) = (linesL l).take i ++ linesL (midL l i a b j s) ++ (linesL l).drop (j + 1) := by
  have e1 : l.take a = l.take (behind l i) ++ cut l (behind l i) a := by
    unfold cut
    conv => lhs; rw [← List.take_append_drop (behind l i) (l.take a)]
    rw [List.take_take, Nat.min_eq_left h.a1]
  have e2 : l.drop b = cut l b (endOf l j) ++ l.drop (endOf l j) := by
    rw [cut_eq]
    conv => lhs; rw [← List.take_append_drop (endOf l j - b) (l.drop b)]
    rw [List.drop_drop, show b + (endOf l j - b) = endOf l j by have := h.b2; omega]
  rw [e1, e2, ← lines_ahead l _ i h.hi]
  have := lines_behind l (l.take (behind l i) ++ midL l i a b j s) j h.hj
  rw [← this]
  congr 1
  simp [midL]
theorem Spot.len {l : Bs} {i a j b : Nat} (h : Spot l i a j b) (s : Bs) : feeds (l.take a ++ s ++ l.drop b) + (j - i) = feeds l + feeds s ∨ ¬ i ≤ j := by
  by_cases hij : i ≤ j
  · left
    have := congrArg List.length (h.lines s)
    have hi := h.hi
    have hj := h.hj
    rw [lines_len, List.length_append, List.length_append, List.length_take, List.length_drop, lines_len, lines_len, h.mid s] at this
    omega
  · exact .inr hij
end Go.Rope
namespace Go.Proofs.YtodcnbejnchmhaaGreatDoor
open Go.Rope hiding Bs
open Go.RowKit Go.Mem Go.Lin Go.Dcm

/- what edits make of a text -/
structure EdL where
  l1 : Int
  c1 : Int
  l2 : Int
  c2 : Int
  s : Bs
/-- a place that is there, and how many bytes are ahead of it -/
def OkP (l : Bs) (i c : Int) : Prop := 0 ≤ i ∧ i ≤ (feeds l : Int) ∧ 0 ≤ c ∧ c ≤ (endOf l i.toNat : Int) - (behind l i.toNat : Int)
instance (l : Bs) (i c : Int) : Decidable (OkP l i c) := by unfold OkP; infer_instance
def posD (l : Bs) (i c : Int) : Nat := behind l i.toNat + c.toNat
def comes (l : Bs) (e : EdL) : Bs := l.take (posD l e.l1 e.c1) ++ e.s ++ l.drop (posD l e.l2 e.c2)
def Fine (l : Bs) (e : EdL) : Prop := OkP l e.l1 e.c1 ∧ OkP l e.l2 e.c2 ∧ posD l e.l1 e.c1 ≤ posD l e.l2 e.c2
instance (l : Bs) (e : EdL) : Decidable (Fine l e) := by unfold Fine; infer_instance
def Fits (l : Bs) : Prop := l.length ≤ 20000 ∧ feeds l + 1 ≤ 400
instance (l : Bs) : Decidable (Fits l) := by unfold Fits; infer_instance
/-- the text behind an edit, and the kind that it answers -/
def editD (l : Bs) (e : EdL) : Bs × Int := if Fine l e then (if Fits (comes l e) then (comes l e, 0) else (l, 17)) else (l, 2)
def readD (l : Bs) (e : EdL) (n : Int) : Int := if (editD l e).2 = 0 then (feeds e.s : Int) + 1 else n
theorem offset_ok {l : Bs} {i c : Int} (h : OkP l i c) : S3.offsetD l i c = ((posD l i c : Int), 0) := by
  have h2 := h
  unfold OkP at h2
  unfold S3.offsetD
  rw [if_pos h2]
  unfold posD
  congr 1
  omega
theorem offset_no {l : Bs} {i c : Int} (h : ¬ OkP l i c) : S3.offsetD l i c = (0, 2) := by
  unfold OkP at h
  unfold S3.offsetD
  rw [if_neg h]
theorem pos_le {l : Bs} {i c : Int} (h : OkP l i c) : behind l i.toNat ≤ posD l i c ∧ posD l i c ≤ endOf l i.toNat ∧ i.toNat ≤ feeds l ∧ posD l i c ≤ l.length := by
  obtain ⟨h1, h2, h3, h4⟩ := h
  have := endOf_le l i.toNat
  unfold posD
  omega
theorem spot_of {l : Bs} {i c j d : Int} (h : OkP l i c) (k : OkP l j d) : Spot l i.toNat (posD l i c) j.toNat (posD l j d) :=
  ⟨(pos_le h).2.2.1, (pos_le h).1, (pos_le h).2.1, (pos_le k).2.2.1, (pos_le k).1, (pos_le k).2.1⟩
theorem splice_of {l : Bs} {a b : Nat} (s : Bs) (hb : b ≤ l.length) (hab : a ≤ b) : S3.spliceD l (a : Int) (b : Int) s = if (l.take a ++ s ++ l.drop b).length ≤ 20000 then (l.take a ++ s ++ l.drop b, 0) else ([], 17) := by
  unfold S3.spliceD
  rw [if_pos ⟨by omega, by omega, by omega⟩]
  simp only [Int.toNat_natCast]
  have e := S3.repl_len (l := l) (f := a) (t := b) s hab hb
  rw [← e]
  rfl
theorem splice_back {l : Bs} {a b : Nat} (s : Bs) (hab : b < a) : S3.spliceD l (a : Int) (b : Int) s = ([], 2) := by
  unfold S3.spliceD
  rw [if_neg (by rintro ⟨-, h, -⟩; omega)]
/-- the ways that an edit goes -/
inductive EdWay (l : Bs) (e : EdL) : Prop
  | no1 (h1 : S3.offsetD l e.l1 e.c1 = (0, 2)) (h : editD l e = (l, 2))
  | no2 (a : Nat) (h1 : S3.offsetD l e.l1 e.c1 = ((a : Int), 0)) (h2 : S3.offsetD l e.l2 e.c2 = (0, 2)) (h : editD l e = (l, 2))
  | back (a b : Nat) (h1 : S3.offsetD l e.l1 e.c1 = ((a : Int), 0)) (h2 : S3.offsetD l e.l2 e.c2 = ((b : Int), 0)) (h3 : S3.spliceD l (a : Int) (b : Int) e.s = ([], 2)) (h : editD l e = (l, 2))
  | large (a b : Nat) (h1 : S3.offsetD l e.l1 e.c1 = ((a : Int), 0)) (h2 : S3.offsetD l e.l2 e.c2 = ((b : Int), 0)) (h3 : S3.spliceD l (a : Int) (b : Int) e.s = ([], 17)) (h : editD l e = (l, 17))
  | many (a b : Nat) (t : Bs) (h1 : S3.offsetD l e.l1 e.c1 = ((a : Int), 0)) (h2 : S3.offsetD l e.l2 e.c2 = ((b : Int), 0)) (h3 : S3.spliceD l (a : Int) (b : Int) e.s = (t, 0)) (ht : t.length ≤ 20000) (hm : 400 < feeds t + 1) (h : editD l e = (l, 17))
  | ok (i j a b : Nat) (t : Bs) (hi : e.l1 = (i : Int)) (hj : e.l2 = (j : Int)) (h1 : S3.offsetD l e.l1 e.c1 = ((a : Int), 0)) (h2 : S3.offsetD l e.l2 e.c2 = ((b : Int), 0)) (h3 : S3.spliceD l (a : Int) (b : Int) e.s = (t, 0)) (ht : t.length ≤ 20000) (hm : feeds t + 1 ≤ 400) (h : editD l e = (t, 0))
      (hs : Spot l i a j b) (hab : a ≤ b) (hij : i ≤ j) (hc : t = l.take a ++ e.s ++ l.drop b)
theorem ed_way (l : Bs) (e : EdL) : EdWay l e := by
  by_cases k1 : OkP l e.l1 e.c1
  · by_cases k2 : OkP l e.l2 e.c2
    · have o1 := offset_ok k1
      have o2 := offset_ok k2
      by_cases k3 : posD l e.l1 e.c1 ≤ posD l e.l2 e.c2
      · have hf : Fine l e := ⟨k1, k2, k3⟩
        have hs := splice_of e.s (pos_le k2).2.2.2 k3
        by_cases k4 : (comes l e).length ≤ 20000
        · have hs' : S3.spliceD l (posD l e.l1 e.c1 : Int) (posD l e.l2 e.c2 : Int) e.s = (comes l e, 0) := by rw [hs]; exact if_pos k4
          by_cases k5 : feeds (comes l e) + 1 ≤ 400
          · have sp := spot_of k1 k2
            refine .ok e.l1.toNat e.l2.toNat _ _ (comes l e) ?_ ?_ o1 o2 hs' k4 k5 ?_ sp k3 (sp.le k3) rfl
            · have := k1.1; omega
            · have := k2.1; omega
            · unfold editD; rw [if_pos hf, if_pos ⟨k4, k5⟩]
          · exact .many _ _ _ o1 o2 hs' k4 (by omega) (by unfold editD; rw [if_pos hf, if_neg (fun h => k5 h.2)])
        · exact .large _ _ o1 o2 (by rw [hs]; exact if_neg k4) (by unfold editD; rw [if_pos hf, if_neg (fun h => k4 h.1)])
      · exact .back _ _ o1 o2 (splice_back e.s (by omega)) (by unfold editD; rw [if_neg (fun h => k3 h.2.2)])
    · exact .no2 _ (offset_ok k1) (offset_no k2) (by unfold editD; rw [if_neg (fun h => k2 h.2.1)])
  · exact .no1 (offset_no k1) (by unfold editD; rw [if_neg (fun h => k1 h.1)])
theorem edit_stays {l : Bs} {e : EdL} (h : (editD l e).2 ≠ 0) : (editD l e).1 = l := by
  unfold editD at *
  split
  · rename_i h1
    rw [if_pos h1] at h
    split
    · rename_i h2
      rw [if_pos h2] at h
      exact absurd rfl h
    · rfl
  · rfl
/-- a text that is read whole: an edit of nothing -/
def wholeE (s : Bs) : EdL := ⟨0, 0, 0, 0, s⟩
theorem edit_whole (s : Bs) : editD [] (wholeE s) = if Fits s then (s, 0) else ([], 17) := by
  have hf : Fine [] (wholeE s) := by
    have h0 : OkP [] 0 0 := by decide
    exact ⟨h0, h0, Nat.le_refl _⟩
  have hc : comes [] (wholeE s) = s := by unfold comes; simp [wholeE]
  unfold editD
  rw [if_pos hf, hc]
/- what lines say -/
def saysD (l : Bs) : List LineL := (linesD l).map parseL
def sayD (x : Bs) : LineL := parseL (stripR x)
theorem says_eq (l : Bs) : saysD l = (linesL l).map sayD := by
  unfold saysD linesD
  rw [List.map_map]
  rfl
theorem says_len (l : Bs) : (saysD l).length = feeds l + 1 := by rw [says_eq, List.length_map, lines_len]
theorem lineD_alone {x : Bs} (h : feeds x = 0) : linesD x = [stripR x] := by unfold linesD; rw [lines_one h]; rfl
/-- the lines behind an edit -/
theorem says_edit {l : Bs} {i a j b : Nat} (h : Spot l i a j b) (s : Bs) : saysD (l.take a ++ s ++ l.drop b) = (saysD l).take i ++ (linesL (midL l i a b j s)).map sayD ++ (saysD l).drop (j + 1) := by
  rw [says_eq, says_eq, h.lines s]
  simp
theorem line_feeds {l : Bs} {i : Nat} (h : i ≤ feeds l) : feeds (cut l (behind l i) (endOf l i)) = 0 := cut_feeds h (Nat.le_refl _) (begin_end h) (Nat.le_refl _)
/-- line i + k of what comes is line k of its middle -/
theorem line_mid {l : Bs} {i a j b : Nat} (h : Spot l i a j b) (s t : Bs) (ht : t = l.take a ++ s ++ l.drop b) (k : Nat) (hk : k ≤ feeds s) : i + k ≤ feeds t ∧ (linesL (midL l i a b j s))[k]? = some (cut t (behind t (i + k)) (endOf t (i + k))) := by
  subst ht
  have hl := h.lines s
  have hm := h.mid s
  have hlen := congrArg List.length hl
  have hmid := lines_len (midL l i a b j s)
  have hi := h.hi
  have hll := lines_len l
  rw [lines_len, List.length_append, List.length_append, List.length_take, List.length_drop, hmid, hm] at hlen
  have h1 : i + k ≤ feeds (l.take a ++ s ++ l.drop b) := by omega
  refine ⟨h1, ?_⟩
  have := line_at h1
  rw [hl, List.append_assoc, List.getElem?_append_right (by rw [List.length_take]; omega), List.length_take, Nat.min_eq_left (by omega), Nat.add_sub_cancel_left, List.getElem?_append_left (by omega)] at this
  exact this
end Go.Proofs.YtodcnbejnchmhaaGreatDoor
namespace Go.Mem
/-- cells of a row, from a place on, turned into others -/
def setMany : Array Value → Nat → List Value → Array Value
  | cs, _, [] => cs
  | cs, o, v :: vs => setMany (cs.setIfInBounds o v) (o + 1) vs
theorem Blk.many {g : Nat} {t : TypeId} : ∀ (vs : List Value) (o : Nat) (cs : Array Value) (w : World), Blk w g t cs → Blk (w.setCells g o vs) g t (setMany cs o vs)
  | [], _, _, _, h => h
  | v :: vs, o, _, _, h => Blk.many vs (o + 1) _ _ (h.put o v)
theorem Fr.many {g : Nat} : ∀ (vs : List Value) (o : Nat) (w : World), Fr w (w.setCells g o vs) (fun i => i = g)
  | [], _, _ => Fr.refl _ _
  | v :: vs, o, _ => (Fr.set (S := fun i => i = g) (a := ⟨g, o, none⟩) (v := v) rfl).trans (Fr.many vs (o + 1) _) (fun _ _ h => h) (fun _ _ h => h)
section
variable {P : Program} {ops : Array Oper} {rest : List Oper} {o : Oper} {a : Act} {w : World} {Q : Exit → Act → World → Prop}
theorem run_loadVar_blk (w : World) (g off : Nat) (ty t : TypeId) (old cs : Array Value) (d : TypeDesc) (hg : Blk w g t old) (hu : P.underlying ty = some d) (hd : d.isRow = true) (hi : (P.info? ty).map (·.size) = some cs.size)
    (hc : ∀ j, j < cs.size → old[off + j]? = cs[j]?) : (loadVar ty ⟨g, off, none⟩).run P w = .ok (.agg cs) w := by
  have := run_loadVar_mid (P := P) w g off ty cs.toList d (fun j v hv => by
    have hj : j < cs.size := by have := (List.getElem?_eq_some_iff.1 hv).1; simpa using this
    rw [cell_at hg, hc j hj]
    simpa using hv) hu hd (by rw [hi]; simp)
  simpa using this
/-- a struct is loaded out of a row -/
theorem wpList_load_blk (ty : TypeId) (x : Operand) (g off : Nat) (t : TypeId) (old cs : Array Value) (d : TypeDesc) (hgd : Region.wanted o (yielded ops a.tmps) = true) (ho : o.op = .load ty x) (hx : a.eval x = .pointer (some ⟨g, off, none⟩)) (hg : Blk w g t old)
    (hu : P.underlying ty = some d) (hd : d.isRow = true) (hi : (P.info? ty).map (·.size) = some cs.size) (hc : ∀ j, j < cs.size → old[off + j]? = cs[j]?)
    (h : wpList P ops Q rest (a.put o.dst (.agg cs)) w) : wpList P ops Q (o :: rest) a w :=
  wpList_step fun _ hK => by
    rw [if_pos hgd]
    unfold Oper.wp execOp
    simp only [ho, hx, Instr.loadAt, Instr.sureAddr, Sem.run_bind, Sem.run_pure, Result.andThen_ok, run_loadVar_blk w g off ty t old cs d hg hu hd hi hc]
    exact hK _ _ h
/-- .. in a region that draws its order -/
theorem yields_blk {S : World → Prop} (ty : TypeId) (x : Operand) (g off : Nat) (t : TypeId) (old cs : Array Value) (d : TypeDesc) (hgd : Region.wanted o (yielded ops a.tmps) = true) (ho : o.op = .load ty x) (hx : a.eval x = .pointer (some ⟨g, off, none⟩)) (hg : ∀ w, S w → Blk w g t old)
    (hu : P.underlying ty = some d) (hd : d.isRow = true) (hi : (P.info? ty).map (·.size) = some cs.size) (hc : ∀ j, j < cs.size → old[off + j]? = cs[j]?) : YieldsIf P ops S o (.agg cs) a :=
  .inl ⟨hgd, fun w hw' => by
    unfold execOp
    simp only [ho, hx, Instr.loadAt, Instr.sureAddr, Sem.run_bind, Sem.run_pure, Result.andThen_ok, run_loadVar_blk w g off ty t old cs d (hg w hw') hu hd hi hc]⟩
/-- a struct is stored into a row: the world behind it is opaque -/
theorem wpList_store_blk (ty : TypeId) (x y : Operand) (g off : Nat) (t : TypeId) (old cells new : Array Value) (hgd : Region.wanted o (yielded ops a.tmps) = true) (ho : o.op = .store ty x y) (hd : o.dst = none) (hx : a.eval x = .pointer (some ⟨g, off, none⟩)) (hy : a.eval y = .agg cells)
    (hg : Blk w g t old) (hi : (P.info? ty).map (·.size) = some cells.size) (h1 : cells.all (·.oneCell') = true) (hfit : off + cells.size ≤ old.size) (hnew : setMany old off cells.toList = new)
    (h : ∀ W, Fr w W (fun i => i = g) → Blk W g t new → wpList P ops Q rest a W) : wpList P ops Q (o :: rest) a w :=
  wpList_step fun _ hK => by
    rw [if_pos hgd]
    have ht : w.there g off cells.size := fun j hj => ⟨by rw [cell_at hg, Array.getElem?_eq_getElem (by omega)]; rfl, free_at hg _⟩
    unfold Oper.wp execOp
    simp only [ho, hx, hy, run_storeAt_mid w g off ty cells ht hi h1, Sem.run_bind, Sem.run_pure, Result.andThen_ok]
    have := hK a _ (h _ (Fr.many cells.toList off w) (by have := Blk.many cells.toList off old w hg; rw [hnew] at this; exact this))
    simpa only [Oper.upon, hd, Act.put] using this
theorem run_storeVar_cell (w : World) (g off : Nat) (t ty : TypeId) (old : Array Value) (v : Value) (hg : Blk w g t old) (hi : (P.info? ty).map (·.size) = some 1) (h1 : v.oneCell' = true) (hfit : off < old.size) : (storeVar ty ⟨g, off, none⟩ v).run P w = .ok () (w.setCell ⟨g, off, none⟩ v) := by
  have hc : v.cells = #[v] := by cases v <;> first | rfl | cases h1
  have hst : (storeCells ⟨g, off, none⟩ [v] 0).run P w = .ok () (w.setCells g (off + 0) [v]) := run_storeCells_cells (P := P) g off [v] 0 w (fun j hj => by
    have : j = 0 := by simpa using hj
    subst this
    rw [cell_at hg, Array.getElem?_eq_getElem (by omega)]; rfl) (fun j _ => free_at hg _) (fun x hx => by simp at hx; subst hx; exact h1)
  cases hq : P.info? ty with
  | none => simp [hq] at hi
  | some i =>
    have hs : i.size = 1 := by simpa [hq] using hi
    simp [storeVar, sizeOf, typeInfo, hq, hc, hs, hst, World.setCells]
/-- a value of one cell is stored into a row: the world behind it is opaque -/
theorem wpList_store_cell (ty : TypeId) (x y : Operand) (g off : Nat) (t : TypeId) (old new : Array Value) (v : Value) (hgd : Region.wanted o (yielded ops a.tmps) = true) (ho : o.op = .store ty x y) (hd : o.dst = none) (hx : a.eval x = .pointer (some ⟨g, off, none⟩)) (hy : a.eval y = v)
    (hg : Blk w g t old) (hi : (P.info? ty).map (·.size) = some 1) (h1 : v.oneCell' = true) (hfit : off < old.size) (hnew : old.setIfInBounds off v = new)
    (h : ∀ W, Fr w W (fun i => i = g) → Blk W g t new → wpList P ops Q rest a W) : wpList P ops Q (o :: rest) a w :=
  wpList_step fun _ hK => by
    rw [if_pos hgd]
    unfold Oper.wp execOp
    simp only [ho, hx, hy, Instr.storeAt, Instr.sureAddr, Sem.run_bind, Sem.run_pure, Result.andThen_ok, run_storeVar_cell w g off t ty old v hg hi h1 hfit]
    have := hK a _ (h _ (Fr.set (S := fun i => i = g) rfl) (hg.put' off v hnew))
    simpa only [Oper.upon, hd, Act.put] using this
end
end Go.Mem
namespace Go.Proofs.YtodcnbejnchmhaaGreatDoor
open Go.RowKit Go.Mem Go.Lin

theorem lineC_one (l : LineL) : (lineC l).all (·.oneCell') = true := by simp [lineC, Value.oneCell']
theorem infoL (l : LineL) : (Tryz.prog.info? 71).map (·.size) = some (lineC l).size := show _ = some 29 by kernel_rfl
/- a line's parts in its cells -/
theorem below_11 {P : Nat → Prop} (h : P 0 ∧ P 1 ∧ P 2 ∧ P 3 ∧ P 4 ∧ P 5 ∧ P 6 ∧ P 7 ∧ P 8 ∧ P 9 ∧ P 10) : ∀ j, j < 11 → P j := by
  obtain ⟨h0, h1, h2, h3, h4, h5, h6, h7, h8, h9, h10⟩ := h
  intro j hj
  match j, hj with
  | 0, _ => exact h0
  | 1, _ => exact h1
  | 2, _ => exact h2
  | 3, _ => exact h3
  | 4, _ => exact h4
  | 5, _ => exact h5
  | 6, _ => exact h6
  | 7, _ => exact h7
  | 8, _ => exact h8
  | 9, _ => exact h9
  | 10, _ => exact h10
theorem below_13 {P : Nat → Prop} (h : ∀ j, j < 11 → P j) (h11 : P 11) (h12 : P 12) : ∀ j, j < 13 → P j := by
  intro j hj
  by_cases h1 : j < 11
  · exact h j h1
  · by_cases h2 : j = 11
    · rw [h2]; exact h11
    · rw [show j = 12 by omega]; exact h12
theorem part_rule (l : LineL) : ∀ j, j < (ruleC l.rule).size → (lineC l)[1 + j]? = (ruleC l.rule)[j]? := below_11 (P := fun j => (lineC l)[1 + j]? = (ruleC l.rule)[j]?) ⟨rfl, rfl, rfl, rfl, rfl, rfl, rfl, rfl, rfl, rfl, rfl⟩
theorem part_era (l : LineL) : ∀ j, j < (eraC l.era).size → (lineC l)[14 + j]? = (eraC l.era)[j]? := below_13 (P := fun j => (lineC l)[14 + j]? = (eraC l.era)[j]?) (below_11 ⟨rfl, rfl, rfl, rfl, rfl, rfl, rfl, rfl, rfl, rfl, rfl⟩) rfl rfl
theorem part_line (l : LineL) : ∀ j, j < (lineC l).size → (lineC l)[0 + j]? = (lineC l)[j]? := fun j _ => by rw [Nat.zero_add]
theorem ruleC_one (r : RuleL) : (ruleC r).all (·.oneCell') = true := by simp [ruleC, Value.oneCell']
theorem eraC_one (e : EraL) : (eraC e).all (·.oneCell') = true := by simp [eraC, Value.oneCell']
theorem infoR (r : RuleL) : (Tryz.prog.info? 65).map (·.size) = some (ruleC r).size := show _ = some 11 by kernel_rfl
theorem infoE (e : EraL) : (Tryz.prog.info? 69).map (·.size) = some (eraC e).size := show _ = some 13 by kernel_rfl
theorem info_str : (Tryz.prog.info? 9).map (·.size) = some 1 := by kernel_rfl
theorem info_int : (Tryz.prog.info? 3).map (·.size) = some 1 := by kernel_rfl
theorem many_list : ∀ (vs : List Value) (o : Nat) (cs : Array Value), o + vs.length ≤ cs.size → (setMany cs o vs).toList = cs.toList.take o ++ (vs ++ cs.toList.drop (o + vs.length))
  | [], o, cs, _ => by simp [setMany]
  | v :: vs, o, cs, h => by
    have h : o + (vs.length + 1) ≤ cs.size := h
    rw [setMany, many_list vs (o + 1) _ (by simp; omega)]
    simp only [Array.toList_setIfInBounds, List.length_cons]
    have e1 : (cs.toList.set o v).take (o + 1) = cs.toList.take o ++ [v] := by
      rw [List.take_set, List.take_succ_eq_append_getElem (by simp; omega), List.set_append_right _ _ (by simp; omega)]
      simp
      rw [Nat.min_eq_left (by omega)]
      simp
    have e2 : (cs.toList.set o v).drop (o + 1 + vs.length) = cs.toList.drop (o + (vs.length + 1)) := by
      rw [List.drop_set_of_lt (by omega)]
      congr 1
      omega
    rw [e1, e2, List.append_assoc]
    rfl
theorem many_eq {vs : List Value} {o : Nat} {cs new : Array Value} (h : o + vs.length ≤ cs.size) (hn : cs.toList.take o ++ (vs ++ cs.toList.drop (o + vs.length)) = new.toList) : setMany cs o vs = new :=
  Array.toList_inj.1 ((many_list vs o cs h).trans hn)
theorem put_line (l m : LineL) : setMany (lineC l) 0 (lineC m).toList = lineC m := many_eq (Nat.le_refl 29) rfl
theorem put_rule (l : LineL) (r : RuleL) : setMany (lineC l) 1 (ruleC r).toList = lineC { l with rule := r } := many_eq (show 1 + 11 ≤ 29 by decide) rfl
theorem put_era (l : LineL) (e : EraL) : setMany (lineC l) 14 (eraC e).toList = lineC { l with era := e } := many_eq (show 14 + 13 ≤ 29 by decide) rfl
/- a rule's, an until's, an era's parts in their cells -/
def dayC (d : DayL) : Array Value := #[intV d.k, intV d.d, intV d.w]
def atC (t : AtL) : Array Value := #[intV t.s, intV t.k]
theorem tilC_one (u : UntilL) : (tilC u).all (·.oneCell') = true := by simp [tilC, Value.oneCell']
theorem dayC_one (d : DayL) : (dayC d).all (·.oneCell') = true := by simp [dayC, Value.oneCell']
theorem atC_one (t : AtL) : (atC t).all (·.oneCell') = true := by simp [atC, Value.oneCell']
theorem infoT (u : UntilL) : (Tryz.prog.info? 67).map (·.size) = some (tilC u).size := show _ = some 8 by kernel_rfl
theorem infoD (d : DayL) : (Tryz.prog.info? 61).map (·.size) = some (dayC d).size := show _ = some 3 by kernel_rfl
theorem infoA (t : AtL) : (Tryz.prog.info? 63).map (·.size) = some (atC t).size := show _ = some 2 by kernel_rfl
theorem info_fields : (Tryz.prog.info? 133).map (·.size) = some 1 := by kernel_rfl
theorem zero_part (cs : Array Value) : ∀ j, j < cs.size → cs[0 + j]? = cs[j]? := fun j _ => by rw [Nat.zero_add]
theorem put_all {cs ds : Array Value} (h : cs.size = ds.size) : setMany cs 0 ds.toList = ds := many_eq (by simp [h]) (by simp [h])
theorem put_ra (r s : RuleL) : setMany (ruleC r) 0 (ruleC s).toList = ruleC s := put_all rfl
theorem put_ea (r s : EraL) : setMany (eraC r) 0 (eraC s).toList = eraC s := put_all rfl
theorem put_ua (r s : UntilL) : setMany (tilC r) 0 (tilC s).toList = tilC s := put_all rfl
theorem put_r0 (r : RuleL) (v : Bs) : (ruleC r).setIfInBounds 0 (strV v) = ruleC { r with name := v } := rfl
theorem put_r1 (r : RuleL) (v : Int) : (ruleC r).setIfInBounds 1 (intV v) = ruleC { r with fr := v } := rfl
theorem put_r2 (r : RuleL) (v : Int) : (ruleC r).setIfInBounds 2 (intV v) = ruleC ⟨r.name, r.fr, v, r.month, r.on, r.at_, r.save, r.letter⟩ := rfl
theorem put_r3 (r : RuleL) (v : Int) : (ruleC r).setIfInBounds 3 (intV v) = ruleC { r with month := v } := rfl
theorem put_r4 (r : RuleL) (v : DayL) : setMany (ruleC r) 4 (dayC v).toList = ruleC { r with on := v } := many_eq (show 4 + 3 ≤ 11 by decide) rfl
theorem put_r7 (r : RuleL) (v : AtL) : setMany (ruleC r) 7 (atC v).toList = ruleC { r with at_ := v } := many_eq (show 7 + 2 ≤ 11 by decide) rfl
theorem put_r9 (r : RuleL) (v : Int) : (ruleC r).setIfInBounds 9 (intV v) = ruleC { r with save := v } := rfl
theorem put_r10 (r : RuleL) (v : Bs) : (ruleC r).setIfInBounds 10 (strV v) = ruleC { r with letter := v } := rfl
theorem put_e0 (e : EraL) (v : Int) : (eraC e).setIfInBounds 0 (intV v) = eraC { e with off := v } := rfl
theorem put_e4 (e : EraL) (v : Bs) : (eraC e).setIfInBounds 4 (strV v) = eraC { e with format := v } := rfl
theorem put_e5 (e : EraL) (v : UntilL) : setMany (eraC e) 5 (tilC v).toList = eraC { e with til := v } := many_eq (show 5 + 8 ≤ 13 by decide) rfl
theorem put_u1 (u : UntilL) (v : Int) : (tilC u).setIfInBounds 1 (intV v) = tilC { u with year := v } := rfl
theorem put_u2 (u : UntilL) (v : Int) : (tilC u).setIfInBounds 2 (intV v) = tilC { u with month := v } := rfl
theorem put_u6 (u : UntilL) (v : AtL) : setMany (tilC u) 6 (atC v).toList = tilC { u with at_ := v } := many_eq (show 6 + 2 ≤ 8 by decide) rfl
theorem put_l2 (l : LineL) (v : Bs) : (lineC l).setIfInBounds 12 (strV v) = lineC { l with name := v } := rfl
theorem put_l3 (l : LineL) (v : Bs) : (lineC l).setIfInBounds 13 (strV v) = lineC { l with target := v } := rfl
theorem below_3 {P : Nat → Prop} (h0 : P 0) (h1 : P 1) (h2 : P 2) : ∀ j, j < 3 → P j := by
  intro j hj
  match j, hj with
  | 0, _ => exact h0
  | 1, _ => exact h1
  | 2, _ => exact h2
end Go.Proofs.YtodcnbejnchmhaaGreatDoor
namespace Go.Mem
/- rows of structs -/
theorem flat_get {X : Type} (f : X → List Value) (k : Nat) (hf : ∀ x, (f x).length = k) : ∀ {l : List X} {i : Nat} {x : X}, l[i]? = some x → ∀ j, j < k → (l.flatMap f)[i * k + j]? = (f x)[j]?
  | [], i, x, h, _, _ => by simp at h
  | y :: l, 0, x, h, j, hj => by
    have h : y = x := by simpa using h
    subst h
    rw [List.flatMap_cons, Nat.zero_mul, Nat.zero_add, List.getElem?_append_left (by rw [hf]; exact hj)]
  | y :: l, i + 1, x, h, j, hj => by
    have ih := flat_get f k hf (l := l) (i := i) (x := x) (by simpa using h) j hj
    rw [List.flatMap_cons, show (i + 1) * k + j = (f y).length + (i * k + j) by rw [hf, Nat.add_mul]; omega, List.getElem?_append_right (by omega), Nat.add_sub_cancel_left]
    exact ih
theorem flat_len {X : Type} (f : X → List Value) (k : Nat) (hf : ∀ x, (f x).length = k) : ∀ l : List X, (l.flatMap f).length = l.length * k
  | [] => by simp
  | y :: l => by rw [List.flatMap_cons, List.length_append, flat_len f k hf l, hf, List.length_cons, Nat.add_mul]; omega
/-- an element of a slice of structs -/
theorem rows_at {X : Type} {f : X → List Value} {k : Nat} (hf : ∀ x, (f x).length = k) {w : World} {A : Option Addr} {l : List X} (h : Rd w k A l.length (l.flatMap f)) {i : Nat} {x : X} (hx : l[i]? = some x) :
    ∃ b off, A = some ⟨b, off, none⟩ ∧ ∀ j, j < k → w.cell? ⟨b, off + i * k + j, none⟩ = (f x)[j]? := by
  have hi := (List.getElem?_eq_some_iff.1 hx).1
  obtain ⟨b, off, e, hc⟩ := h.2 (by omega)
  refine ⟨b, off, e, fun j hj => ?_⟩
  have hg := flat_get f k hf hx j hj
  have hj' : j < (f x).length := by rw [hf]; exact hj
  rw [List.getElem?_eq_getElem hj'] at hg ⊢
  have := hc _ _ hg
  rw [← Nat.add_assoc] at this
  exact this
section
variable {P : Program} {ops : Array Oper} {rest : List Oper} {o : Oper} {a : Act} {w : World} {Q : Exit → Act → World → Prop}
theorem run_loadVar_at (w : World) (g off : Nat) (ty : TypeId) (cs : Array Value) (d : TypeDesc) (hc : ∀ j, j < cs.size → w.cell? ⟨g, off + j, none⟩ = cs[j]?) (hu : P.underlying ty = some d) (hd : d.isRow = true) (hi : (P.info? ty).map (·.size) = some cs.size) :
    (loadVar ty ⟨g, off, none⟩).run P w = .ok (.agg cs) w := by
  have := run_loadVar_mid (P := P) w g off ty cs.toList d (fun j v hv => by
    have hj : j < cs.size := by have := (List.getElem?_eq_some_iff.1 hv).1; simpa using this
    rw [hc j hj]
    simpa using hv) hu hd (by rw [hi]; simp)
  simpa using this
/-- a struct is loaded out of a slice -/
theorem wpList_load_at (ty : TypeId) (x : Operand) (g off : Nat) (cs : Array Value) (d : TypeDesc) (hgd : Region.wanted o (yielded ops a.tmps) = true) (ho : o.op = .load ty x) (hx : a.eval x = .pointer (some ⟨g, off, none⟩)) (hc : ∀ j, j < cs.size → w.cell? ⟨g, off + j, none⟩ = cs[j]?)
    (hu : P.underlying ty = some d) (hd : d.isRow = true) (hi : (P.info? ty).map (·.size) = some cs.size)
    (h : wpList P ops Q rest (a.put o.dst (.agg cs)) w) : wpList P ops Q (o :: rest) a w :=
  wpList_step fun _ hK => by
    rw [if_pos hgd]
    unfold Oper.wp execOp
    simp only [ho, hx, Instr.loadAt, Instr.sureAddr, Sem.run_bind, Sem.run_pure, Result.andThen_ok, run_loadVar_at w g off ty cs d hc hu hd hi]
    exact hK _ _ h
theorem yields_at {S : World → Prop} (ty : TypeId) (x : Operand) (g off : Nat) (cs : Array Value) (d : TypeDesc) (hgd : Region.wanted o (yielded ops a.tmps) = true) (ho : o.op = .load ty x) (hx : a.eval x = .pointer (some ⟨g, off, none⟩)) (hc : ∀ w, S w → ∀ j, j < cs.size → w.cell? ⟨g, off + j, none⟩ = cs[j]?)
    (hu : P.underlying ty = some d) (hd : d.isRow = true) (hi : (P.info? ty).map (·.size) = some cs.size) : YieldsIf P ops S o (.agg cs) a :=
  .inl ⟨hgd, fun w hw' => by
    unfold execOp
    simp only [ho, hx, Instr.loadAt, Instr.sureAddr, Sem.run_bind, Sem.run_pure, Result.andThen_ok, run_loadVar_at w g off ty cs d (hc w hw') hu hd hi]⟩
end
theorem blkc {w : World} {g : Nat} {t : TypeId} {cs : Array Value} (h : Blk w g t cs) (i : Nat) (v : Value) (hv : cs[i]? = some v) : w.cell? ⟨g, i, none⟩ = some v := (cell_at h i).trans hv
theorem cell_far {w W : World} {S : Nat → Prop} (hf : Fr w W S) {b i : Nat} {v : Value} (h : w.cell? ⟨b, i, none⟩ = some v) (hs : ¬ S b) : W.cell? ⟨b, i, none⟩ = some v := by
  rw [World.cell?_of_block (w := w) (hf.block b (World.block_lt_of_cell? w _ h) hs)]
  exact h
theorem cells_far {w W : World} {S : Nat → Prop} (hf : Fr w W S) {b : Nat} {off k : Nat} {cs : Array Value} (h : ∀ j, j < k → w.cell? ⟨b, off + j, none⟩ = cs[j]?) (hk : k ≤ cs.size) (hs : ¬ S b) : ∀ j, j < k → W.cell? ⟨b, off + j, none⟩ = cs[j]? := by
  intro j hj
  have := h j hj
  rw [Array.getElem?_eq_getElem (by omega)] at this ⊢
  exact cell_far hf this hs
end Go.Mem
namespace Go.Proofs.YtodcnbejnchmhaaGreatDoor
open Go.RowKit Go.Mem Go.Lin Go.Dcm

/- a document's parts in their cells -/
def lineL (x : LineL) : List Value := (lineC x).toList
def ruleL (r : RuleL × Int) : List Value := (ruleC r.1).toList ++ [intV r.2]
def linkL (x : LinkL) : List Value := [strV x.target, strV x.name, intV x.line]
def diagL (x : DiagL) : List Value := [strV [], intV x.line, intV x.col, intV x.k]
def eraL (e : EraL) : List Value := (eraC e).toList
def intL (n : Int) : List Value := [intV n]
/-- a zone, its eras and its lines -/
abbrev ZV := ZoneL × Value × Value
def zoneL (z : ZV) : List Value := [strV z.1.name, z.2.1, z.2.2]
theorem lineL_len (x : LineL) : (lineL x).length = 29 := rfl
theorem ruleL_len (r : RuleL × Int) : (ruleL r).length = 12 := rfl
theorem linkL_len (x : LinkL) : (linkL x).length = 3 := rfl
theorem diagL_len (x : DiagL) : (diagL x).length = 4 := rfl
theorem eraL_len (x : EraL) : (eraL x).length = 13 := rfl
theorem intL_len (x : Int) : (intL x).length = 1 := rfl
theorem zoneL_len (x : ZV) : (zoneL x).length = 3 := rfl
/-- v owns a row of structs -/
def Own {X : Type} (w : World) (base : Nat) (e : TypeId) (k : Nat) (f : X → List Value) (v : Value) (l : List X) : Prop := w.ownsRow base e k v l.length (l.flatMap f)
theorem Own.fr {X : Type} {w w' : World} {S : Nat → Prop} {base : Nat} {e : TypeId} {k : Nat} {f : X → List Value} {v : Value} {l : List X} (h : Own w base e k f v l) (hf : Fr w w' S) (hg : ∀ g, v.ownBlock = some g → ¬ S g) : Own w' base e k f v l := hf.own h hg
theorem Own.kept {X : Type} {w w' : World} {base : Nat} {e : TypeId} {k : Nat} {f : X → List Value} {v : Value} {l : List X} (h : Own w base e k f v l) (hf : Fr w w' (fun _ => False)) : Own w' base e k f v l := hf.own h (fun _ _ h => h)
theorem Own.slice {X : Type} {w : World} {base : Nat} {e : TypeId} {k : Nat} {f : X → List Value} {v : Value} {l : List X} (h : Own w base e k f v l) : ∃ A c, v = .slice A l.length c := own_slice h
theorem Own.rd {X : Type} {w : World} {base : Nat} {e : TypeId} {k : Nat} {f : X → List Value} {v : Value} {l : List X} (h : Own w base e k f v l) : ∃ A c, v = .slice A l.length c ∧ l.length ≤ c ∧ c ≤ maxLen ∧ Rd w k A l.length (l.flatMap f) := by
  obtain ⟨A, c, h1, h2, h3, h4, -⟩ := own_rd h
  exact ⟨A, c, h1, h2, h3, h4⟩
/-- the rows of a zone -/
structure ZAt (w : World) (base : Nat) (z : ZV) : Prop where
  e : Own w base 69 13 eraL z.2.1 z.1.eras
  l : Own w base 3 1 intL z.2.2 z.1.lines
theorem ZAt.kept {w w' : World} {base : Nat} {z : ZV} (h : ZAt w base z) (hf : Fr w w' (fun _ => False)) : ZAt w' base z := ⟨h.e.kept hf, h.l.kept hf⟩
/-- four slices that hold a document (its types of a rule, a zone, a link) -/
structure DocAt (tr tz tl : TypeId) (w : World) (base : Nat) (vr vz vl vd : Value) (d : DocL) : Prop where
  r : Own w base tr 12 ruleL vr d.rules
  z : ∃ zv : List ZV, zv.map (·.1) = d.zones ∧ Own w base tz 3 zoneL vz zv ∧ ∀ x ∈ zv, ZAt w base x
  l : Own w base tl 3 linkL vl d.links
  g : Own w base 125 4 diagL vd d.diags
theorem DocAt.kept {tr tz tl : TypeId} {w w' : World} {base : Nat} {vr vz vl vd : Value} {d : DocL} (h : DocAt tr tz tl w base vr vz vl vd d) (hf : Fr w w' (fun _ => False)) : DocAt tr tz tl w' base vr vz vl vd d := by
  obtain ⟨zv, h1, h2, h3⟩ := h.z
  exact ⟨h.r.kept hf, ⟨zv, h1, h2.kept hf, fun x hx => (h3 x hx).kept hf⟩, h.l.kept hf, h.g.kept hf⟩
end Go.Proofs.YtodcnbejnchmhaaGreatDoor
namespace Go.Proofs.YtodcnbejnchmhaaGreatDoor
open Go.RowKit Go.Mem Go.Lin

/- an edit in its cells -/
def edC (e : EdL) : Array Value := #[intV e.l1, intV e.c1, intV e.l2, intV e.c2, strV e.s]
abbrev edV (e : EdL) : Value := .agg (edC e)
def edL (e : EdL) : List Value := (edC e).toList
theorem edL_len (e : EdL) : (edL e).length = 5 := rfl
instance : Inhabited EdL := ⟨⟨0, 0, 0, 0, []⟩⟩
end Go.Proofs.YtodcnbejnchmhaaGreatDoor
namespace Go.Proofs.YtodcnbejnchmhaaGreatDoor
open Go.RowKit Go.Mem Go.Lin Go.Dcm

theorem infoDiag : (Tryz.prog.info? 125).map (fun i => (i.zero, i.size, i.bytes)) = some (some (.agg #[strV [], intV 0, intV 0, intV 0]), 4, 40) := by kernel_rfl
theorem infoDrule : (Tryz.prog.info? 100).map (fun i => (i.zero, i.size, i.bytes)) = some (some (.agg (ruleL (ruleZ, 0)).toArray), 12, 112) := by kernel_rfl
theorem infoDlink : (Tryz.prog.info? 102).map (fun i => (i.zero, i.size, i.bytes)) = some (some (.agg #[strV [], strV [], intV 0]), 3, 40) := by kernel_rfl
theorem infoDzone : (Tryz.prog.info? 101).map (fun i => (i.zero, i.size, i.bytes)) = some (some (.agg #[strV [], .slice none 0 0, .slice none 0 0]), 3, 64) := by kernel_rfl
theorem infoRrule : (Tryz.prog.info? 91).map (fun i => (i.zero, i.size, i.bytes)) = some (some (.agg (ruleL (ruleZ, 0)).toArray), 12, 112) := by kernel_rfl
theorem infoRlink : (Tryz.prog.info? 99).map (fun i => (i.zero, i.size, i.bytes)) = some (some (.agg #[strV [], strV [], intV 0]), 3, 40) := by kernel_rfl
theorem infoRzone : (Tryz.prog.info? 95).map (fun i => (i.zero, i.size, i.bytes)) = some (some (.agg #[strV [], .slice none 0 0, .slice none 0 0]), 3, 64) := by kernel_rfl
theorem infoEra : (Tryz.prog.info? 69).map (fun i => (i.zero, i.size, i.bytes)) = some (some (.agg (eraC eraZ)), 13, 120) := by kernel_rfl
theorem infoInt : (Tryz.prog.info? 3).map (fun i => (i.zero, i.size, i.bytes)) = some (some (intV 0), 1, 8) := by kernel_rfl
/-- a row of one element, just made -/
theorem rd_made (w : World) (t : TypeId) (cs : Array Value) : Rd (w.alloc (.cells cs t)) cs.size (some ⟨w.heap.size, 0, none⟩) 1 cs.toList := by
  refine ⟨by simp, fun _ => ⟨w.heap.size, 0, rfl, fun j u hu => ?_⟩⟩
  have := cell_at (Blk.made w t cs) j
  rw [Nat.zero_add, this]
  simpa using hu
theorem one_made {cs : Array Value} (h : cs.all (·.oneCell') = true) : ∀ u ∈ cs.toList, u.oneCell' = true := by
  intro u hu
  have := (Array.all_eq_true' ).1 h u (by simpa using hu)
  exact this
/-- a row with one element more -/
theorem own_more {X : Type} {w : World} {base : Nat} {e : TypeId} {k : Nat} {f : X → List Value} {v : Value} {l : List X} {x : X} {cs : List Value} (h : w.ownsRow base e k v (l.length + 1) (l.flatMap f ++ cs)) (hc : cs = f x) : Own w base e k f v (l ++ [x]) := by
  subst hc
  show w.ownsRow base e k v (l ++ [x]).length ((l ++ [x]).flatMap f)
  simpa using h
theorem own_none {X : Type} (w : World) (base : Nat) (e : TypeId) (k : Nat) (f : X → List Value) : Own w base e k f (.slice none 0 0) ([] : List X) := World.ownsRow_nil _ _ _ _
/-- a row of one element, just made, as a row of the call's own -/
theorem own_made {X : Type} {w : World} {base : Nat} {e : TypeId} {k : Nat} {f : X → List Value} {x : X} {cs : Array Value} (hb : base ≤ w.heap.size) (hc : cs.toList = f x) (hk : cs.size = k) : Own (w.alloc (.cells cs e)) base e k f (.slice (some ⟨w.heap.size, 0, none⟩) 1 1) [x] := by
  have hl : cs.toList.length = k := by simpa using hk
  refine ⟨by simp [← hc, hl], .inr ⟨w.heap.size, 1, cs, rfl, hb, Blk.made w e cs, Nat.le_refl _, by unfold maxLen; omega, by omega, ?_⟩⟩
  show cs.toList.take _ = [x].flatMap f
  rw [show [x].length * k = cs.toList.length by simp [hl], List.take_length]
  simp [hc]
theorem own_base {X : Type} {w : World} {a b : Nat} {e : TypeId} {k : Nat} {f : X → List Value} {v : Value} {l : List X} (h : Own w b e k f v l) (hb : a ≤ b) : Own w a e k f v l := by
  refine ⟨h.1, ?_⟩
  rcases h.2 with h2 | ⟨g, cap, cur, hv, hg, r⟩
  · exact .inl h2
  · exact .inr ⟨g, cap, cur, hv, by omega, r⟩
theorem own_block {X : Type} {w : World} {b : Nat} {e : TypeId} {k : Nat} {f : X → List Value} {v : Value} {l : List X} (h : Own w b e k f v l) {g : Nat} (hg : v.ownBlock = some g) : b ≤ g ∧ g < w.heap.size ∧ ∃ cs, Blk w g e cs := by
  obtain ⟨h1, h2⟩ := h.lt g hg
  refine ⟨h1, h2, ?_⟩
  rcases h.2 with ⟨rfl, _⟩ | ⟨g', cap, cur, rfl, _, hh, _⟩
  · simp [Value.ownBlock] at hg
  · have : g' = g := by simpa [Value.ownBlock] using hg
    subst this
    exact ⟨cur, hh⟩
theorem blk_same {w : World} {g : Nat} {t t' : TypeId} {cs cs' : Array Value} (h : Blk w g t cs) (h' : Blk w g t' cs') : t = t' := by
  unfold Blk at h h'
  rw [h] at h'
  injection h' with h'
  injection h' with _ ht
/- zones -/
def Under (M : Nat) (x : ZV) : Prop := (∀ k, x.2.1.ownBlock = some k → k < M) ∧ ∀ k, x.2.2.ownBlock = some k → k < M
/-- v owns a row of zones, the last one's rows behind all others' -/
def ZsAt (w : World) (base : Nat) (v : Value) (zs : List ZoneL) : Prop := ∃ (zv : List ZV) (M : Nat), zv.map (·.1) = zs ∧ Own w base 101 3 zoneL v zv ∧ (∀ x ∈ zv, ZAt w base x) ∧ base ≤ M ∧ M ≤ w.heap.size ∧
  ∀ a x, zv = a ++ [x] → ZAt w M x ∧ ∀ y ∈ a, Under M y
/-- what a method of the gatherer may turn: itself, and rows (no line) -/
def Gx (g B : Nat) (w : World) (k : Nat) : Prop := k = g ∨ (B ≤ k ∧ ∃ e cs, Blk w k e cs ∧ e ≠ 71)
theorem gx_trans {g B : Nat} {a b c : World} (h : Fr a b (Gx g B a)) (k : Fr b c (Gx g B b)) : Fr a c (Gx g B a) := by
  refine ⟨k.os.trans h.os, k.tape.trans h.tape, k.output.trans h.output, Nat.le_trans h.size k.size, fun i hi hn => ?_⟩
  have e1 := h.block i hi hn
  refine (k.block i (Nat.lt_of_lt_of_le hi h.size) (fun hx => hn ?_)).trans e1
  rcases hx with hx | ⟨hx, e, cs, hb, he⟩
  · exact .inl hx
  · exact .inr ⟨hx, e, cs, by unfold Blk at hb ⊢; rw [← e1]; exact hb, he⟩
theorem gx_none {g B : Nat} {a b : World} (h : Fr a b (fun _ => False)) : Fr a b (Gx g B a) := h.mono (fun _ _ h => h.elim)
theorem gx_line {g B : Nat} {w : World} {q : Nat} {cs cs' : Array Value} (hg : Blk w g 128 cs') (h : Blk w q 71 cs) : ¬ Gx g B w q := by
  rintro (rfl | ⟨-, e, cs2, hb, he⟩)
  · exact absurd (blk_same hg h) (by decide)
  · exact he (blk_same hb h)
theorem gx_low {g B : Nat} {w : World} {q : Nat} (hg : g < B) (h : q < g) : ¬ Gx g B w q := by
  rintro (rfl | ⟨hx, -⟩)
  · omega
  · omega
/-- the gatherer at g holds the state s; i: the line that is gathered -/
structure GAt (w : World) (g B : Nat) (i : Int) (s : StL) : Prop where
  lt : g < B
  ex : ∃ vr vz vl vd, Blk w g 128 #[vr, vz, vl, vd, intV i, .bool s.opn] ∧ Own w B 100 12 ruleL vr s.rules ∧ ZsAt w B vz s.zones ∧ Own w B 102 3 linkL vl s.links ∧ Own w B 125 4 diagL vd s.diags
theorem ZAt.fr {w w' : World} {S : Nat → Prop} {base : Nat} {z : ZV} (h : ZAt w base z) (hf : Fr w w' S) (h1 : ∀ k cs, base ≤ k → Blk w k 69 cs → ¬ S k) (h2 : ∀ k cs, base ≤ k → Blk w k 3 cs → ¬ S k) : ZAt w' base z := by
  refine ⟨h.e.fr hf fun g hg => ?_, h.l.fr hf fun g hg => ?_⟩
  · obtain ⟨hb, -, cs, hk⟩ := own_block h.e hg
    exact h1 g cs hb hk
  · obtain ⟨hb, -, cs, hk⟩ := own_block h.l hg
    exact h2 g cs hb hk
theorem ZsAt.fr {w w' : World} {S : Nat → Prop} {base : Nat} {v : Value} {zs : List ZoneL} (h : ZsAt w base v zs) (hf : Fr w w' S) (h0 : ∀ k cs, base ≤ k → Blk w k 101 cs → ¬ S k) (h1 : ∀ k cs, base ≤ k → Blk w k 69 cs → ¬ S k) (h2 : ∀ k cs, base ≤ k → Blk w k 3 cs → ¬ S k) : ZsAt w' base v zs := by
  obtain ⟨zv, M, e, ho, hz, hb, hM, hl⟩ := h
  refine ⟨zv, M, e, ho.fr hf fun g hg => ?_, fun x hx => (hz x hx).fr hf h1 h2, hb, Nat.le_trans hM hf.size, fun a x ex => ?_⟩
  · obtain ⟨hb, -, cs, hk⟩ := own_block ho hg
    exact h0 g cs hb hk
  · obtain ⟨k1, k2⟩ := hl a x ex
    exact ⟨k1.fr hf (fun k cs hk => h1 k cs (by omega)) (fun k cs hk => h2 k cs (by omega)), k2⟩
/-- a row stays where only blocks of another type, or blocks below, turn -/
theorem own_far {X : Type} {w w' : World} {S : Nat → Prop} {base : Nat} {e : TypeId} {k : Nat} {f : X → List Value} {v : Value} {l : List X} (h : Own w base e k f v l) (hf : Fr w w' S) (hs : ∀ i cs, base ≤ i → Blk w i e cs → ¬ S i) : Own w' base e k f v l :=
  h.fr hf fun g hg => by
    obtain ⟨hb, -, cs, hk⟩ := own_block h hg
    exact hs g cs hb hk
end Go.Proofs.YtodcnbejnchmhaaGreatDoor
