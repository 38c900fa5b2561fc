import Derived.Test.YtlfjknndkjgciaaGreatDoorYe10
import Derived.ChangeArms
import Derived.WideShapes
import Derived.Lib.SmallJoins
import Derived.Test.YtlfjknndkjgciaaGreatDoorProg
import Derived.Test.YtlfjknndkjgciaaGreatDoorYe04
import Derived.BigQuiet
import Derived.Deep.QuietTactic
import Derived.Deep.DeepCutAuto
import Derived.WalkLawsBesides
import Derived.IntWalk
import Derived.Lib.Hide
import Derived.Tactics2
import Derived.Lib.IndexAny
import Derived.Deep.LoopGhost
import Derived.Lib.ConvBytes
import Derived.Laws.IdiomCopy
namespace Go.Proofs.YtlfjknndkjgciaaGreatDoor
open Go.RowKit Go.Mem Go.Lin Go.WideShapes

theorem cells_day : Tryz.prog.cellsOf 47 = 3 := by kernel_rfl
theorem cells_at : Tryz.prog.cellsOf 49 = 2 := by kernel_rfl
theorem cells_rule : Tryz.prog.cellsOf 51 = 11 := by kernel_rfl
theorem cells_til : Tryz.prog.cellsOf 53 = 8 := by kernel_rfl
theorem cells_era : Tryz.prog.cellsOf 55 = 13 := by kernel_rfl
theorem cells_line : Tryz.prog.cellsOf 58 = 29 := by kernel_rfl
theorem cells_int : Tryz.prog.cellsOf 3 = 1 := by kernel_rfl
theorem cells_str : Tryz.prog.cellsOf 9 = 1 := by kernel_rfl
theorem cells_bool : Tryz.prog.cellsOf 4 = 1 := by kernel_rfl
theorem cells_kind : Tryz.prog.cellsOf 56 = 1 := by kernel_rfl
section
variable {H : Type} {enc : TypeId × Value → H} {w : World} {base : Nat} {spare : Nat → Bool} {held : Bool}
def inR (n : Int) : Prop := -9223372036854775808 ≤ n ∧ n ≤ 9223372036854775807
theorem leaf_int {n : Nat} {c : Value} {y : DataW H × List MemPlace} (h : DataW.trod enc Tryz.prog w base spare held n 3 [c] = some y) : ∃ a, c = intV a ∧ inR a := by
  obtain ⟨a, e, -, hw⟩ := DataW.trod_int Tryz.underlying3 h
  simp at e
  exact ⟨a, e, by unfold inR; simpa [Lit.wf, IntKind.min, IntKind.max, IntKind.signed, IntKind.bits] using hw⟩
theorem leaf_kind {n : Nat} {c : Value} {y : DataW H × List MemPlace} (h : DataW.trod enc Tryz.prog w base spare held n 56 [c] = some y) : ∃ a, c = intV a := by
  obtain ⟨a, e, -, -⟩ := DataW.trod_int Tryz.underlying56 h
  simp at e
  exact ⟨a, e⟩
theorem leaf_bool {n : Nat} {c : Value} {y : DataW H × List MemPlace} (h : DataW.trod enc Tryz.prog w base spare held n 4 [c] = some y) : ∃ a, c = .bool a := by
  obtain ⟨a, e, -⟩ := DataW.trod_bool Tryz.underlying4 h
  simp at e
  exact ⟨a, e⟩
theorem leaf_str {n : Nat} {c : Value} {y : DataW H × List MemPlace} (h : DataW.trod enc Tryz.prog w base spare held n 9 [c] = some y) : ∃ a : Bs, c = strV a ∧ a.length ≤ maxLen := by
  obtain ⟨s, e, -, hz⟩ := DataW.trod_string Tryz.underlying9 h
  simp at e
  exact ⟨s.data.toList, e, by rw [Array.length_toList]; exact hz⟩
theorem fld {X : Type} {fs : Array Field} {T : Field → Option X} {xs : List X} (hlen : xs.length = fs.size) (hf : ∀ (i : Nat) (f : Field), fs[i]? = some f → T f = xs[i]?) (i : Nat) (f : Field) (hi : fs[i]? = some f) : ∃ y, T f = some y := by
  have h : i < fs.size := (Array.getElem?_eq_some_iff.1 hi).1
  exact ⟨xs[i]'(by omega), (hf i f hi).trans (List.getElem?_eq_getElem _)⟩
theorem open_day {n : Nat} {c0 c1 c2 : Value} {y : DataW H × List MemPlace} (h : DataW.trod enc Tryz.prog w base spare held n 47 [c0, c1, c2] = some y) :
    ∃ x : DayL, c0 = intV x.k ∧ c1 = intV x.d ∧ c2 = intV x.w ∧ inR x.k ∧ inR x.d ∧ inR x.w := by
  obtain ⟨xs, m, -, -, -, hlen, hf⟩ := DataW.trod_struct Tryz.underlying47 h
  obtain ⟨y0, g0⟩ := fld hlen hf 0 _ rfl
  simp only [List.getElem_toArray, List.getElem_cons_zero, cells_int, List.drop_zero, List.take_succ_cons, List.take_zero] at g0
  obtain ⟨a0, e0, l0⟩ := leaf_int g0
  obtain ⟨y1, g1⟩ := fld hlen hf 1 _ rfl
  simp only [List.getElem_toArray, List.getElem_cons_zero, List.getElem_cons_succ, cells_int, List.drop_succ_cons, List.drop_zero, List.take_succ_cons, List.take_zero] at g1
  obtain ⟨a1, e1, l1⟩ := leaf_int g1
  obtain ⟨y2, g2⟩ := fld hlen hf 2 _ rfl
  simp only [List.getElem_toArray, List.getElem_cons_zero, List.getElem_cons_succ, cells_int, List.drop_succ_cons, List.drop_zero, List.take_succ_cons, List.take_zero] at g2
  obtain ⟨a2, e2, l2⟩ := leaf_int g2
  exact ⟨⟨a0, a1, a2⟩, e0, e1, e2, l0, l1, l2⟩
theorem open_at {n : Nat} {c0 c1 : Value} {y : DataW H × List MemPlace} (h : DataW.trod enc Tryz.prog w base spare held n 49 [c0, c1] = some y) :
    ∃ x : AtL, c0 = intV x.s ∧ c1 = intV x.k ∧ inR x.s ∧ inR x.k := by
  obtain ⟨xs, m, -, -, -, hlen, hf⟩ := DataW.trod_struct Tryz.underlying49 h
  obtain ⟨y0, g0⟩ := fld hlen hf 0 _ rfl
  simp only [List.getElem_toArray, List.getElem_cons_zero, cells_int, List.drop_zero, List.take_succ_cons, List.take_zero] at g0
  obtain ⟨a0, e0, l0⟩ := leaf_int g0
  obtain ⟨y1, g1⟩ := fld hlen hf 1 _ rfl
  simp only [List.getElem_toArray, List.getElem_cons_zero, List.getElem_cons_succ, cells_int, List.drop_succ_cons, List.drop_zero, List.take_succ_cons, List.take_zero] at g1
  obtain ⟨a1, e1, l1⟩ := leaf_int g1
  exact ⟨⟨a0, a1⟩, e0, e1, l0, l1⟩
theorem open_rule {n : Nat} {c0 c1 c2 c3 c4 c5 c6 c7 c8 c9 c10 : Value} {y : DataW H × List MemPlace} (h : DataW.trod enc Tryz.prog w base spare held n 51 [c0, c1, c2, c3, c4, c5, c6, c7, c8, c9, c10] = some y) :
    ∃ x : RuleL, c0 = strV x.name ∧ c1 = intV x.fr ∧ c2 = intV x.to ∧ c3 = intV x.month ∧ c4 = intV x.on.k ∧ c5 = intV x.on.d ∧ c6 = intV x.on.w ∧ c7 = intV x.at_.s ∧ c8 = intV x.at_.k ∧ c9 = intV x.save ∧ c10 = strV x.letter ∧ x.name.length ≤ maxLen ∧ inR x.fr ∧ inR x.to ∧ inR x.month ∧ inR x.on.k ∧ inR x.on.d ∧ inR x.on.w ∧ inR x.at_.s ∧ inR x.at_.k ∧ inR x.save ∧ x.letter.length ≤ maxLen := by
  obtain ⟨xs, m, -, -, -, hlen, hf⟩ := DataW.trod_struct Tryz.underlying51 h
  obtain ⟨y0, g0⟩ := fld hlen hf 0 _ rfl
  simp only [List.getElem_toArray, List.getElem_cons_zero, cells_str, List.drop_zero, List.take_succ_cons, List.take_zero] at g0
  obtain ⟨a0, e0, l0⟩ := leaf_str g0
  obtain ⟨y1, g1⟩ := fld hlen hf 1 _ rfl
  simp only [List.getElem_toArray, List.getElem_cons_zero, List.getElem_cons_succ, cells_int, List.drop_succ_cons, List.drop_zero, List.take_succ_cons, List.take_zero] at g1
  obtain ⟨a1, e1, l1⟩ := leaf_int g1
  obtain ⟨y2, g2⟩ := fld hlen hf 2 _ rfl
  simp only [List.getElem_toArray, List.getElem_cons_zero, List.getElem_cons_succ, cells_int, List.drop_succ_cons, List.drop_zero, List.take_succ_cons, List.take_zero] at g2
  obtain ⟨a2, e2, l2⟩ := leaf_int g2
  obtain ⟨y3, g3⟩ := fld hlen hf 3 _ rfl
  simp only [List.getElem_toArray, List.getElem_cons_zero, List.getElem_cons_succ, cells_int, List.drop_succ_cons, List.drop_zero, List.take_succ_cons, List.take_zero] at g3
  obtain ⟨a3, e3, l3⟩ := leaf_int g3
  obtain ⟨y4, g4⟩ := fld hlen hf 4 _ rfl
  simp only [List.getElem_toArray, List.getElem_cons_zero, List.getElem_cons_succ, cells_day, List.drop_succ_cons, List.drop_zero, List.take_succ_cons, List.take_zero] at g4
  obtain ⟨a4, e4_0, e4_1, e4_2, l4_0, l4_1, l4_2⟩ := open_day g4
  obtain ⟨y5, g5⟩ := fld hlen hf 5 _ rfl
  simp only [List.getElem_toArray, List.getElem_cons_zero, List.getElem_cons_succ, cells_at, List.drop_succ_cons, List.drop_zero, List.take_succ_cons, List.take_zero] at g5
  obtain ⟨a5, e5_0, e5_1, l5_0, l5_1⟩ := open_at g5
  obtain ⟨y6, g6⟩ := fld hlen hf 6 _ rfl
  simp only [List.getElem_toArray, List.getElem_cons_zero, List.getElem_cons_succ, cells_int, List.drop_succ_cons, List.drop_zero, List.take_succ_cons, List.take_zero] at g6
  obtain ⟨a6, e6, l6⟩ := leaf_int g6
  obtain ⟨y7, g7⟩ := fld hlen hf 7 _ rfl
  simp only [List.getElem_toArray, List.getElem_cons_zero, List.getElem_cons_succ, cells_str, List.drop_succ_cons, List.drop_zero, List.take_succ_cons, List.take_zero] at g7
  obtain ⟨a7, e7, l7⟩ := leaf_str g7
  exact ⟨⟨a0, a1, a2, a3, a4, a5, a6, a7⟩, e0, e1, e2, e3, e4_0, e4_1, e4_2, e5_0, e5_1, e6, e7, l0, l1, l2, l3, l4_0, l4_1, l4_2, l5_0, l5_1, l6, l7⟩
theorem open_til {n : Nat} {c0 c1 c2 c3 c4 c5 c6 c7 : Value} {y : DataW H × List MemPlace} (h : DataW.trod enc Tryz.prog w base spare held n 53 [c0, c1, c2, c3, c4, c5, c6, c7] = some y) :
    ∃ x : UntilL, c0 = .bool x.has ∧ c1 = intV x.year ∧ c2 = intV x.month ∧ c3 = intV x.on.k ∧ c4 = intV x.on.d ∧ c5 = intV x.on.w ∧ c6 = intV x.at_.s ∧ c7 = intV x.at_.k ∧ inR x.year ∧ inR x.month ∧ inR x.on.k ∧ inR x.on.d ∧ inR x.on.w ∧ inR x.at_.s ∧ inR x.at_.k := by
  obtain ⟨xs, m, -, -, -, hlen, hf⟩ := DataW.trod_struct Tryz.underlying53 h
  obtain ⟨y0, g0⟩ := fld hlen hf 0 _ rfl
  simp only [List.getElem_toArray, List.getElem_cons_zero, cells_bool, List.drop_zero, List.take_succ_cons, List.take_zero] at g0
  obtain ⟨a0, e0⟩ := leaf_bool g0
  obtain ⟨y1, g1⟩ := fld hlen hf 1 _ rfl
  simp only [List.getElem_toArray, List.getElem_cons_zero, List.getElem_cons_succ, cells_int, List.drop_succ_cons, List.drop_zero, List.take_succ_cons, List.take_zero] at g1
  obtain ⟨a1, e1, l1⟩ := leaf_int g1
  obtain ⟨y2, g2⟩ := fld hlen hf 2 _ rfl
  simp only [List.getElem_toArray, List.getElem_cons_zero, List.getElem_cons_succ, cells_int, List.drop_succ_cons, List.drop_zero, List.take_succ_cons, List.take_zero] at g2
  obtain ⟨a2, e2, l2⟩ := leaf_int g2
  obtain ⟨y3, g3⟩ := fld hlen hf 3 _ rfl
  simp only [List.getElem_toArray, List.getElem_cons_zero, List.getElem_cons_succ, cells_day, List.drop_succ_cons, List.drop_zero, List.take_succ_cons, List.take_zero] at g3
  obtain ⟨a3, e3_0, e3_1, e3_2, l3_0, l3_1, l3_2⟩ := open_day g3
  obtain ⟨y4, g4⟩ := fld hlen hf 4 _ rfl
  simp only [List.getElem_toArray, List.getElem_cons_zero, List.getElem_cons_succ, cells_at, List.drop_succ_cons, List.drop_zero, List.take_succ_cons, List.take_zero] at g4
  obtain ⟨a4, e4_0, e4_1, l4_0, l4_1⟩ := open_at g4
  exact ⟨⟨a0, a1, a2, a3, a4⟩, e0, e1, e2, e3_0, e3_1, e3_2, e4_0, e4_1, l1, l2, l3_0, l3_1, l3_2, l4_0, l4_1⟩
theorem open_era {n : Nat} {c0 c1 c2 c3 c4 c5 c6 c7 c8 c9 c10 c11 c12 : Value} {y : DataW H × List MemPlace} (h : DataW.trod enc Tryz.prog w base spare held n 55 [c0, c1, c2, c3, c4, c5, c6, c7, c8, c9, c10, c11, c12] = some y) :
    ∃ x : EraL, c0 = intV x.off ∧ c1 = intV x.kind ∧ c2 = intV x.save ∧ c3 = strV x.rules ∧ c4 = strV x.format ∧ c5 = .bool x.til.has ∧ c6 = intV x.til.year ∧ c7 = intV x.til.month ∧ c8 = intV x.til.on.k ∧ c9 = intV x.til.on.d ∧ c10 = intV x.til.on.w ∧ c11 = intV x.til.at_.s ∧ c12 = intV x.til.at_.k ∧ inR x.off ∧ inR x.kind ∧ inR x.save ∧ x.rules.length ≤ maxLen ∧ x.format.length ≤ maxLen ∧ inR x.til.year ∧ inR x.til.month ∧ inR x.til.on.k ∧ inR x.til.on.d ∧ inR x.til.on.w ∧ inR x.til.at_.s ∧ inR x.til.at_.k := by
  obtain ⟨xs, m, -, -, -, hlen, hf⟩ := DataW.trod_struct Tryz.underlying55 h
  obtain ⟨y0, g0⟩ := fld hlen hf 0 _ rfl
  simp only [List.getElem_toArray, List.getElem_cons_zero, cells_int, List.drop_zero, List.take_succ_cons, List.take_zero] at g0
  obtain ⟨a0, e0, l0⟩ := leaf_int g0
  obtain ⟨y1, g1⟩ := fld hlen hf 1 _ rfl
  simp only [List.getElem_toArray, List.getElem_cons_zero, List.getElem_cons_succ, cells_int, List.drop_succ_cons, List.drop_zero, List.take_succ_cons, List.take_zero] at g1
  obtain ⟨a1, e1, l1⟩ := leaf_int g1
  obtain ⟨y2, g2⟩ := fld hlen hf 2 _ rfl
  simp only [List.getElem_toArray, List.getElem_cons_zero, List.getElem_cons_succ, cells_int, List.drop_succ_cons, List.drop_zero, List.take_succ_cons, List.take_zero] at g2
  obtain ⟨a2, e2, l2⟩ := leaf_int g2
  obtain ⟨y3, g3⟩ := fld hlen hf 3 _ rfl
  simp only [List.getElem_toArray, List.getElem_cons_zero, List.getElem_cons_succ, cells_str, List.drop_succ_cons, List.drop_zero, List.take_succ_cons, List.take_zero] at g3
  obtain ⟨a3, e3, l3⟩ := leaf_str g3
  obtain ⟨y4, g4⟩ := fld hlen hf 4 _ rfl
  simp only [List.getElem_toArray, List.getElem_cons_zero, List.getElem_cons_succ, cells_str, List.drop_succ_cons, List.drop_zero, List.take_succ_cons, List.take_zero] at g4
  obtain ⟨a4, e4, l4⟩ := leaf_str g4
  obtain ⟨y5, g5⟩ := fld hlen hf 5 _ rfl
  simp only [List.getElem_toArray, List.getElem_cons_zero, List.getElem_cons_succ, cells_til, List.drop_succ_cons, List.drop_zero, List.take_succ_cons, List.take_zero] at g5
  obtain ⟨a5, e5_0, e5_1, e5_2, e5_3, e5_4, e5_5, e5_6, e5_7, l5_0, l5_1, l5_2, l5_3, l5_4, l5_5, l5_6⟩ := open_til g5
  exact ⟨⟨a0, a1, a2, a3, a4, a5⟩, e0, e1, e2, e3, e4, e5_0, e5_1, e5_2, e5_3, e5_4, e5_5, e5_6, e5_7, l0, l1, l2, l3, l4, l5_0, l5_1, l5_2, l5_3, l5_4, l5_5, l5_6⟩
theorem open_line {n : Nat} {c0 c1 c2 c3 c4 c5 c6 c7 c8 c9 c10 c11 c12 c13 c14 c15 c16 c17 c18 c19 c20 c21 c22 c23 c24 c25 c26 c27 c28 : Value} {y : DataW H × List MemPlace} (h : DataW.trod enc Tryz.prog w base spare held n 58 [c0, c1, c2, c3, c4, c5, c6, c7, c8, c9, c10, c11, c12, c13, c14, c15, c16, c17, c18, c19, c20, c21, c22, c23, c24, c25, c26, c27, c28] = some y) :
    ∃ x : LineL, c0 = intV x.kind ∧ c1 = strV x.rule.name ∧ c2 = intV x.rule.fr ∧ c3 = intV x.rule.to ∧ c4 = intV x.rule.month ∧ c5 = intV x.rule.on.k ∧ c6 = intV x.rule.on.d ∧ c7 = intV x.rule.on.w ∧ c8 = intV x.rule.at_.s ∧ c9 = intV x.rule.at_.k ∧ c10 = intV x.rule.save ∧ c11 = strV x.rule.letter ∧ c12 = strV x.name ∧ c13 = strV x.target ∧ c14 = intV x.era.off ∧ c15 = intV x.era.kind ∧ c16 = intV x.era.save ∧ c17 = strV x.era.rules ∧ c18 = strV x.era.format ∧ c19 = .bool x.era.til.has ∧ c20 = intV x.era.til.year ∧ c21 = intV x.era.til.month ∧ c22 = intV x.era.til.on.k ∧ c23 = intV x.era.til.on.d ∧ c24 = intV x.era.til.on.w ∧ c25 = intV x.era.til.at_.s ∧ c26 = intV x.era.til.at_.k ∧ c27 = intV x.err ∧ c28 = intV x.col ∧ inR x.kind ∧ x.rule.name.length ≤ maxLen ∧ inR x.rule.fr ∧ inR x.rule.to ∧ inR x.rule.month ∧ inR x.rule.on.k ∧ inR x.rule.on.d ∧ inR x.rule.on.w ∧ inR x.rule.at_.s ∧ inR x.rule.at_.k ∧ inR x.rule.save ∧ x.rule.letter.length ≤ maxLen ∧ x.name.length ≤ maxLen ∧ x.target.length ≤ maxLen ∧ inR x.era.off ∧ inR x.era.kind ∧ inR x.era.save ∧ x.era.rules.length ≤ maxLen ∧ x.era.format.length ≤ maxLen ∧ inR x.era.til.year ∧ inR x.era.til.month ∧ inR x.era.til.on.k ∧ inR x.era.til.on.d ∧ inR x.era.til.on.w ∧ inR x.era.til.at_.s ∧ inR x.era.til.at_.k ∧ inR x.col := by
  obtain ⟨xs, m, -, -, -, hlen, hf⟩ := DataW.trod_struct Tryz.underlying58 h
  obtain ⟨y0, g0⟩ := fld hlen hf 0 _ rfl
  simp only [List.getElem_toArray, List.getElem_cons_zero, cells_int, List.drop_zero, List.take_succ_cons, List.take_zero] at g0
  obtain ⟨a0, e0, l0⟩ := leaf_int g0
  obtain ⟨y1, g1⟩ := fld hlen hf 1 _ rfl
  simp only [List.getElem_toArray, List.getElem_cons_zero, List.getElem_cons_succ, cells_rule, List.drop_succ_cons, List.drop_zero, List.take_succ_cons, List.take_zero] at g1
  obtain ⟨a1, e1_0, e1_1, e1_2, e1_3, e1_4, e1_5, e1_6, e1_7, e1_8, e1_9, e1_10, l1_0, l1_1, l1_2, l1_3, l1_4, l1_5, l1_6, l1_7, l1_8, l1_9, l1_10⟩ := open_rule g1
  obtain ⟨y2, g2⟩ := fld hlen hf 2 _ rfl
  simp only [List.getElem_toArray, List.getElem_cons_zero, List.getElem_cons_succ, cells_str, List.drop_succ_cons, List.drop_zero, List.take_succ_cons, List.take_zero] at g2
  obtain ⟨a2, e2, l2⟩ := leaf_str g2
  obtain ⟨y3, g3⟩ := fld hlen hf 3 _ rfl
  simp only [List.getElem_toArray, List.getElem_cons_zero, List.getElem_cons_succ, cells_str, List.drop_succ_cons, List.drop_zero, List.take_succ_cons, List.take_zero] at g3
  obtain ⟨a3, e3, l3⟩ := leaf_str g3
  obtain ⟨y4, g4⟩ := fld hlen hf 4 _ rfl
  simp only [List.getElem_toArray, List.getElem_cons_zero, List.getElem_cons_succ, cells_era, List.drop_succ_cons, List.drop_zero, List.take_succ_cons, List.take_zero] at g4
  obtain ⟨a4, e4_0, e4_1, e4_2, e4_3, e4_4, e4_5, e4_6, e4_7, e4_8, e4_9, e4_10, e4_11, e4_12, l4_0, l4_1, l4_2, l4_3, l4_4, l4_5, l4_6, l4_7, l4_8, l4_9, l4_10, l4_11⟩ := open_era g4
  obtain ⟨y5, g5⟩ := fld hlen hf 5 _ rfl
  simp only [List.getElem_toArray, List.getElem_cons_zero, List.getElem_cons_succ, cells_kind, List.drop_succ_cons, List.drop_zero, List.take_succ_cons, List.take_zero] at g5
  obtain ⟨a5, e5⟩ := leaf_kind g5
  obtain ⟨y6, g6⟩ := fld hlen hf 6 _ rfl
  simp only [List.getElem_toArray, List.getElem_cons_zero, List.getElem_cons_succ, cells_int, List.drop_succ_cons, List.drop_zero, List.take_succ_cons, List.take_zero] at g6
  obtain ⟨a6, e6, l6⟩ := leaf_int g6
  exact ⟨⟨a0, a1, a2, a3, a4, a5, a6⟩, e0, e1_0, e1_1, e1_2, e1_3, e1_4, e1_5, e1_6, e1_7, e1_8, e1_9, e1_10, e2, e3, e4_0, e4_1, e4_2, e4_3, e4_4, e4_5, e4_6, e4_7, e4_8, e4_9, e4_10, e4_11, e4_12, e5, e6, l0, l1_0, l1_1, l1_2, l1_3, l1_4, l1_5, l1_6, l1_7, l1_8, l1_9, l1_10, l2, l3, l4_0, l4_1, l4_2, l4_3, l4_4, l4_5, l4_6, l4_7, l4_8, l4_9, l4_10, l4_11, l6⟩
set_option maxRecDepth 100000 in
theorem array29 {α : Type} {cs : Array α} (h : cs.size = 29) : ∃ c0 c1 c2 c3 c4 c5 c6 c7 c8 c9 c10 c11 c12 c13 c14 c15 c16 c17 c18 c19 c20 c21 c22 c23 c24 c25 c26 c27 c28, cs = #[c0, c1, c2, c3, c4, c5, c6, c7, c8, c9, c10, c11, c12, c13, c14, c15, c16, c17, c18, c19, c20, c21, c22, c23, c24, c25, c26, c27, c28] := by
  obtain ⟨l⟩ := cs
  match l, h with
  | [c0, c1, c2, c3, c4, c5, c6, c7, c8, c9, c10, c11, c12, c13, c14, c15, c16, c17, c18, c19, c20, c21, c22, c23, c24, c25, c26, c27, c28], _ => exact ⟨c0, c1, c2, c3, c4, c5, c6, c7, c8, c9, c10, c11, c12, c13, c14, c15, c16, c17, c18, c19, c20, c21, c22, c23, c24, c25, c26, c27, c28, rfl⟩
end
end Go.Proofs.YtlfjknndkjgciaaGreatDoor
namespace Go.Proofs.YtlfjknndkjgciaaGreatDoor.S7
open Go.RowKit Go.Mem Go.Lxr

abbrev strV (l : Bs) : Value := .string ⟨l.toArray⟩
theorem infoB : (Tryz.prog.info? 5).map (fun i => (i.zero, i.size, i.bytes)) = some (some (.int .u8 0), 1, 1) := by kernel_rfl
theorem infoF : (Tryz.prog.info? 111).map (fun i => (i.zero, i.size, i.bytes)) = some (some (.agg #[.string ⟨#[]⟩, .int .i64 0]), 2, 24) := by kernel_rfl
theorem str_size (l : Bs) : (⟨l.toArray⟩ : ByteArray).size = l.length := by show l.toArray.size = _; simp
theorem bytes_len (s : ByteArray) : s.data.toList.length = s.size := by rw [Array.length_toList]; rfl
theorem strV_of (s : ByteArray) : Value.string s = strV s.data.toList := by
  show Value.string s = .string ⟨s.data.toList.toArray⟩
  congr
theorem run_add_str {P : Program} (w : World) (a b : Bs) (h : a.length + b.length ≤ 1000000) : (Op.stringOp .add ⟨a.toArray⟩ ⟨b.toArray⟩).run P w = .ok (strV (a ++ b)) w := by
  rw [run_string_add_sum w _ _ (by show a.toArray.size + b.toArray.size ≤ _; simp; omega)]
  show Result.ok (Value.string ((⟨a.toArray⟩ : ByteArray) ++ ⟨b.toArray⟩)) w = .ok (.string ⟨(a ++ b).toArray⟩) w
  congr 2
theorem ff {a c d : World} (h : Fr a c (fun _ => False)) (h2 : Fr c d (fun _ => False)) : Fr a d (fun _ => False) := h.trans h2 (fun _ _ h => h) (fun _ _ h => h)
theorem fd {a b : World} (h : Fr a b (fun _ => False)) (n : Nat) : Fr a (b.drewN n) (fun _ => False) := ff h (Fr.drewN _ _ _)
theorem fb {a c d : World} {b : Nat} (h : Fr a c (· = b)) (h2 : Fr c d (· = b)) : Fr a d (· = b) := h.trans h2 (fun _ _ h => h) (fun _ _ h => h)
theorem fbn {a d : World} {b n : Nat} (h : Fr (a.drewN n) d (· = b)) : Fr a d (· = b) := fb (Fr.drewN _ _ _) h
theorem fr_put (w : World) (b i : Nat) (v : Value) : Fr w (w.setCell ⟨b, i, none⟩ v) (· = b) := Fr.set (S := (· = b)) rfl

/-- what set.has asks -/
theorem has_any (S : Bs) (c : UInt8) (w : World) (x : Bool) (hx : S.contains c = x) : Calls Tryz.prog 81 #[strV S, .int .u8 (c.toNat : Int)] w fun e w' => e = .returned (.bool x) ∧ w = w' := by
  have HI := Lib.hid (Tryz.strings_IndexByte ⟨S.toArray⟩ (c.toNat : Int) w)
  rw [show ((c.toNat : Int)).toNat.toUInt8 = c by simp, show (⟨S.toArray⟩ : ByteArray).data.toList = S from rfl] at HI
  have HC := Lib.hid (Lib.contains_iff_indexByte S c)
  rw [hx] at HC
  clear hx
  go_enter Tryz.func81, Tryz.ntmps81
  go_wp2_with fail
  refine HI.out.mono ?_
  rintro e w2 ⟨rfl, rfl⟩
  go_wp2_with fail
  go_ret
  exact ⟨by rw [HC.out]; rfl, rfl⟩
theorem lacks_any (S : Bs) (c : UInt8) (w : World) (x : Bool) (hx : (!S.contains c) = x) : Calls Tryz.prog 83 #[strV S, .int .u8 (c.toNat : Int)] w fun e w' => e = .returned (.bool x) ∧ w = w' := by
  obtain ⟨y, hy⟩ : ∃ y, S.contains c = y := ⟨_, rfl⟩
  rw [hy] at hx
  subst hx
  have HI := Lib.hid (has_any S c w y hy)
  clear hy
  go_enter Tryz.func83, Tryz.ntmps83
  go_wp2_with fail
  refine HI.out.mono ?_
  rintro e w2 ⟨rfl, rfl⟩
  go_wp2_with fail
  go_ret
  exact ⟨rfl, rfl⟩
end Go.Proofs.YtlfjknndkjgciaaGreatDoor.S7
namespace Go.Proofs.YtlfjknndkjgciaaGreatDoor.S7
open Go.RowKit Go.Mem Go.Lxr

/-- block b is a reader of s at the place p, with l still to read -/
def RdAt (w : World) (b : Nat) (s : ByteArray) (p : Nat) (l : Bs) : Prop := p ≤ s.size ∧ s.data.toList.drop p = l ∧ Blk w b 110 #[.string s, .int .i64 (p : Int)]
theorem RdAt.fr {w w' : World} {b p : Nat} {s : ByteArray} {l : Bs} {S : Nat → Prop} (h : RdAt w b s p l) (hf : Fr w w' S) (hs : ¬ S b) : RdAt w' b s p l := ⟨h.1, h.2.1, hf.blk h.2.2 hs⟩
theorem RdAt.lt {w : World} {b p : Nat} {s : ByteArray} {l : Bs} (h : RdAt w b s p l) : b < w.heap.size := h.2.2.lt
theorem RdAt.len {w : World} {b p : Nat} {s : ByteArray} {l : Bs} (h : RdAt w b s p l) : p + l.length = s.size := by
  have hl : s.data.toList.length = s.size := bytes_len s
  have h1 := h.1
  have : l.length = s.size - p := by rw [← h.2.1, List.length_drop, hl]
  omega
theorem drop_cons {s : ByteArray} {a : Nat} {c : UInt8} {l : Bs} (h : s.data.toList.drop a = c :: l) : ∃ hs : a < s.size, s[a] = c ∧ s.data.toList.drop (a + 1) = l := by
  have hl : s.data.toList.length = s.size := bytes_len s
  have hs : a < s.size := by
    rw [← hl]
    rcases Nat.lt_or_ge a s.data.toList.length with h1 | h1
    · exact h1
    · rw [List.drop_eq_nil_of_le h1] at h
      cases h
  refine ⟨hs, ?_, ?_⟩
  · rw [List.drop_eq_getElem_cons (by rw [hl]; exact hs)] at h
    have := (List.cons.inj h).1
    rw [← this]
    rfl
  · rw [List.drop_eq_getElem_cons (by rw [hl]; exact hs)] at h
    exact (List.cons.inj h).2
/-- an extract of a text as a list -/
theorem ext_str {s : ByteArray} {a e : Nat} {l t r : Bs} (h : s.data.toList.drop a = l) (hl : l = t ++ r) (he : e = a + t.length) : s.extract a e = ⟨t.toArray⟩ := by
  apply ByteArray.ext
  apply Array.toList_inj.1
  subst he
  simp [List.extract, h, hl]
theorem byte_lt (c : UInt8) : (c.toNat : Int) < 256 := by have := c.toNat_lt; omega
abbrev hasV (S : Bs) : Value := .func (.func 81) #[strV S] #[]
abbrev lacksV (S : Bs) : Value := .func (.func 83) #[strV S] #[]
abbrev ptrV (b : Nat) : Value := .pointer (some ⟨b, 0, none⟩)
abbrev hasF (S : Bs) (c : UInt8) : Bool := S.contains c
abbrev lacksF (S : Bs) (c : UInt8) : Bool := !S.contains c
/-- is the next byte such a one? -/
def seesD (f : UInt8 → Bool) : Bs → Bool
  | [] => false
  | c :: _ => f c
theorem tw_cons {f : UInt8 → Bool} {c : UInt8} {l : Bs} (h : f c = true) : (c :: l).takeWhile f = c :: l.takeWhile f ∧ (c :: l).dropWhile f = l.dropWhile f := by simp [h]
theorem tw_stop {f : UInt8 → Bool} {l : Bs} (h : seesD f l = false) : l.takeWhile f = [] ∧ l.dropWhile f = l := by
  cases l with
  | nil => exact ⟨rfl, rfl⟩
  | cons c l =>
    have h : f c = false := h
    simp [h]
theorem tw_app (f : UInt8 → Bool) (l : Bs) : l = l.takeWhile f ++ l.dropWhile f := List.takeWhile_append_dropWhile.symm

theorem sees_has (S : Bs) (w : World) (b p : Nat) (s : ByteArray) (l : Bs) (h : RdAt w b s p l) (_hz : s.size ≤ 1000000) (x : Bool) (hx : seesD (hasF S) l = x) :
    Calls Tryz.prog 82 #[ptrV b, hasV S] w fun e w' => e = .returned (.bool x) ∧ ∃ n, w' = w.drewN n := by
  have hlen := h.len
  obtain ⟨h0, hd, hb⟩ := h
  have c0 := cell_at hb 0
  have c1 := cell_at hb 1
  simp at c0 c1
  cases l with
  | nil =>
    have hx : x = false := hx.symm
    subst hx
    have h1 : decide (p < s.size) = false := by simp at hlen; rw [decide_eq_false_iff_not]; omega
    clear hd hb hlen
    go_enter Tryz.func82, Tryz.ntmps82
    go_wp2_with fail
    go_quiet (fail)
    go_wp2_with fail
    go_ret
    exact ⟨rfl, _, rfl⟩
  | cons c r =>
    obtain ⟨hlt, hc, -⟩ := drop_cons hd
    have h1 : decide (p < s.size) = true := by rw [decide_eq_true_iff]; exact hlt
    have h2 : (0 : Int) ≤ (p : Int) := by omega
    have h3 : (p : Int) < (s.size : Int) := by omega
    have HH := Lib.hid (fun W => has_any S c W x hx)
    rw [← hc] at HH
    clear hd hb hlen hx hc
    go_enter Tryz.func82, Tryz.ntmps82
    go_wp2_with fail
    go_quiet ((go_at_call 81; exact Calls.quiet_of ((HH.out _).mono (fun e w' h => ⟨h.1, 0, h.2.symm⟩))))
    go_wp2_with fail
    go_ret
    exact ⟨rfl, _, rfl⟩

theorem sees_lacks (S : Bs) (w : World) (b p : Nat) (s : ByteArray) (l : Bs) (h : RdAt w b s p l) (_hz : s.size ≤ 1000000) (x : Bool) (hx : seesD (lacksF S) l = x) :
    Calls Tryz.prog 82 #[ptrV b, lacksV S] w fun e w' => e = .returned (.bool x) ∧ ∃ n, w' = w.drewN n := by
  have hlen := h.len
  obtain ⟨h0, hd, hb⟩ := h
  have c0 := cell_at hb 0
  have c1 := cell_at hb 1
  simp at c0 c1
  cases l with
  | nil =>
    have hx : x = false := hx.symm
    subst hx
    have h1 : decide (p < s.size) = false := by simp at hlen; rw [decide_eq_false_iff_not]; omega
    clear hd hb hlen
    go_enter Tryz.func82, Tryz.ntmps82
    go_wp2_with fail
    go_quiet (fail)
    go_wp2_with fail
    go_ret
    exact ⟨rfl, _, rfl⟩
  | cons c r =>
    obtain ⟨hlt, hc, -⟩ := drop_cons hd
    have h1 : decide (p < s.size) = true := by rw [decide_eq_true_iff]; exact hlt
    have h2 : (0 : Int) ≤ (p : Int) := by omega
    have h3 : (p : Int) < (s.size : Int) := by omega
    have HH := Lib.hid (fun W => lacks_any S c W x hx)
    rw [← hc] at HH
    clear hd hb hlen hx hc
    go_enter Tryz.func82, Tryz.ntmps82
    go_wp2_with fail
    go_quiet ((go_at_call 83; exact Calls.quiet_of ((HH.out _).mono (fun e w' h => ⟨h.1, 0, h.2.symm⟩))))
    go_wp2_with fail
    go_ret
    exact ⟨rfl, _, rfl⟩

def TInv (f : UInt8 → Bool) (w : World) (b : Nat) (s : ByteArray) (p : Nat) (l t r : Bs) (g : Nat) (wr : World) : Prop :=
  ∃ t1 m, l = t1 ++ m ∧ m.length = g ∧ RdAt wr b s (p + t1.length) m ∧ t = t1 ++ m.takeWhile f ∧ m.dropWhile f = r ∧ Fr w wr (· = b)

theorem take_has (S : Bs) (w : World) (b p : Nat) (s : ByteArray) (l : Bs) (h : RdAt w b s p l) (hz : s.size ≤ 1000000) (t r : Bs) (ht : l.takeWhile (hasF S) = t) (hr : l.dropWhile (hasF S) = r) :
    Calls Tryz.prog 80 #[ptrV b, hasV S] w fun e w' => e = .returned (strV t) ∧ RdAt w' b s (p + t.length) r ∧ Fr w w' (· = b) := by
  have H0 := Lib.hid h
  have c1 := cell_at h.2.2 1
  simp at c1
  have HS := Lib.hid (fun W q m h x hx => sees_has S W b q s m h hz x hx)
  have HT := Lib.hid ht
  have HR := Lib.hid hr
  clear h ht hr
  go_enter Tryz.func80, Tryz.ntmps80
  go_wp2_with fail
  go_loopg [] l.length (fun g wr => TInv (hasF S) w b s p l t r g wr)
  case atStart => exact ⟨[], l, rfl, rfl, by simpa using H0.out, by rw [HT.out]; rfl, HR.out, Fr.refl _ _⟩
  case round =>
    obtain ⟨t1, m, hl1, hg1, hr1, ht1, hm1, hf1⟩ := hrel
    have hlen := hr1.len
    have hlen0 := H0.out.len
    have c0' := cell_at hr1.2.2 0
    have c1' := cell_at hr1.2.2 1
    simp at c0' c1'
    have f1 := free_at hr1.2.2 1
    have HR1 := Lib.hid hr1
    have HF1 := Lib.hid hf1
    obtain ⟨x, hx⟩ : ∃ x, seesD (hasF S) m = x := ⟨_, rfl⟩
    have HSE := Lib.hid (HS.out wr _ m hr1 x hx)
    clear hr1 hf1
    cases x with
    | true =>
      cases m with
      | nil => cases hx
      | cons c m =>
        have hx : hasF S c = true := hx
        obtain ⟨e1, e2⟩ := tw_cons (l := m) hx
        rw [e1] at ht1
        rw [e2] at hm1
        obtain ⟨hlt, -, hd'⟩ := drop_cons HR1.out.2.1
        have HD := Lib.hid hd'
        have HT1 := Lib.hid ht1
        have HM1 := Lib.hid hm1
        have HL1 := Lib.hid hl1
        have HG1 := Lib.hid hg1
        clear hx e1 e2 ht1 hm1 hd' hl1 hg1 hlen
        go_wp2_with fail
        refine HSE.out.mono ?_
        rintro e w2 ⟨rfl, n, rfl⟩
        go_wp2_with fail
        go_roundg m.length
        case measure => have := HG1.out; simp at this; omega
        case rel => exact ⟨t1 ++ [c], m, by rw [HL1.out]; simp, rfl, ⟨by simp; omega, by rw [← HD.out]; simp [Nat.add_assoc], Blk.put' (HR1.out.2.2 : Blk (wr.drewN _) b _ _) 1 _ (by simp; omega)⟩, by rw [HT1.out]; simp, HM1.out, fb HF1.out (fb (Fr.drewN _ _ _) (fr_put _ _ _ _))⟩
    | false =>
      obtain ⟨e1, e2⟩ := tw_stop hx
      rw [e1] at ht1
      rw [e2] at hm1
      simp at ht1
      subst ht1 hm1
      obtain ⟨q, hq⟩ : ∃ q : Nat, q = p + t.length := ⟨_, rfl⟩
      rw [show (p : Int) + (t.length : Int) = (q : Int) by omega] at c1'
      have i0 : (0 : Int) ≤ (p : Int) := by omega
      have i1 : (p : Int) ≤ (q : Int) := by omega
      have i2 : (q : Int) ≤ (s.size : Int) := by omega
      have HE := Lib.hid (show Value.string (s.extract p q) = strV t by rw [ext_str H0.out.2.1 hl1 hq])
      clear hq hlen hlen0
      clear hx e1 e2 hl1 hg1
      go_wp2_with fail
      refine HSE.out.mono ?_
      rintro e w2 ⟨rfl, n, rfl⟩
      go_wp2_with fail
      go_quiet (fail)
      go_wp2_with fail
      go_ret
      exact ⟨by rw [← HE.out]; rfl, HR1.out, fb HF1.out (fb (Fr.drewN _ _ _) (Fr.drewN _ _ _))⟩

theorem take_lacks (S : Bs) (w : World) (b p : Nat) (s : ByteArray) (l : Bs) (h : RdAt w b s p l) (hz : s.size ≤ 1000000) (t r : Bs) (ht : l.takeWhile (lacksF S) = t) (hr : l.dropWhile (lacksF S) = r) :
    Calls Tryz.prog 80 #[ptrV b, lacksV S] w fun e w' => e = .returned (strV t) ∧ RdAt w' b s (p + t.length) r ∧ Fr w w' (· = b) := by
  have H0 := Lib.hid h
  have c1 := cell_at h.2.2 1
  simp at c1
  have HS := Lib.hid (fun W q m h x hx => sees_lacks S W b q s m h hz x hx)
  have HT := Lib.hid ht
  have HR := Lib.hid hr
  clear h ht hr
  go_enter Tryz.func80, Tryz.ntmps80
  go_wp2_with fail
  go_loopg [] l.length (fun g wr => TInv (lacksF S) w b s p l t r g wr)
  case atStart => exact ⟨[], l, rfl, rfl, by simpa using H0.out, by rw [HT.out]; rfl, HR.out, Fr.refl _ _⟩
  case round =>
    obtain ⟨t1, m, hl1, hg1, hr1, ht1, hm1, hf1⟩ := hrel
    have hlen := hr1.len
    have hlen0 := H0.out.len
    have c0' := cell_at hr1.2.2 0
    have c1' := cell_at hr1.2.2 1
    simp at c0' c1'
    have f1 := free_at hr1.2.2 1
    have HR1 := Lib.hid hr1
    have HF1 := Lib.hid hf1
    obtain ⟨x, hx⟩ : ∃ x, seesD (lacksF S) m = x := ⟨_, rfl⟩
    have HSE := Lib.hid (HS.out wr _ m hr1 x hx)
    clear hr1 hf1
    cases x with
    | true =>
      cases m with
      | nil => cases hx
      | cons c m =>
        have hx : lacksF S c = true := hx
        obtain ⟨e1, e2⟩ := tw_cons (l := m) hx
        rw [e1] at ht1
        rw [e2] at hm1
        obtain ⟨hlt, -, hd'⟩ := drop_cons HR1.out.2.1
        have HD := Lib.hid hd'
        have HT1 := Lib.hid ht1
        have HM1 := Lib.hid hm1
        have HL1 := Lib.hid hl1
        have HG1 := Lib.hid hg1
        clear hx e1 e2 ht1 hm1 hd' hl1 hg1 hlen
        go_wp2_with fail
        refine HSE.out.mono ?_
        rintro e w2 ⟨rfl, n, rfl⟩
        go_wp2_with fail
        go_roundg m.length
        case measure => have := HG1.out; simp at this; omega
        case rel => exact ⟨t1 ++ [c], m, by rw [HL1.out]; simp, rfl, ⟨by simp; omega, by rw [← HD.out]; simp [Nat.add_assoc], Blk.put' (HR1.out.2.2 : Blk (wr.drewN _) b _ _) 1 _ (by simp; omega)⟩, by rw [HT1.out]; simp, HM1.out, fb HF1.out (fb (Fr.drewN _ _ _) (fr_put _ _ _ _))⟩
    | false =>
      obtain ⟨e1, e2⟩ := tw_stop hx
      rw [e1] at ht1
      rw [e2] at hm1
      simp at ht1
      subst ht1 hm1
      obtain ⟨q, hq⟩ : ∃ q : Nat, q = p + t.length := ⟨_, rfl⟩
      rw [show (p : Int) + (t.length : Int) = (q : Int) by omega] at c1'
      have i0 : (0 : Int) ≤ (p : Int) := by omega
      have i1 : (p : Int) ≤ (q : Int) := by omega
      have i2 : (q : Int) ≤ (s.size : Int) := by omega
      have HE := Lib.hid (show Value.string (s.extract p q) = strV t by rw [ext_str H0.out.2.1 hl1 hq])
      clear hq hlen hlen0
      clear hx e1 e2 hl1 hg1
      go_wp2_with fail
      refine HSE.out.mono ?_
      rintro e w2 ⟨rfl, n, rfl⟩
      go_wp2_with fail
      go_quiet (fail)
      go_wp2_with fail
      go_ret
      exact ⟨by rw [← HE.out]; rfl, HR1.out, fb HF1.out (fb (Fr.drewN _ _ _) (Fr.drewN _ _ _))⟩
end Go.Proofs.YtlfjknndkjgciaaGreatDoor.S7
namespace Go.Proofs.YtlfjknndkjgciaaGreatDoor.S7
open Go.RowKit Go.Mem Go.Lxr

abbrev whiteS : Bs := [9, 10, 11, 12, 13, 32]
abbrev marksS : Bs := [9, 10, 11, 12, 13, 32, 35, 34]
theorem white_iff (c : UInt8) : whiteS.contains c = whiteB c := by
  have h : ∀ k : Fin 256, whiteS.contains (UInt8.ofNat k.val) = whiteB (UInt8.ofNat k.val) := by decide +kernel
  have := h ⟨c.toNat, c.toNat_lt⟩
  simpa using this
theorem marks_iff (c : UInt8) : marksS.contains c = (stopB c || c == 34) := by
  have h : ∀ k : Fin 256, marksS.contains (UInt8.ofNat k.val) = (stopB (UInt8.ofNat k.val) || UInt8.ofNat k.val == 34) := by decide +kernel
  have := h ⟨c.toNat, c.toNat_lt⟩
  simpa using this
theorem one_iff (d c : UInt8) : List.contains [d] c = (c == d) := by
  show (match c == d with | true => true | false => List.elem c []) = _
  cases c == d <;> rfl
/-- does a field begin? -/
def startsD : Bs → Bool
  | [] => false
  | c :: _ => !(c == 35)
theorem starts_sees (l : Bs) : seesD (lacksF [35]) l = startsD l := by
  cases l with
  | nil => rfl
  | cons c l => show (!List.contains [35] c) = _; rw [one_iff]; rfl
theorem find_any (w : World) (b p : Nat) (s : ByteArray) (l : Bs) (h : RdAt w b s p l) (hz : s.size ≤ 1000000) (t r : Bs) (ht : l.takeWhile (hasF whiteS) = t) (hr : l.dropWhile (hasF whiteS) = r) (x : Bool) (hx : startsD r = x) :
    Calls Tryz.prog 56 #[ptrV b] w fun e w' => e = .returned (.bool x) ∧ RdAt w' b s (p + t.length) r ∧ Fr w w' (· = b) := by
  have HT := Lib.hid (take_has whiteS w b p s l h hz t r ht hr)
  have HS := Lib.hid (fun W h => sees_lacks [35] W b (p + t.length) s r h hz x (by rw [starts_sees]; exact hx))
  clear h ht hr hx
  go_enter Tryz.func56, Tryz.ntmps56
  go_wp2_with fail
  refine HT.out.mono ?_
  rintro e w2 ⟨rfl, hr2, hf2⟩
  have HR2 := Lib.hid hr2
  have HF2 := Lib.hid hf2
  have HS2 := Lib.hid (HS.out w2 hr2)
  clear hr2 hf2
  go_wp2_with fail
  refine HS2.out.mono ?_
  rintro e w3 ⟨rfl, n, rfl⟩
  go_wp2_with fail
  go_ret
  exact ⟨rfl, HR2.out, fb HF2.out (Fr.drewN _ _ _)⟩
/-- the rest of a quoted part by the reader's ways -/
theorem quote_take (r : Bs) : (∃ q r', quoteD r = some (q, r') ∧ r.takeWhile (lacksF [34]) = q ∧ r.dropWhile (lacksF [34]) = 34 :: r') ∨ (quoteD r = none ∧ r.dropWhile (lacksF [34]) = []) := by
  induction r with
  | nil => exact .inr ⟨rfl, rfl⟩
  | cons c r ih =>
    by_cases hc : c = 34
    · subst hc
      refine .inl ⟨[], r, by simp [quoteD], ?_, ?_⟩ <;> rfl
    · have hl : lacksF [34] c = true := by
        show (!List.contains [34] c) = true
        rw [one_iff]
        simpa using hc
      obtain ⟨e1, e2⟩ := tw_cons (l := r) hl
      rw [e1, e2]
      rcases ih with ⟨q, r', h1, h2, h3⟩ | ⟨h1, h2⟩
      · exact .inl ⟨c :: q, r', by rw [quoteD, if_neg hc, h1]; rfl, by rw [h2], h3⟩
      · exact .inr ⟨by rw [quoteD, if_neg hc, h1]; rfl, h2⟩
/-- a quoted part that has an end -/
theorem quoted_some (w : World) (b p : Nat) (s : ByteArray) (r q r' : Bs) (h : RdAt w b s p (34 :: r)) (hz : s.size ≤ 1000000) (hq : quoteD r = some (q, r')) :
    Calls Tryz.prog 84 #[ptrV b] w fun e w' => e = .returned (.tuple #[strV q, .bool true]) ∧ RdAt w' b s (p + q.length + 2) r' ∧ Fr w w' (· = b) := by
  obtain ⟨ht, hr⟩ : r.takeWhile (lacksF [34]) = q ∧ r.dropWhile (lacksF [34]) = 34 :: r' := by
    rcases quote_take r with ⟨q2, r2, h1, h2, h3⟩ | ⟨h1, -⟩
    · rw [hq] at h1
      injection h1 with h1
      injection h1 with h1 h4
      subst h1 h4
      exact ⟨h2, h3⟩
    · rw [hq] at h1
      cases h1
  have hlen := h.len
  have hlr : r.length = q.length + (r'.length + 1) := by
    have := tw_app (lacksF [34]) r
    rw [ht, hr] at this
    rw [this]
    simp
  obtain ⟨hlt, -, hd⟩ := drop_cons h.2.1
  have c1 := cell_at h.2.2 1
  simp at c1
  have f1 := free_at h.2.2 1
  have H0 := Lib.hid h
  have H1 := Lib.hid (show RdAt (w.setCell ⟨b, 1, none⟩ (.int .i64 ((p : Int) + 1))) b s (p + 1) r from ⟨by omega, hd, Blk.put' h.2.2 1 _ (by simp)⟩)
  have HT := Lib.hid (take_lacks [34] _ b (p + 1) s r H1.out hz q (34 :: r') ht hr)
  have HS := Lib.hid (fun W h => sees_has [34] W b (p + 1 + q.length) s (34 :: r') h hz true rfl)
  have HL := Lib.hid hlr
  have HN := Lib.hid hlen
  clear h ht hr hq hd hlr hlen
  go_enter Tryz.func84, Tryz.ntmps84
  go_wp2_with fail
  refine HT.out.mono ?_
  rintro e w2 ⟨rfl, hr2, hf2⟩
  have HR2 := Lib.hid hr2
  have HF2 := Lib.hid (fb (fr_put w b 1 (.int .i64 ((p : Int) + 1))) hf2)
  have HS2 := Lib.hid (HS.out w2 hr2)
  have c2 := cell_at hr2.2.2 1
  simp at c2
  have f2 := free_at hr2.2.2 1
  have k1 : (0 : Int) ≤ (p : Int) + 1 + (q.length : Int) := by omega
  have k2 : (p : Int) + 1 + (q.length : Int) ≤ 1000000 := by have := HN.out; have := HL.out; simp at *; omega
  clear hr2 hf2
  go_wp2_with fail
  refine HS2.out.mono ?_
  rintro e w3 ⟨rfl, n, rfl⟩
  go_wp2_with fail
  go_ret2
  obtain ⟨-, -, hd2⟩ := drop_cons HR2.out.2.1
  have hN := HN.out
  have hL := HL.out
  simp at hN
  refine ⟨rfl, ⟨by omega, by rw [← hd2]; congr 1; omega, Blk.put' (HR2.out.2.2 : Blk (w2.drewN _) b _ _) 1 _ (by simp; omega)⟩, fb HF2.out (fb (Fr.drewN _ _ _) (fr_put _ _ _ _))⟩
/-- one that has none -/
theorem quoted_none (w : World) (b p : Nat) (s : ByteArray) (r : Bs) (h : RdAt w b s p (34 :: r)) (hz : s.size ≤ 1000000) (hq : quoteD r = none) :
    Calls Tryz.prog 84 #[ptrV b] w fun e w' => e = .returned (.tuple #[strV [], .bool false]) ∧ RdAt w' b s p (34 :: r) ∧ Fr w w' (· = b) := by
  obtain ⟨t, ht⟩ : ∃ t, r.takeWhile (lacksF [34]) = t := ⟨_, rfl⟩
  have hr : r.dropWhile (lacksF [34]) = [] := by
    rcases quote_take r with ⟨q2, r2, h1, h2, h3⟩ | ⟨-, h2⟩
    · rw [hq] at h1
      cases h1
    · exact h2
  have hlen := h.len
  obtain ⟨hlt, -, hd⟩ := drop_cons h.2.1
  have c1 := cell_at h.2.2 1
  simp at c1
  have f1 := free_at h.2.2 1
  have H0 := Lib.hid h
  have H1 := Lib.hid (show RdAt (w.setCell ⟨b, 1, none⟩ (.int .i64 ((p : Int) + 1))) b s (p + 1) r from ⟨by omega, hd, Blk.put' h.2.2 1 _ (by simp)⟩)
  have HT := Lib.hid (take_lacks [34] _ b (p + 1) s r H1.out hz t [] ht hr)
  have HS := Lib.hid (fun W h => sees_has [34] W b (p + 1 + t.length) s [] h hz false rfl)
  clear h ht hr hq hd hlen
  go_enter Tryz.func84, Tryz.ntmps84
  go_wp2_with fail
  refine HT.out.mono ?_
  rintro e w2 ⟨rfl, hr2, hf2⟩
  have HR2 := Lib.hid hr2
  have HF2 := Lib.hid (fb (fr_put w b 1 (.int .i64 ((p : Int) + 1))) hf2)
  have HS2 := Lib.hid (HS.out w2 hr2)
  have c2 := cell_at hr2.2.2 1
  simp at c2
  have f2 := free_at hr2.2.2 1
  clear hr2 hf2
  go_wp2_with fail
  refine HS2.out.mono ?_
  rintro e w3 ⟨rfl, n, rfl⟩
  go_wp2_with fail
  go_ret2
  refine ⟨rfl, ⟨H0.out.1, H0.out.2.1, Blk.put' (HR2.out.2.2 : Blk (w2.drewN _) b _ _) 1 _ (by simp)⟩, fb HF2.out (fb (Fr.drewN _ _ _) (fr_put _ _ _ _))⟩
end Go.Proofs.YtlfjknndkjgciaaGreatDoor.S7
namespace Go.Mem
open Go.RowKit

/-- the slice v owns the n elements xs; its row may bear the mark of a conversion, beyond its cells -/
def Row (w : World) (base : Nat) (e : TypeId) (size : Nat) (v : Value) (n : Nat) (xs : List Value) : Prop :=
  xs.length = n * size ∧ ((v = .slice none 0 0 ∧ n = 0) ∨
    ∃ g cap cur fr, v = .slice (some ⟨g, 0, none⟩) n cap ∧ base ≤ g ∧ w.heap[g]? = some (.cells cur e fr) ∧ n ≤ cap ∧ cap ≤ maxLen ∧ cur.size = cap * size ∧ cur.toList.take (n * size) = xs ∧
      ∀ i, i < cur.size → w.frozen? ⟨g, i, none⟩ = false)

theorem Row.base {w : World} {base base' : Nat} {e : TypeId} {size n : Nat} {v : Value} {xs : List Value} (h : Row w base e size v n xs) (hb : base' ≤ base) : Row w base' e size v n xs := by
  refine ⟨h.1, ?_⟩
  rcases h.2 with h2 | ⟨g, cap, cur, fr, hv, hg, r⟩
  · exact .inl h2
  · exact .inr ⟨g, cap, cur, fr, hv, by omega, r⟩
theorem Row.slice {w : World} {base : Nat} {e : TypeId} {size n : Nat} {v : Value} {xs : List Value} (h : Row w base e size v n xs) : ∃ A c, v = .slice A n c := by
  rcases h.2 with ⟨rfl, rfl⟩ | ⟨g, cap, cur, fr, rfl, _⟩
  · exact ⟨_, _, rfl⟩
  · exact ⟨_, _, rfl⟩
theorem Row.lt {w : World} {base : Nat} {e : TypeId} {size n : Nat} {v : Value} {xs : List Value} (h : Row w base e size v n xs) : ∀ k, v.ownBlock = some k → base ≤ k ∧ k < w.heap.size := by
  intro k hk
  rcases h.2 with ⟨rfl, _⟩ | ⟨g, cap, cur, fr, rfl, hb, hg, _⟩
  · simp [Value.ownBlock] at hk
  · simp [Value.ownBlock] at hk
    subst hk
    exact ⟨hb, (Array.getElem?_eq_some_iff.1 hg).1⟩
theorem Row.fr {a b : World} {S : Nat → Prop} {base : Nat} {e : TypeId} {size n : Nat} {v : Value} {xs : List Value} (h : Row a base e size v n xs) (hf : Fr a b S) (hg : ∀ g, v.ownBlock = some g → ¬ S g) : Row b base e size v n xs := by
  refine ⟨h.1, ?_⟩
  rcases h.2 with hn | ⟨g, cap, cur, fr, rfl, hb, hh, h1, h2, h3, h4, h5⟩
  · exact .inl hn
  · have hblk := hf.block g (Array.getElem?_eq_some_iff.1 hh).1 (hg g rfl)
    exact .inr ⟨g, cap, cur, fr, rfl, hb, hblk.trans hh, h1, h2, h3, h4, fun i hi => (World.frozen?_of_block (w := a) (a := ⟨g, i, none⟩) hblk).trans (h5 i hi)⟩
theorem Row.rd {w : World} {base : Nat} {e : TypeId} {size n : Nat} {v : Value} {xs : List Value} (h : Row w base e size v n xs) :
    ∃ A c, v = .slice A n c ∧ n ≤ c ∧ c ≤ maxLen ∧ Rd w size A n xs ∧ (A = none → n = 0 ∧ c = 0) ∧ (∀ a, A = some a → ∃ g, a = ⟨g, 0, none⟩ ∧ v.ownBlock = some g ∧ base ≤ g ∧ g < w.heap.size) := by
  have hx := h.1
  rcases h.2 with ⟨rfl, rfl⟩ | ⟨g, cap, cur, fr, rfl, hb, hh, hn, hc, hs, ht, -⟩
  · have : xs = [] := List.eq_nil_of_length_eq_zero (by simpa using hx)
    subst this
    exact ⟨_, _, rfl, Nat.le_refl _, Nat.zero_le _, Rd.zero _ _ _, fun _ => ⟨rfl, rfl⟩, fun a e => by cases e⟩
  · refine ⟨_, _, rfl, hn, hc, ⟨hx, fun _ => ⟨g, 0, rfl, fun j u hu => ?_⟩⟩, (fun e => by cases e), (fun a e => by cases e; exact ⟨g, rfl, rfl, hb, (Array.getElem?_eq_some_iff.1 hh).1⟩)⟩
    rw [← ht, List.getElem?_take] at hu
    split at hu
    · simp [World.cell?, hh]
      simpa using hu
    · cases hu

/-- what a stretch of stores leaves in its block -/
theorem heap_setCells (g : Nat) : ∀ (vs : List Value) (o : Nat) (cur : Array Value) (e : TypeId) (fr : Nat × Nat) (w : World), w.heap[g]? = some (.cells cur e fr) →
    (w.setCells g o vs).heap[g]? = some (.cells ((vs.zipIdx o).foldl (fun (c : Array Value) (p : Value × Nat) => c.setIfInBounds p.2 p.1) cur) e fr)
  | [], _, _, _, _, _, h => h
  | v :: r, o, cur, e, fr, w, h => by
    rw [World.setCells]
    have h1 : (w.setCell ⟨g, o, none⟩ v).heap[g]? = some (.cells (cur.setIfInBounds o v) e fr) := by
      simp [World.setCell, Array.getElem?_modify, h]
    rw [heap_setCells g r (o + 1) _ e fr _ h1]
    rfl
theorem size_setAll : ∀ (l : List (Value × Nat)) (cur : Array Value), (l.foldl (fun (c : Array Value) (p : Value × Nat) => c.setIfInBounds p.2 p.1) cur).size = cur.size
  | [], _ => rfl
  | p :: l, cur => by rw [List.foldl_cons, size_setAll l]; simp
theorem fr_setCells (g : Nat) : ∀ (vs : List Value) (o : Nat) (w : World), Fr w (w.setCells g o vs) (· = g)
  | [], _, _ => Fr.refl _ _
  | _ :: r, o, _ => (Fr.set (S := (· = g)) rfl).trans (fr_setCells g r (o + 1) _) (fun _ _ h => h) (fun _ _ h => h)

section
variable {P : Program} (w : World)
end

/-- the bytes of a string as cells -/
def strCells (s : ByteArray) : List Value := s.data.toList.map fun b => Value.int .u8 (b.toNat : Int)
/-- a string as a slice of bytes: the row and the world -/
theorem bytes_row (w : World) (e : TypeId) (s : ByteArray) (hs : s.size ≤ maxLen) : Row (Lib.bytesWorld w e s) w.heap.size e 1 (.slice (some ⟨w.heap.size, 0, none⟩) s.size (grownCap w s.size 0 e)) s.size (strCells s) ∧
    Fr w (Lib.bytesWorld w e s) (fun _ => False) := by
  have hge := grownCap_ge w s.size 0 e
  have hcs : (Lib.bytesCells w e s).size = grownCap w s.size 0 e := by
    simp [Lib.bytesCells]
    have : s.data.size = s.size := rfl
    omega
  have hsz : s.data.toList.length = s.size := by rw [Array.length_toList]; rfl
  refine ⟨⟨by simp [strCells, hsz], .inr ⟨w.heap.size, _, _, _, rfl, Nat.le_refl _, Lib.bytesWorld_at_new w e s, hge, grownCap_le_maxLen w s.size 0 e hs, by rw [hcs]; omega, ?_, fun i hi => ?_⟩⟩, ?_⟩
  · simp only [Lib.bytesCells, Nat.mul_one, Array.toList_append, Array.toList_map]
    rw [List.take_left' (by simp [hsz])]
    rfl
  · simp only [World.frozen?, Lib.bytesWorld_at_new]
    simp
    omega
  · exact ⟨rfl, rfl, rfl, by rw [Lib.bytesWorld_size]; omega, fun k hk _ => Lib.bytesWorld_at_old w e s k hk⟩

theorem str_cells_len (s : ByteArray) : (strCells s).length = s.size := by
  have hsz : s.data.toList.length = s.size := by rw [Array.length_toList]; rfl
  simp [strCells, hsz]
theorem first_str {P : Program} (w : World) (s : ByteArray) : (Builtin.firstCells 1 s.size (.string s)).run P w = .ok (strCells s).toArray w := by
  simp only [Builtin.firstCells, Sem.run_pure]
  congr 1
  apply Array.toList_inj.1
  have hsz : s.data.size = s.size := rfl
  rw [← hsz]
  simp [strCells]
section
variable {P : Program} (w : World)
/-- append of a string's bytes onto a row of bytes -/
theorem run_append_str (base : Nat) (t u ty e : TypeId) (i : TypeInfo) (ht : P.underlying t = some (.slice e)) (hu : P.underlying u = some .string) (hi : P.info? e = some i) (hz : i.zero = some (.int .u8 0))
    (hsize : i.size = 1) (hby : i.bytes = 1) (v : Value) (n : Nat) (xs : List Value) (hown : Row w base e 1 v n xs) (s : ByteArray) (h63 : n + s.size ≤ 1000000) (hbase : base ≤ w.heap.size) :
    ∃ v' w', (Builtin.append_ #[t, u] ty #[v, .string s]).run P w = .ok v' w' ∧ Row w' base e 1 v' (n + s.size) (xs ++ strCells s) ∧ Fr w w' (fun k => some k = v.ownBlock) ∧
      (v'.ownBlock = v.ownBlock ∨ v'.ownBlock = some w.heap.size) := by
  have hcl := str_cells_len s
  have hone : ∀ u ∈ strCells s, u.oneCell' = true := by
    intro u hu
    simp only [strCells, List.mem_map] at hu
    obtain ⟨b, -, rfl⟩ := hu
    rfl
  by_cases hm : s.size = 0
  · have hn : strCells s = [] := List.eq_nil_of_length_eq_zero (by omega)
    refine ⟨v, w, ?_, by simpa [hn, hm] using hown, Fr.refl _ _, .inl rfl⟩
    have hf : (Builtin.firstCells 1 0 (.string s)).run P w = .ok #[] w := by
      have := first_str (P := P) w s
      rw [hm, hn] at this
      exact this
    rcases hown.2 with ⟨rfl, rfl⟩ | ⟨g, cap, cur, fr, rfl, hbg, hg, hnc, hcm, hcs, htake, hfz⟩
    · simp [Builtin.append_, run_underlying ht, run_underlying hu, sizeOf, typeInfo, hi, Builtin.lenOf, hm, hsize, hf]
    · simp [Builtin.append_, run_underlying ht, run_underlying hu, sizeOf, typeInfo, hi, Builtin.lenOf, hm, hsize, hf, hnc, storeCells]
  · rcases hown.2 with ⟨rfl, rfl⟩ | ⟨g, cap, cur, fr, rfl, hbg, hg, hnc, hcm, hcs, htake, hfz⟩
    · have hx : xs = [] := List.eq_nil_of_length_eq_zero (by simpa using hown.1)
      subst hx
      have hrun := run_append_nil_string (P := P) w t u ty e i (.int .u8 0) ht hu hi hz s (by omega) (by omega) (by rw [hby]; omega)
      have hge := grownCap_ge w s.size 0 e
      have hcm' : grownCap w s.size 0 e ≤ maxLen := grownCap_le_maxLen w s.size 0 e (by unfold maxLen; omega)
      have hd : s.data.size = s.size := rfl
      have hheap := heap_alloc_new w.drew (.cells (s.data.map (fun b => Value.int .u8 b.toNat) ++ Builtin.zeroCells (Value.int .u8 0).cells (grownCap w s.size 0 e - s.size)) e)
      refine ⟨_, _, hrun, ⟨by simp [hcl], .inr ⟨w.heap.size, _, _, (0, 0), by simp, hbase, hheap, by simpa using hge, hcm', ?_, ?_, ?_⟩⟩, (Fr.drew w _).trans (Fr.new _ _ _) (fun _ _ h => h) (fun _ _ h => h), .inr rfl⟩
      · simp [size_zeroCells, Value.cells]
        omega
      · simp only [Array.toList_append, Array.toList_map, Nat.zero_add, Nat.mul_one, List.nil_append]
        rw [List.take_left' (by simp [hd])]
        rfl
      · intro k _
        have : (w.drew.alloc (.cells (s.data.map (fun b => Value.int .u8 b.toNat) ++ Builtin.zeroCells (Value.int .u8 0).cells (grownCap w s.size 0 e - s.size)) e)).heap[w.heap.size]? = _ := hheap
        simp only [World.frozen?, this]
        simp
    · by_cases hroom : n + s.size ≤ cap
      · have hfit : n * 1 + (strCells s).length ≤ cur.size := by rw [hcl, hcs]; omega
        have hst := run_storeCells_cells (P := P) g (n * 1) (strCells s) 0 w (fun j hj => by simp [World.cell?, hg]; omega) (fun j hj => hfz _ (by omega)) hone
        simp only [Nat.add_zero] at hst
        have hadd : (⟨g, 0, none⟩ : Addr).add (n * 1) = ⟨g, n * 1, none⟩ := by unfold Addr.add; split <;> simp_all
        have hf := first_str (P := P) w s
        refine ⟨.slice (some ⟨g, 0, none⟩) (n + s.size) cap, w.setCells g (n * 1) (strCells s), ?_, ⟨by rw [List.length_append, hown.1, hcl, Nat.add_mul]; omega, .inr ⟨g, cap, _, fr, rfl, hbg, heap_setCells g (strCells s) _ cur e fr w hg, hroom, hcm, by rw [size_setAll]; exact hcs, ?_, ?_⟩⟩, ?_, .inl rfl⟩
        · simp only [Nat.mul_one] at hst hadd
          simp [Builtin.append_, run_underlying ht, run_underlying hu, sizeOf, typeInfo, hi, Builtin.lenOf, hroom, hsize, hf, hadd, hst]
        · have hcells := heap_setCells g (strCells s) (n * 1) cur e fr w hg
          have hat : ∀ k, (w.setCells g (n * 1) (strCells s)).cell? ⟨g, k, none⟩ = (((strCells s).zipIdx (n * 1)).foldl (fun (c : Array Value) (p : Value × Nat) => c.setIfInBounds p.2 p.1) cur)[k]? := fun k => by unfold World.cell?; rw [hcells]; rfl
          refine List.ext_getElem? fun k => ?_
          rw [List.getElem?_take]
          by_cases hk : k < (n + s.size) * 1
          · rw [if_pos hk, Array.getElem?_toList, ← hat k]
            by_cases hk1 : k < n * 1
            · rw [World.cell?_setCells_out g (strCells s) (n * 1) w ⟨g, k, none⟩ (fun _ _ => .inl hk1), List.getElem?_append_left (by rw [hown.1]; exact hk1), ← htake, List.getElem?_take, if_pos hk1]
              simp [World.cell?, hg]
            · have hj : k - n * 1 < (strCells s).length := by rw [hcl]; omega
              have := World.cell?_setCells_in g (strCells s) (n * 1) w (fun j hj => by simp [World.cell?, hg]; omega) (k - n * 1) hj
              rw [show n * 1 + (k - n * 1) = k by omega] at this
              rw [this, List.getElem?_append_right (by rw [hown.1]; omega), hown.1, List.getElem?_eq_getElem hj]
          · rw [if_neg hk, List.getElem?_eq_none]
            rw [List.length_append, hown.1, hcl]
            omega
        · intro k hk
          rw [World.frozen?_setCells]
          exact hfz k (by rw [size_setAll] at hk; exact hk)
        · exact (fr_setCells g (strCells s) _ w).mono fun k _ h => by simp [Value.ownBlock, h]
      · have holds : ∀ j u, xs[j]? = some u → w.drew.cell? ((⟨g, 0, none⟩ : Addr).add j) = some u := fun j u hu => by
          have hadd : (⟨g, 0, none⟩ : Addr).add j = ⟨g, j, none⟩ := by unfold Addr.add; split <;> simp_all
          rw [hadd]
          rw [← htake, List.getElem?_take] at hu
          split at hu
          · have hg' : w.drew.heap[g]? = some (.cells cur e fr) := hg
            simp [World.cell?, hg']
            simpa using hu
          · cases hu
        have hf := first_str (P := P) w.drew s
        have hfo := run_firstCells_some (P := P) w.drew 1 n ⟨g, 0, none⟩ n cap xs (by rw [hown.1]) holds
        have hne : ¬ (n + s.size ≤ cap) := hroom
        have h63' : ¬ (9223372036854775807 < ((n : Int) + (s.size : Int))) := by omega
        have h48' : ¬ (281474976710656 < Builtin.nextslicecap (n + s.size) cap * i.bytes) := by
          have := growslice_fits (need := n + s.size) (old := cap) (bytes := i.bytes) (by omega) (by rw [hby]; omega)
          omega
        have hge := grownCap_ge w (n + s.size) cap e
        have hcm' : grownCap w (n + s.size) cap e ≤ maxLen := grownCap_le_maxLen w (n + s.size) cap e (by unfold maxLen; omega)
        have hrun : (Builtin.append_ #[t, u] ty #[.slice (some ⟨g, 0, none⟩) n cap, .string s]).run P w = .ok (.slice (some ⟨w.heap.size, 0, none⟩) (n + s.size) (grownCap w (n + s.size) cap e))
            (w.drew.alloc (.cells (xs.toArray ++ (strCells s).toArray ++ Builtin.zeroCells (Value.int .u8 0).cells (grownCap w (n + s.size) cap e - (n + s.size))) e)) := by
          simp only [hby, Nat.mul_one] at h48'
          simp [Builtin.append_, run_underlying ht, run_underlying hu, sizeOf, typeInfo, zeroValue, hi, hz, Builtin.lenOf, hne, h63', h48', Question.forced, hf, hfo, hsize, hby, newRow, grownCap]
          congr 2
          apply Array.ext'
          simp [List.append_assoc]
        have hlen : (xs ++ strCells s).length = n + s.size := by rw [List.length_append, hown.1, hcl]; omega
        have hheap := heap_alloc_new w.drew (.cells (xs.toArray ++ (strCells s).toArray ++ Builtin.zeroCells (Value.int .u8 0).cells (grownCap w (n + s.size) cap e - (n + s.size))) e)
        refine ⟨_, _, hrun, ⟨by rw [hlen]; omega, .inr ⟨w.heap.size, _, _, (0, 0), rfl, hbase, hheap, hge, hcm', ?_, ?_, ?_⟩⟩, (Fr.drew w _).trans (Fr.new _ _ _) (fun _ _ h => h) (fun _ _ h => h), .inr rfl⟩
        · have hx := hown.1
          simp [size_zeroCells, Value.cells, hcl]
          omega
        · simp only [Array.toList_append, Nat.mul_one]
          rw [List.take_left' (by simpa using hlen)]
        · intro k _
          have : (w.drew.alloc (.cells (xs.toArray ++ (strCells s).toArray ++ Builtin.zeroCells (Value.int .u8 0).cells (grownCap w (n + s.size) cap e - (n + s.size))) e)).heap[w.heap.size]? = _ := hheap
          simp only [World.frozen?, this]
          simp

theorem wpList_append_str {ops : Array Oper} {rest : List Oper} {o : Oper} {a : Act} {Q : Exit → Act → World → Prop} (hgd : o.guard = none) (s x : Operand) (t u : TypeId)
    (ho : o.op = .call { callee := .builtin .append, args := #[s, x], argTypes := #[t, u] })
    (base : Nat) (e : TypeId) (i : TypeInfo) (ht : P.underlying t = some (.slice e)) (hu : P.underlying u = some .string) (hi : P.info? e = some i) (hz : i.zero = some (.int .u8 0))
    (hsize : i.size = 1) (hby : i.bytes = 1)
    (v : Value) (n : Nat) (xs : List Value) (hs : a.eval s = v) (hown : Row w base e 1 v n xs)
    (str : ByteArray) (hx : a.eval x = .string str) (h63 : n + str.size ≤ 1000000) (hbase : base ≤ w.heap.size)
    (h : ∀ v' w', Row w' base e 1 v' (n + str.size) (xs ++ strCells str) → Fr w w' (fun k => some k = v.ownBlock) → (v'.ownBlock = v.ownBlock ∨ v'.ownBlock = some w.heap.size) → wpList P ops Q rest (a.put o.dst v') w') : wpList P ops Q (o :: rest) a w := by
  refine wpList_plain hgd fun K hK => ?_
  obtain ⟨v', w', hrun, h2, h3, h4⟩ := run_append_str (P := P) w base t u o.type e i ht hu hi hz hsize hby v n xs hown str h63 hbase
  unfold Oper.wp execOp
  simp only [ho, resolve, invoke, builtin, Sem.run_bind, Sem.run_pure, Result.andThen_ok, List.map_toArray, List.map_cons, List.map_nil, hs, hx, hrun]
  exact hK _ _ (h v' w' h2 h3 h4)
end
end Go.Mem
