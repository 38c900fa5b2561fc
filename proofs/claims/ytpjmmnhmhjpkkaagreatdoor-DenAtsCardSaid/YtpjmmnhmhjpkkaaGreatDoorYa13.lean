import Derived.Test.YtpjmmnhmhjpkkaaGreatDoorYa12
import Derived.ChangeArms
import Derived.WideShapes
import Derived.Lib.SmallJoins
import Derived.Test.YtpjmmnhmhjpkkaaGreatDoorYa07
import Derived.Deep.Slices
import Derived.OwnWalk
import Derived.Lib.Hide
import Derived.LoopTactic
import Derived.IntWalk
import Derived.Deep.RegionHeld
import Derived.OrdersHeld
namespace Go.Proofs.YtpjmmnhmhjpkkaaGreatDoor
open Go.RowKit Go.Mem Go.Lin Go.WideShapes

theorem cells_day : Tryz.prog.cellsOf 42 = 3 := by kernel_rfl
theorem cells_at : Tryz.prog.cellsOf 44 = 2 := by kernel_rfl
theorem cells_rule : Tryz.prog.cellsOf 50 = 11 := by kernel_rfl
theorem cells_til : Tryz.prog.cellsOf 46 = 8 := by kernel_rfl
theorem cells_era : Tryz.prog.cellsOf 48 = 13 := by kernel_rfl
theorem cells_int : Tryz.prog.cellsOf 3 = 1 := by kernel_rfl
theorem cells_str : Tryz.prog.cellsOf 9 = 1 := by kernel_rfl
theorem cells_bool : Tryz.prog.cellsOf 4 = 1 := by kernel_rfl
section
variable {H : Type} {enc : TypeId × Value → H} {w : World} {base : Nat} {spare : Nat → Bool} {held : Bool}
def inR (n : Int) : Prop := -9223372036854775808 ≤ n ∧ n ≤ 9223372036854775807
theorem leaf_int {n : Nat} {c : Value} {y : DataW H × List MemPlace} (h : DataW.trod enc Tryz.prog w base spare held n 3 [c] = some y) : ∃ a, c = intV a ∧ inR a := by
  obtain ⟨a, e, -, hw⟩ := DataW.trod_int Tryz.underlying3 h
  simp at e
  exact ⟨a, e, by unfold inR; simpa [Lit.wf, IntKind.min, IntKind.max, IntKind.signed, IntKind.bits] using hw⟩
theorem leaf_bool {n : Nat} {c : Value} {y : DataW H × List MemPlace} (h : DataW.trod enc Tryz.prog w base spare held n 4 [c] = some y) : ∃ a, c = .bool a := by
  obtain ⟨a, e, -⟩ := DataW.trod_bool Tryz.underlying4 h
  simp at e
  exact ⟨a, e⟩
theorem leaf_str {n : Nat} {c : Value} {y : DataW H × List MemPlace} (h : DataW.trod enc Tryz.prog w base spare held n 9 [c] = some y) : ∃ a : Bs, c = strV a ∧ a.length ≤ maxLen := by
  obtain ⟨s, e, -, hz⟩ := DataW.trod_string Tryz.underlying9 h
  simp at e
  exact ⟨s.data.toList, e, by rw [Array.length_toList]; exact hz⟩
theorem fld {X : Type} {fs : Array Field} {T : Field → Option X} {xs : List X} (hlen : xs.length = fs.size) (hf : ∀ (i : Nat) (f : Field), fs[i]? = some f → T f = xs[i]?) (i : Nat) (f : Field) (hi : fs[i]? = some f) : ∃ y, T f = some y := by
  have h : i < fs.size := (Array.getElem?_eq_some_iff.1 hi).1
  exact ⟨xs[i]'(by omega), (hf i f hi).trans (List.getElem?_eq_getElem _)⟩
theorem open_day {n : Nat} {c0 c1 c2 : Value} {y : DataW H × List MemPlace} (h : DataW.trod enc Tryz.prog w base spare held n 42 [c0, c1, c2] = some y) :
    ∃ x : DayL, c0 = intV x.k ∧ c1 = intV x.d ∧ c2 = intV x.w ∧ inR x.k ∧ inR x.d ∧ inR x.w := by
  obtain ⟨xs, m, -, -, -, hlen, hf⟩ := DataW.trod_struct Tryz.underlying42 h
  obtain ⟨y0, g0⟩ := fld hlen hf 0 _ rfl
  simp only [List.getElem_toArray, List.getElem_cons_zero, cells_int, List.drop_zero, List.take_succ_cons, List.take_zero] at g0
  obtain ⟨a0, e0, l0⟩ := leaf_int g0
  obtain ⟨y1, g1⟩ := fld hlen hf 1 _ rfl
  simp only [List.getElem_toArray, List.getElem_cons_zero, List.getElem_cons_succ, cells_int, List.drop_succ_cons, List.drop_zero, List.take_succ_cons, List.take_zero] at g1
  obtain ⟨a1, e1, l1⟩ := leaf_int g1
  obtain ⟨y2, g2⟩ := fld hlen hf 2 _ rfl
  simp only [List.getElem_toArray, List.getElem_cons_zero, List.getElem_cons_succ, cells_int, List.drop_succ_cons, List.drop_zero, List.take_succ_cons, List.take_zero] at g2
  obtain ⟨a2, e2, l2⟩ := leaf_int g2
  exact ⟨⟨a0, a1, a2⟩, e0, e1, e2, l0, l1, l2⟩
theorem open_at {n : Nat} {c0 c1 : Value} {y : DataW H × List MemPlace} (h : DataW.trod enc Tryz.prog w base spare held n 44 [c0, c1] = some y) :
    ∃ x : AtL, c0 = intV x.s ∧ c1 = intV x.k ∧ inR x.s ∧ inR x.k := by
  obtain ⟨xs, m, -, -, -, hlen, hf⟩ := DataW.trod_struct Tryz.underlying44 h
  obtain ⟨y0, g0⟩ := fld hlen hf 0 _ rfl
  simp only [List.getElem_toArray, List.getElem_cons_zero, cells_int, List.drop_zero, List.take_succ_cons, List.take_zero] at g0
  obtain ⟨a0, e0, l0⟩ := leaf_int g0
  obtain ⟨y1, g1⟩ := fld hlen hf 1 _ rfl
  simp only [List.getElem_toArray, List.getElem_cons_zero, List.getElem_cons_succ, cells_int, List.drop_succ_cons, List.drop_zero, List.take_succ_cons, List.take_zero] at g1
  obtain ⟨a1, e1, l1⟩ := leaf_int g1
  exact ⟨⟨a0, a1⟩, e0, e1, l0, l1⟩
theorem open_rule {n : Nat} {c0 c1 c2 c3 c4 c5 c6 c7 c8 c9 c10 : Value} {y : DataW H × List MemPlace} (h : DataW.trod enc Tryz.prog w base spare held n 50 [c0, c1, c2, c3, c4, c5, c6, c7, c8, c9, c10] = some y) :
    ∃ x : RuleL, c0 = strV x.name ∧ c1 = intV x.fr ∧ c2 = intV x.to ∧ c3 = intV x.month ∧ c4 = intV x.on.k ∧ c5 = intV x.on.d ∧ c6 = intV x.on.w ∧ c7 = intV x.at_.s ∧ c8 = intV x.at_.k ∧ c9 = intV x.save ∧ c10 = strV x.letter ∧ x.name.length ≤ maxLen ∧ inR x.fr ∧ inR x.to ∧ inR x.month ∧ inR x.on.k ∧ inR x.on.d ∧ inR x.on.w ∧ inR x.at_.s ∧ inR x.at_.k ∧ inR x.save ∧ x.letter.length ≤ maxLen := by
  obtain ⟨xs, m, -, -, -, hlen, hf⟩ := DataW.trod_struct Tryz.underlying50 h
  obtain ⟨y0, g0⟩ := fld hlen hf 0 _ rfl
  simp only [List.getElem_toArray, List.getElem_cons_zero, cells_str, List.drop_zero, List.take_succ_cons, List.take_zero] at g0
  obtain ⟨a0, e0, l0⟩ := leaf_str g0
  obtain ⟨y1, g1⟩ := fld hlen hf 1 _ rfl
  simp only [List.getElem_toArray, List.getElem_cons_zero, List.getElem_cons_succ, cells_int, List.drop_succ_cons, List.drop_zero, List.take_succ_cons, List.take_zero] at g1
  obtain ⟨a1, e1, l1⟩ := leaf_int g1
  obtain ⟨y2, g2⟩ := fld hlen hf 2 _ rfl
  simp only [List.getElem_toArray, List.getElem_cons_zero, List.getElem_cons_succ, cells_int, List.drop_succ_cons, List.drop_zero, List.take_succ_cons, List.take_zero] at g2
  obtain ⟨a2, e2, l2⟩ := leaf_int g2
  obtain ⟨y3, g3⟩ := fld hlen hf 3 _ rfl
  simp only [List.getElem_toArray, List.getElem_cons_zero, List.getElem_cons_succ, cells_int, List.drop_succ_cons, List.drop_zero, List.take_succ_cons, List.take_zero] at g3
  obtain ⟨a3, e3, l3⟩ := leaf_int g3
  obtain ⟨y4, g4⟩ := fld hlen hf 4 _ rfl
  simp only [List.getElem_toArray, List.getElem_cons_zero, List.getElem_cons_succ, cells_day, List.drop_succ_cons, List.drop_zero, List.take_succ_cons, List.take_zero] at g4
  obtain ⟨a4, e4_0, e4_1, e4_2, l4_0, l4_1, l4_2⟩ := open_day g4
  obtain ⟨y5, g5⟩ := fld hlen hf 5 _ rfl
  simp only [List.getElem_toArray, List.getElem_cons_zero, List.getElem_cons_succ, cells_at, List.drop_succ_cons, List.drop_zero, List.take_succ_cons, List.take_zero] at g5
  obtain ⟨a5, e5_0, e5_1, l5_0, l5_1⟩ := open_at g5
  obtain ⟨y6, g6⟩ := fld hlen hf 6 _ rfl
  simp only [List.getElem_toArray, List.getElem_cons_zero, List.getElem_cons_succ, cells_int, List.drop_succ_cons, List.drop_zero, List.take_succ_cons, List.take_zero] at g6
  obtain ⟨a6, e6, l6⟩ := leaf_int g6
  obtain ⟨y7, g7⟩ := fld hlen hf 7 _ rfl
  simp only [List.getElem_toArray, List.getElem_cons_zero, List.getElem_cons_succ, cells_str, List.drop_succ_cons, List.drop_zero, List.take_succ_cons, List.take_zero] at g7
  obtain ⟨a7, e7, l7⟩ := leaf_str g7
  exact ⟨⟨a0, a1, a2, a3, a4, a5, a6, a7⟩, e0, e1, e2, e3, e4_0, e4_1, e4_2, e5_0, e5_1, e6, e7, l0, l1, l2, l3, l4_0, l4_1, l4_2, l5_0, l5_1, l6, l7⟩
theorem open_til {n : Nat} {c0 c1 c2 c3 c4 c5 c6 c7 : Value} {y : DataW H × List MemPlace} (h : DataW.trod enc Tryz.prog w base spare held n 46 [c0, c1, c2, c3, c4, c5, c6, c7] = some y) :
    ∃ x : UntilL, c0 = .bool x.has ∧ c1 = intV x.year ∧ c2 = intV x.month ∧ c3 = intV x.on.k ∧ c4 = intV x.on.d ∧ c5 = intV x.on.w ∧ c6 = intV x.at_.s ∧ c7 = intV x.at_.k ∧ inR x.year ∧ inR x.month ∧ inR x.on.k ∧ inR x.on.d ∧ inR x.on.w ∧ inR x.at_.s ∧ inR x.at_.k := by
  obtain ⟨xs, m, -, -, -, hlen, hf⟩ := DataW.trod_struct Tryz.underlying46 h
  obtain ⟨y0, g0⟩ := fld hlen hf 0 _ rfl
  simp only [List.getElem_toArray, List.getElem_cons_zero, cells_bool, List.drop_zero, List.take_succ_cons, List.take_zero] at g0
  obtain ⟨a0, e0⟩ := leaf_bool g0
  obtain ⟨y1, g1⟩ := fld hlen hf 1 _ rfl
  simp only [List.getElem_toArray, List.getElem_cons_zero, List.getElem_cons_succ, cells_int, List.drop_succ_cons, List.drop_zero, List.take_succ_cons, List.take_zero] at g1
  obtain ⟨a1, e1, l1⟩ := leaf_int g1
  obtain ⟨y2, g2⟩ := fld hlen hf 2 _ rfl
  simp only [List.getElem_toArray, List.getElem_cons_zero, List.getElem_cons_succ, cells_int, List.drop_succ_cons, List.drop_zero, List.take_succ_cons, List.take_zero] at g2
  obtain ⟨a2, e2, l2⟩ := leaf_int g2
  obtain ⟨y3, g3⟩ := fld hlen hf 3 _ rfl
  simp only [List.getElem_toArray, List.getElem_cons_zero, List.getElem_cons_succ, cells_day, List.drop_succ_cons, List.drop_zero, List.take_succ_cons, List.take_zero] at g3
  obtain ⟨a3, e3_0, e3_1, e3_2, l3_0, l3_1, l3_2⟩ := open_day g3
  obtain ⟨y4, g4⟩ := fld hlen hf 4 _ rfl
  simp only [List.getElem_toArray, List.getElem_cons_zero, List.getElem_cons_succ, cells_at, List.drop_succ_cons, List.drop_zero, List.take_succ_cons, List.take_zero] at g4
  obtain ⟨a4, e4_0, e4_1, l4_0, l4_1⟩ := open_at g4
  exact ⟨⟨a0, a1, a2, a3, a4⟩, e0, e1, e2, e3_0, e3_1, e3_2, e4_0, e4_1, l1, l2, l3_0, l3_1, l3_2, l4_0, l4_1⟩
theorem open_era {n : Nat} {c0 c1 c2 c3 c4 c5 c6 c7 c8 c9 c10 c11 c12 : Value} {y : DataW H × List MemPlace} (h : DataW.trod enc Tryz.prog w base spare held n 48 [c0, c1, c2, c3, c4, c5, c6, c7, c8, c9, c10, c11, c12] = some y) :
    ∃ x : EraL, c0 = intV x.off ∧ c1 = intV x.kind ∧ c2 = intV x.save ∧ c3 = strV x.rules ∧ c4 = strV x.format ∧ c5 = .bool x.til.has ∧ c6 = intV x.til.year ∧ c7 = intV x.til.month ∧ c8 = intV x.til.on.k ∧ c9 = intV x.til.on.d ∧ c10 = intV x.til.on.w ∧ c11 = intV x.til.at_.s ∧ c12 = intV x.til.at_.k ∧ inR x.off ∧ inR x.kind ∧ inR x.save ∧ x.rules.length ≤ maxLen ∧ x.format.length ≤ maxLen ∧ inR x.til.year ∧ inR x.til.month ∧ inR x.til.on.k ∧ inR x.til.on.d ∧ inR x.til.on.w ∧ inR x.til.at_.s ∧ inR x.til.at_.k := by
  obtain ⟨xs, m, -, -, -, hlen, hf⟩ := DataW.trod_struct Tryz.underlying48 h
  obtain ⟨y0, g0⟩ := fld hlen hf 0 _ rfl
  simp only [List.getElem_toArray, List.getElem_cons_zero, cells_int, List.drop_zero, List.take_succ_cons, List.take_zero] at g0
  obtain ⟨a0, e0, l0⟩ := leaf_int g0
  obtain ⟨y1, g1⟩ := fld hlen hf 1 _ rfl
  simp only [List.getElem_toArray, List.getElem_cons_zero, List.getElem_cons_succ, cells_int, List.drop_succ_cons, List.drop_zero, List.take_succ_cons, List.take_zero] at g1
  obtain ⟨a1, e1, l1⟩ := leaf_int g1
  obtain ⟨y2, g2⟩ := fld hlen hf 2 _ rfl
  simp only [List.getElem_toArray, List.getElem_cons_zero, List.getElem_cons_succ, cells_int, List.drop_succ_cons, List.drop_zero, List.take_succ_cons, List.take_zero] at g2
  obtain ⟨a2, e2, l2⟩ := leaf_int g2
  obtain ⟨y3, g3⟩ := fld hlen hf 3 _ rfl
  simp only [List.getElem_toArray, List.getElem_cons_zero, List.getElem_cons_succ, cells_str, List.drop_succ_cons, List.drop_zero, List.take_succ_cons, List.take_zero] at g3
  obtain ⟨a3, e3, l3⟩ := leaf_str g3
  obtain ⟨y4, g4⟩ := fld hlen hf 4 _ rfl
  simp only [List.getElem_toArray, List.getElem_cons_zero, List.getElem_cons_succ, cells_str, List.drop_succ_cons, List.drop_zero, List.take_succ_cons, List.take_zero] at g4
  obtain ⟨a4, e4, l4⟩ := leaf_str g4
  obtain ⟨y5, g5⟩ := fld hlen hf 5 _ rfl
  simp only [List.getElem_toArray, List.getElem_cons_zero, List.getElem_cons_succ, cells_til, List.drop_succ_cons, List.drop_zero, List.take_succ_cons, List.take_zero] at g5
  obtain ⟨a5, e5_0, e5_1, e5_2, e5_3, e5_4, e5_5, e5_6, e5_7, l5_0, l5_1, l5_2, l5_3, l5_4, l5_5, l5_6⟩ := open_til g5
  exact ⟨⟨a0, a1, a2, a3, a4, a5⟩, e0, e1, e2, e3, e4, e5_0, e5_1, e5_2, e5_3, e5_4, e5_5, e5_6, e5_7, l0, l1, l2, l3, l4, l5_0, l5_1, l5_2, l5_3, l5_4, l5_5, l5_6⟩
end
end Go.Proofs.YtpjmmnhmhjpkkaaGreatDoor
namespace Go.Proofs.YtpjmmnhmhjpkkaaGreatDoor
open Go.RowKit Go.Mem Go.Lin Go.WideShapes Go.Xpd

/- rules in their cells -/
def ruleA11 (r : RuleL) : List Value := (ruleC r).toList
theorem ruleA11_len (r : RuleL) : (ruleA11 r).length = 11 := rfl
instance : Inhabited RuleL := ⟨⟨[], 0, 0, 0, ⟨0, 0, 0⟩, ⟨0, 0⟩, 0, []⟩⟩
/-- numbers that an int can be, texts that a string can be -/
structure RuR (r : RuleL) : Prop where
  name : r.name.length ≤ maxLen
  fr : inR r.fr
  to : inR r.to
  month : inR r.month
  k : inR r.on.k
  d : inR r.on.d
  w : inR r.on.w
  s : inR r.at_.s
  tk : inR r.at_.k
  save : inR r.save
  letter : r.letter.length ≤ maxLen
/-- a slice of rules -/
def RusAt (w : World) (A : Option Addr) (l : List RuleL) : Prop := Rd w 11 A l.length (l.flatMap ruleA11)
theorem RusAt.kept {w w' : World} {A : Option Addr} {l : List RuleL} (h : RusAt w A l) (hf : Fr w w' (fun _ => False)) : RusAt w' A l := Rd.fr h hf (fun _ _ _ _ h => h)
/-- the cells of a rule -/
theorem RusAt.at_ {w : World} {A : Option Addr} {l : List RuleL} (h : RusAt w A l) {i : Nat} {r : RuleL} (hr : l[i]? = some r) : ∃ b off, A = some ⟨b, off, none⟩ ∧ ∀ j, j < (ruleC r).size → w.cell? ⟨b, off + i * 11 + j, none⟩ = (ruleC r)[j]? := by
  obtain ⟨b, off, e, hc⟩ := rows_at ruleA11_len h hr
  refine ⟨b, off, e, fun j hj => ?_⟩
  rw [hc j hj]
  show (ruleC r).toList[j]? = _
  simp
theorem array11 {α : Type} {cs : Array α} (h : cs.size = 11) : ∃ c0 c1 c2 c3 c4 c5 c6 c7 c8 c9 c10, cs = #[c0, c1, c2, c3, c4, c5, c6, c7, c8, c9, c10] := by
  obtain ⟨l⟩ := cs
  match l, h with
  | [c0, c1, c2, c3, c4, c5, c6, c7, c8, c9, c10], _ => exact ⟨c0, c1, c2, c3, c4, c5, c6, c7, c8, c9, c10, rfl⟩
/-- a slice of rules that came in -/
theorem rules_in {H : Type} {enc : TypeId × Value → H} {w : World} {base fuel : Nat} {spare : Nat → Bool} {held : Bool} {a : Option Addr} {len cap : Nat} {x : DataW H × List MemPlace}
    (h : DataW.trod enc Tryz.prog w base spare held fuel 40 [Value.slice a len cap] = some x) :
    ∃ l : List RuleL, RusAt w a l ∧ l.length = len ∧ len ≤ maxLen ∧ ∀ r ∈ l, RuR r := by
  rcases Go.Deep.open_slice Tryz.underlying40 h with ⟨hcs, -⟩ | ⟨ad, l, c, m, n, D, Pl, hcs, hb, hl, hm, hmm, hx, hi⟩
  · simp at hcs
    obtain ⟨rfl, rfl, rfl⟩ := hcs
    exact ⟨[], ⟨rfl, fun h => absurd h (by simp)⟩, rfl, Nat.zero_le _, by simp⟩
  · simp at hcs
    obtain ⟨rfl, rfl, rfl⟩ := hcs
    have hlm : len ≤ m := by rw [hmm]; split <;> omega
    rw [cells_rule] at hi
    have each : ∀ i, i < len → ∃ e : RuleL, (∀ j, j < 11 → w.cell? (ad.add (i * 11 + j)) = (ruleA11 e)[j]?) ∧ RuR e := by
      intro i hlt
      obtain ⟨cs, h1, h2⟩ := hi i (by omega)
      obtain ⟨-, hlen, hat⟩ := World.cells?_some h1
      obtain ⟨c0, c1, c2, c3, c4, c5, c6, c7, c8, c9, c10, e⟩ := array11 (cs := cs.toArray) (by simpa using hlen)
      have e : cs = [c0, c1, c2, c3, c4, c5, c6, c7, c8, c9, c10] := by simpa using congrArg Array.toList e
      subst e
      obtain ⟨x, e0, e1, e2, e3, e4, e5, e6, e7, e8, e9, e10, l0, l1, l2, l3, l4, l5, l6, l7, l8, l9, l10⟩ := open_rule h2
      subst e0 e1 e2 e3 e4 e5 e6 e7 e8 e9 e10
      refine ⟨x, fun j hj => ?_, l0, l1, l2, l3, l4, l5, l6, l7, l8, l9, l10⟩
      have k := hat j hj
      rw [Go.Deep.add_add] at k
      exact k
    obtain ⟨f, hf⟩ := Go.Deep.choose_lt each
    refine ⟨(List.range len).map f, ⟨?_, fun hpos => ?_⟩, by simp, by omega, fun r hr => ?_⟩
    · rw [flat_len ruleA11 11 ruleA11_len]
    · rw [List.length_map, List.length_range] at hpos
      have h0 := (hf 0 hpos).1 0 (by omega)
      obtain ⟨b, off, rfl⟩ : ∃ b off, ad = ⟨b, off, none⟩ := by
        obtain ⟨b, off, spot⟩ := ad
        cases spot with
        | none => exact ⟨b, off, rfl⟩
        | some s =>
          exfalso
          have h0 : w.cell? ((⟨b, off, some s⟩ : Addr).add (0 * 11 + 0)) = some (strV (f 0).name) := h0
          simp [Addr.add, World.cell?] at h0
          split at h0 <;> simp at h0
      have hadd : ∀ j, (⟨b, off, none⟩ : Addr).add j = ⟨b, off + j, none⟩ := fun j => by unfold Addr.add; split <;> simp_all
      refine ⟨b, off, rfl, fun j u hu => ?_⟩
      have hj : j < len * 11 := by
        have := (List.getElem?_eq_some_iff.1 hu).1
        rw [flat_len ruleA11 11 ruleA11_len, List.length_map, List.length_range] at this
        exact this
      have h1 : ((List.range len).map f)[j / 11]? = some (f (j / 11)) := by
        rw [List.getElem?_map, List.getElem?_range (by omega)]
        rfl
      have h2 := flat_get ruleA11 11 ruleA11_len h1 (j % 11) (Nat.mod_lt _ (by omega))
      rw [show j / 11 * 11 + j % 11 = j by omega] at h2
      have h3 := (hf (j / 11) (by omega)).1 (j % 11) (Nat.mod_lt _ (by omega))
      rw [hadd, show j / 11 * 11 + j % 11 = j by omega] at h3
      rw [h3, ← h2, hu]
    · obtain ⟨i, hi, rfl⟩ := List.mem_map.1 hr
      exact (hf i (by simpa using hi)).2
end Go.Proofs.YtpjmmnhmhjpkkaaGreatDoor
namespace Go.Proofs.YtpjmmnhmhjpkkaaGreatDoor
open Go.RowKit Go.Mem Go.Lin Go.Xpd

/- fires in their cells -/
def fireC (f : FireL) : Array Value := #[intV f.i, intV f.y, intV f.at_, intV f.bef]
abbrev fireV (f : FireL) : Value := .agg (fireC f)
def fireL (f : FireL) : List Value := (fireC f).toList
theorem fireL_len (f : FireL) : (fireL f).length = 4 := rfl
theorem fireL_one (f : FireL) : (fireL f).toArray.all (·.oneCell') = true := by simp [fireL, fireC, Value.oneCell', intV]
theorem ff4 {a c d : World} (h : Fr a c (fun _ => False)) (h2 : Fr c d (fun _ => False)) : Fr a d (fun _ => False) := h.trans h2 (fun _ _ h => h) (fun _ _ h => h)
theorem kq4 {w a b : World} {p1 p2 p3 p4 o1 o2 o3 o4 : Nat} {v1 v2 v3 v4 : Value} (h : Fr w a (fun _ => False) ∧ a.cell? ⟨p1, o1, none⟩ = some v1 ∧ a.cell? ⟨p2, o2, none⟩ = some v2 ∧ a.cell? ⟨p3, o3, none⟩ = some v3 ∧ a.cell? ⟨p4, o4, none⟩ = some v4) (hf : Fr a b (fun _ => False)) :
    Fr w b (fun _ => False) ∧ b.cell? ⟨p1, o1, none⟩ = some v1 ∧ b.cell? ⟨p2, o2, none⟩ = some v2 ∧ b.cell? ⟨p3, o3, none⟩ = some v3 ∧ b.cell? ⟨p4, o4, none⟩ = some v4 :=
  ⟨ff4 h.1 hf, cell_far hf h.2.1 (fun h => h), cell_far hf h.2.2.1 (fun h => h), cell_far hf h.2.2.2.1 (fun h => h), cell_far hf h.2.2.2.2 (fun h => h)⟩
/-- the reference's before -/
theorem before_any (f g : FireL) (w : World) : Calls Tryz.prog 70 #[fireV f, fireV g] w fun e w' => e = .returned (.bool (decide (befo f g))) ∧ Fr w w' (fun _ => False) := by
  obtain ⟨i, y, a, b⟩ := f
  obtain ⟨j, z, c, d⟩ := g
  obtain ⟨r, hr⟩ : ∃ r, decide (befo ⟨i, y, a, b⟩ ⟨j, z, c, d⟩) = r := ⟨_, rfl⟩
  have HB := Lib.hid (show r = true ↔ (a < c ∨ (a = c ∧ i < j)) by rw [← hr]; exact decide_eq_true_iff)
  rw [hr]
  clear hr
  unfold fireV fireC
  go_enter Tryz.func70, Tryz.ntmps70
  go_wp2_with fail
  all_goals
    go_ret
    refine S6.ret_bf ?_ (ff4 (Fr.new _ _ _) (Fr.new _ _ _))
    have hb := HB.out
    rw [Bool.eq_iff_iff, hb]
    simp
    try omega
end Go.Proofs.YtpjmmnhmhjpkkaaGreatDoor
namespace Go.Proofs.YtpjmmnhmhjpkkaaGreatDoor
open Go.RowKit Go.Mem Go.Lin Go.Dcm

/-- a row of one element, just made -/
theorem rd_made (w : World) (t : TypeId) (cs : Array Value) : Rd (w.alloc (.cells cs t)) cs.size (some ⟨w.heap.size, 0, none⟩) 1 cs.toList := by
  refine ⟨by simp, fun _ => ⟨w.heap.size, 0, rfl, fun j u hu => ?_⟩⟩
  have := cell_at (Blk.made w t cs) j
  rw [Nat.zero_add, this]
  simpa using hu
theorem one_made {cs : Array Value} (h : cs.all (·.oneCell') = true) : ∀ u ∈ cs.toList, u.oneCell' = true := by
  intro u hu
  have := (Array.all_eq_true' ).1 h u (by simpa using hu)
  exact this
/-- a row with one element more -/
theorem own_more {X : Type} {w : World} {base : Nat} {e : TypeId} {k : Nat} {f : X → List Value} {v : Value} {l : List X} {x : X} {cs : List Value} (h : w.ownsRow base e k v (l.length + 1) (l.flatMap f ++ cs)) (hc : cs = f x) : Own w base e k f v (l ++ [x]) := by
  subst hc
  show w.ownsRow base e k v (l ++ [x]).length ((l ++ [x]).flatMap f)
  simpa using h
theorem own_none {X : Type} (w : World) (base : Nat) (e : TypeId) (k : Nat) (f : X → List Value) : Own w base e k f (.slice none 0 0) ([] : List X) := World.ownsRow_nil _ _ _ _
theorem own_base {X : Type} {w : World} {a b : Nat} {e : TypeId} {k : Nat} {f : X → List Value} {v : Value} {l : List X} (h : Own w b e k f v l) (hb : a ≤ b) : Own w a e k f v l := by
  refine ⟨h.1, ?_⟩
  rcases h.2 with h2 | ⟨g, cap, cur, hv, hg, r⟩
  · exact .inl h2
  · exact .inr ⟨g, cap, cur, hv, by omega, r⟩
theorem own_block {X : Type} {w : World} {b : Nat} {e : TypeId} {k : Nat} {f : X → List Value} {v : Value} {l : List X} (h : Own w b e k f v l) {g : Nat} (hg : v.ownBlock = some g) : b ≤ g ∧ g < w.heap.size ∧ ∃ cs, Blk w g e cs := by
  obtain ⟨h1, h2⟩ := h.lt g hg
  refine ⟨h1, h2, ?_⟩
  rcases h.2 with ⟨rfl, _⟩ | ⟨g', cap, cur, rfl, _, hh, _⟩
  · simp [Value.ownBlock] at hg
  · have : g' = g := by simpa [Value.ownBlock] using hg
    subst this
    exact ⟨cur, hh⟩
theorem blk_same {w : World} {g : Nat} {t t' : TypeId} {cs cs' : Array Value} (h : Blk w g t cs) (h' : Blk w g t' cs') : t = t' := by
  unfold Blk at h h'
  rw [h] at h'
  injection h' with h'
  injection h' with _ ht
/- zones -/
theorem ZAt.fr {w w' : World} {S : Nat → Prop} {base : Nat} {z : ZV} (h : ZAt w base z) (hf : Fr w w' S) (h1 : ∀ k cs, base ≤ k → Blk w k 48 cs → ¬ S k) (h2 : ∀ k cs, base ≤ k → Blk w k 3 cs → ¬ S k) : ZAt w' base z := by
  refine ⟨h.e.fr hf fun g hg => ?_, h.l.fr hf fun g hg => ?_⟩
  · obtain ⟨hb, -, cs, hk⟩ := own_block h.e hg
    exact h1 g cs hb hk
  · obtain ⟨hb, -, cs, hk⟩ := own_block h.l hg
    exact h2 g cs hb hk
end Go.Proofs.YtpjmmnhmhjpkkaaGreatDoor
namespace Go.Proofs.YtpjmmnhmhjpkkaaGreatDoor
open Go.RowKit Go.Mem
/- append(append(append([]T{}, x[:n]...), e), x[n:]...) in a region that draws its order -/
theorem ev_ne (a : Act) {d k : Nat} (v : Value) (h : k ≠ d) : (a.put (some d) v).eval (.tmp k) = a.eval (.tmp k) := by
  simp [Act.put, Act.eval, Ne.symm h]
theorem ev_eq (a : Act) {d : Nat} (v : Value) (h : d < a.tmps.size) : (a.put (some d) v).eval (.tmp d) = v := by
  simp [Act.put, Act.eval, h]
theorem pt_size (a : Act) (d : Nat) (v : Value) : (a.put (some d) v).tmps.size = a.tmps.size := by simp [Act.put]
theorem put3 (a : Act) {d0 d1 d2 : Nat} (h0 : d0 ≠ d2) (h1 : d1 ≠ d2) (X Y Z : Value) : ((a.put (some d2) X).put (some d0) Y).put (some d1) Z = ((a.put (some d0) Y).put (some d1) Z).put (some d2) X := by
  simp only [Act.put]
  rw [Array.setIfInBounds_comm _ _ h0.symm, Array.setIfInBounds_comm _ _ h1.symm]
section
variable {P : Program} {ops : Array Oper} {Q : Exit → Act → World → Prop} {md : Region.Mode} {S : World → Prop}
theorem at_store4 {rest : List Oper} {d : Option Tmp} {x y : Operand} {ty : TypeId} {pos : String} {af : Array Edge} {g : Option (Nat × Bool)} {a : Act} {w : World} (t : TypeId) (h : wpList P ops Q (⟨d, .store t x y, ty, pos, af, g⟩ :: rest) a w) : wpList P ops Q (⟨d, .store t x y, ty, pos, af, g⟩ :: rest) a w := h
theorem wp_build0 {o : Oper} {a : Act} {w : World} {K : Act → World → Prop} {t e : TypeId} (ho : o.op = .buildSlice t 0 #[]) (h : ∀ w, (Instr.buildSlice t 0 #[]).run P w = .ok (.slice (some ⟨w.heap.size, 0, none⟩) 0 0) (w.alloc (.cells #[] e)))
    (hK : K (a.put o.dst (.slice (some ⟨w.heap.size, 0, none⟩) 0 0)) (w.alloc (.cells #[] e))) : o.wp P a w K Q := by
  unfold Oper.wp execOp
  simp only [ho, Sem.run_bind, List.map_toArray, List.map_nil, h, Result.andThen_ok]
  exact hK
theorem wp_build1 {o : Oper} {a : Act} {w : World} {K : Act → World → Prop} {t e : TypeId} {y : Operand} {v : Value} {cs : Array Value} (ho : o.op = .buildSlice t 1 #[(0, y)]) (hy : a.eval y = v)
    (h : ∀ w, (Instr.buildSlice t 1 #[(0, v)]).run P w = .ok (.slice (some ⟨w.heap.size, 0, none⟩) 1 1) (w.alloc (.cells cs e))) (hK : K (a.put o.dst (.slice (some ⟨w.heap.size, 0, none⟩) 1 1)) (w.alloc (.cells cs e))) : o.wp P a w K Q := by
  unfold Oper.wp execOp
  simp only [ho, Sem.run_bind, List.map_toArray, List.map_cons, List.map_nil, hy, h, Result.andThen_ok]
  exact hK
theorem own_grown {X : Type} {w W W' : World} {e : TypeId} {k : Nat} {f : X → List Value} {v : Value} {l : List X} (hf : Fr w W (fun _ => False)) (h : Own W w.heap.size e k f v l) (hg : W.grownBy W' v.ownBlock) : Fr w W' (fun _ => False) :=
  hf.fresh (Fr.ofGrown hg) fun _ hi => (own_block h hi.symm).1
theorem flat_ones4 {X : Type} {f : X → List Value} (h : ∀ x, (f x).toArray.all (·.oneCell') = true) (l : List X) : ∀ u ∈ l.flatMap f, u.oneCell' = true := by
  intro u hu
  obtain ⟨x, -, hx⟩ := List.mem_flatMap.1 hu
  have := h x
  rw [List.all_toArray, List.all_eq_true] at this
  exact this u hx
theorem wpAnyH_insert {X : Type} {f : X → List Value} {k : Nat} {p q : List X} {x : X} {fuel : Nat} {listed : Array Bool} {a : Act} {w : World} (i0 i1 i2 i3 i4 : Nat) (o0 o1 o2 o3 o4 : Oper)
    (h0 : ops[i0]? = some o0) (h1 : ops[i1]? = some o1) (h2 : ops[i2]? = some o2) (h3 : ops[i3]? = some o3) (h4 : ops[i4]? = some o4)
    (_n01 : i0 ≠ i1) (n02 : i0 ≠ i2) (n12 : i1 ≠ i2)
    (r : Region.ready md ops listed = [i0, i2]) (r0 : Region.ready md ops (listed.setIfInBounds i0 true) = [i1, i2]) (r01 : Region.ready md ops ((listed.setIfInBounds i0 true).setIfInBounds i1 true) = [i2])
    (r02 : Region.ready md ops ((listed.setIfInBounds i0 true).setIfInBounds i2 true) = [i1]) (r2 : Region.ready md ops (listed.setIfInBounds i2 true) = [i0])
    (r3 : Region.ready md ops (((listed.setIfInBounds i0 true).setIfInBounds i1 true).setIfInBounds i2 true) = [i3]) (r4 : Region.ready md ops ((((listed.setIfInBounds i0 true).setIfInBounds i1 true).setIfInBounds i2 true).setIfInBounds i3 true) = [i4])
    (g0 : o0.guard = none) (g1 : o1.guard = none) (g2 : o2.guard = none) (g3 : o3.guard = none) (g4 : o4.guard = none)
    {ts e : TypeId} {d0 d1 d2 d3 x1 y2 x4 : Nat} (ho0 : o0.op = .buildSlice ts 0 #[]) (ho1 : o1.op = .call { callee := .builtin .append, args := #[.tmp d0, .tmp x1], argTypes := #[ts, ts] })
    (ho2 : o2.op = .buildSlice ts 1 #[(0, .tmp y2)]) (ho3 : o3.op = .call { callee := .builtin .append, args := #[.tmp d1, .tmp d2], argTypes := #[ts, ts] }) (ho4 : o4.op = .call { callee := .builtin .append, args := #[.tmp d3, .tmp x4], argTypes := #[ts, ts] })
    (e0 : o0.dst = some d0) (e1 : o1.dst = some d1) (e2 : o2.dst = some d2) (e3 : o3.dst = some d3)
    (_m01 : d0 ≠ d1) (m02 : d0 ≠ d2) (m12 : d1 ≠ d2) (mx : x1 ≠ d0 ∧ x1 ≠ d2) (my : y2 ≠ d0 ∧ y2 ≠ d1) (mz : x4 ≠ d0 ∧ x4 ≠ d1 ∧ x4 ≠ d2 ∧ x4 ≠ d3)
    (ms : d0 < a.tmps.size ∧ d1 < a.tmps.size ∧ d2 < a.tmps.size ∧ d3 < a.tmps.size)
    (A1 : Option Addr) (c1 : Nat) (hx1 : a.eval (.tmp x1) = .slice A1 p.length c1) (hr1 : Rd w k A1 p.length (p.flatMap f))
    (A4 : Option Addr) (c4 : Nat) (hx4 : a.eval (.tmp x4) = .slice A4 q.length c4) (hr4 : Rd w k A4 q.length (q.flatMap f))
    (v : Value) (cs : Array Value) (hy2 : a.eval (.tmp y2) = v) (hrun0 : ∀ w, (Instr.buildSlice ts 0 #[]).run P w = .ok (.slice (some ⟨w.heap.size, 0, none⟩) 0 0) (w.alloc (.cells #[] e)))
    (hrun : ∀ w, (Instr.buildSlice ts 1 #[(0, v)]).run P w = .ok (.slice (some ⟨w.heap.size, 0, none⟩) 1 1) (w.alloc (.cells cs e)))
    (hcs : cs.toList = f x) (hone : ∀ x, (f x).toArray.all (·.oneCell') = true)
    (z : Value) (bytes : Nat) (ht : P.underlying ts = some (.slice e)) (hinf : (P.info? e).map (fun i => (i.zero, i.size, i.bytes)) = some (some z, k, bytes)) (hzs : z.cells.size = k) (hk : 0 < k) (hcz : cs.size = k)
    (hp : p.length ≤ 100000) (hq : q.length ≤ 100000) (hby : bytes ≤ 1000)
    (hS : ∀ W, Fr w W (fun _ => False) → S W)
    (h : ∀ A9 c9 v0 v1 v2 v3 W, S W → Own W w.heap.size e k f (.slice A9 (p.length + 1 + q.length) c9) (p ++ x :: q) → Fr w W (fun _ => False) →
      wpAnyH P md ops Q S fuel (((((listed.setIfInBounds i0 true).setIfInBounds i1 true).setIfInBounds i2 true).setIfInBounds i3 true).setIfInBounds i4 true) (((((a.put (some d0) v0).put (some d1) v1).put (some d2) v2).put (some d3) v3).put o4.dst (.slice A9 (p.length + 1 + q.length) c9)) W) :
    wpAnyH P md ops Q S (fuel + 5) listed a w := by
  have hw : ∀ (o : Oper) (y : Nat → Option Bool) (hg : o.guard = none), Region.wanted o y = true := fun o y hg => by simp only [Region.wanted, hg]
  obtain ⟨j0, hj0, hz0, hz1, hz2⟩ := info_parts hinf
  have big : ∀ n, n ≤ 200001 → n * bytes ≤ 140737488355328 := fun n hn => by
    have : n * bytes ≤ 200001 * 1000 := Nat.mul_le_mul hn hby
    omega
  -- behind the first three
  have last : ∀ W v0 v1 b2, Own W w.heap.size e k f v1 p → Rd W k (some ⟨b2, 0, none⟩) 1 (f x) → Fr w W (fun _ => False) →
      wpAnyH P md ops Q S (fuel + 2) (((listed.setIfInBounds i0 true).setIfInBounds i1 true).setIfInBounds i2 true) (((a.put (some d0) v0).put (some d1) v1).put (some d2) (.slice (some ⟨b2, 0, none⟩) 1 1)) W := by
    intro W v0 v1 b2 ho hr hf
    refine wpAnyH_ready r3 (by simp) (AllReadyH.cons h3 (fun K hK => ?_) AllReadyH.nil)
    rw [if_pos (hw _ _ g3)]
    have hx : ∀ y ∈ f x, y.oneCell' = true := fun y hy => by
      have := hone x
      rw [List.all_toArray, List.all_eq_true] at this
      exact this y hy
    refine wp_append_rd _ (.tmp d1) (.tmp d2) ts ho3 w.heap.size e j0 z k bytes ht hj0 hz0 hz1 hz2 hzs hk v1 p.length _ ?_ ho _ 1 1 (f x) ?_ hr hx (by simp only [maxLen]; omega) (big _ (by omega)) hf.size ?_
    · rw [ev_ne _ _ m12, ev_eq _ _ (by rw [pt_size]; exact ms.2.1)]
    · rw [ev_eq _ _ (by rw [pt_size, pt_size]; exact ms.2.2.1)]
    intro v3 W3 ho3' hg3 _
    have hf3 := own_grown hf ho hg3
    have ho3 := own_more (x := x) ho3' rfl
    rw [e3]
    refine hK.out _ _ (hS _ hf3) (fun _ => ?_)
    refine wpAnyH_ready r4 (by simp) (AllReadyH.cons h4 (fun K2 hK2 => ?_) AllReadyH.nil)
    rw [if_pos (hw _ _ g4)]
    refine wp_append_rd _ (.tmp d3) (.tmp x4) ts ho4 w.heap.size e j0 z k bytes ht hj0 hz0 hz1 hz2 hzs hk v3 (p.length + 1) _ ?_ ho3' A4 q.length c4 (q.flatMap f) ?_ (Rd.fr hr4 hf3 (fun _ _ _ _ h => h)) (flat_ones4 hone q) (by simp only [maxLen]; omega) (big _ (by omega)) hf3.size ?_
    · rw [ev_eq _ _ (by rw [pt_size, pt_size, pt_size]; exact ms.2.2.2)]
    · rw [ev_ne _ _ mz.2.2.2, ev_ne _ _ mz.2.2.1, ev_ne _ _ mz.2.1, ev_ne _ _ mz.1, hx4]
    intro v4 W4 ho4' hg4 _
    have hf4 := own_grown hf3 ho3 hg4
    obtain ⟨A9, c9, rfl⟩ := Go.Mem.own_slice ho4'
    refine hK2.out _ _ (hS _ hf4) (fun hs => h A9 c9 v0 v1 _ v3 W4 hs ?_ hf4)
    show W4.ownsRow w.heap.size e k _ (p ++ x :: q).length ((p ++ x :: q).flatMap f)
    rw [show (p ++ x :: q).length = p.length + 1 + q.length by simp; omega]
    have e9 : (p ++ x :: q).flatMap f = p.flatMap f ++ f x ++ q.flatMap f := by simp
    rw [e9]
    exact ho4'
  have mk0 : ∀ W, Fr w W (fun _ => False) → Own (W.alloc (.cells #[] e)) w.heap.size e k f (.slice (some ⟨W.heap.size, 0, none⟩) 0 0) ([] : List X) := fun W hf => World.ownsRow_made W #[] 0 hf.size (Nat.zero_le _) (by simp)
  -- the first append
  have app : ∀ (a : Act) W b0 (K : Act → World → Prop), Fr w W (fun _ => False) → Own W w.heap.size e k f (.slice (some ⟨b0, 0, none⟩) 0 0) ([] : List X) → a.eval (.tmp d0) = .slice (some ⟨b0, 0, none⟩) 0 0 → a.eval (.tmp x1) = .slice A1 p.length c1 →
      (∀ v1 W', Own W' w.heap.size e k f v1 p → Fr W W' (fun i => i = b0) → Fr w W' (fun _ => False) → K (a.put (some d1) v1) W') → o1.wp P a W K Q := by
    intro a W b0 K hf ho hd hx hK
    refine wp_append_rd _ (.tmp d0) (.tmp x1) ts ho1 w.heap.size e j0 z k bytes ht hj0 hz0 hz1 hz2 hzs hk _ 0 [] hd ho A1 p.length c1 (p.flatMap f) hx (Rd.fr hr1 hf (fun _ _ _ _ h => h)) (flat_ones4 hone p) (by simp only [maxLen]; omega) (big _ (by omega)) hf.size ?_
    intro v1 W' ho' hg _
    rw [Nat.zero_add, List.nil_append] at ho'
    rw [e1]
    refine hK _ _ ho' ((Fr.ofGrown hg).mono fun i _ hi => ?_) (own_grown hf ho hg)
    have : some i = some b0 := hi
    injection this
  have hn0 := Fr.new w (.cells #[] e) (fun _ => False)
  have hn2 := Fr.new w (.cells cs e) (fun _ => False)
  have rdm : ∀ W : World, Rd (W.alloc (.cells cs e)) k (some ⟨W.heap.size, 0, none⟩) 1 (f x) := fun W => by
    have := rd_made W e cs
    rwa [hcz, hcs] at this
  refine wpAnyH_ready r (by simp) (AllReadyH.cons h0 (fun K hK => ?_) (AllReadyH.cons h2 (fun K hK => ?_) AllReadyH.nil))
  · rw [if_pos (hw _ _ g0)]
    refine wp_build0 ho0 hrun0 ?_
    rw [e0]
    refine hK.out _ _ (hS _ hn0) (fun _ => ?_)
    refine wpAnyH_ready r0 (by simp) (AllReadyH.cons h1 (fun K hK => ?_) (AllReadyH.cons h2 (fun K hK => ?_) AllReadyH.nil))
    · rw [if_pos (hw _ _ g1)]
      refine app _ _ _ K hn0 (mk0 w (Fr.refl _ _)) (ev_eq _ _ ms.1) (by rw [ev_ne _ _ mx.1]; exact hx1) fun v1 W1 ho1' _ hf1 => ?_
      refine hK.out _ _ (hS _ hf1) (fun _ => ?_)
      refine wpAnyH_ready r01 (by simp) (AllReadyH.cons h2 (fun K hK => ?_) AllReadyH.nil)
      rw [if_pos (hw _ _ g2)]
      refine wp_build1 ho2 (by rw [ev_ne _ _ my.2, ev_ne _ _ my.1]; exact hy2) hrun ?_
      rw [e2]
      have hn := Fr.new W1 (.cells cs e) (fun _ => False)
      have hf2 := hf1.trans hn (fun _ _ h => h) (fun _ _ h => h)
      exact hK.out _ _ (hS _ hf2) (fun _ => last _ _ _ _ (ho1'.kept hn) (rdm W1) hf2)
    · rw [if_pos (hw _ _ g2)]
      refine wp_build1 ho2 (by rw [ev_ne _ _ my.1]; exact hy2) hrun ?_
      rw [e2]
      have hn := Fr.new (w.alloc (.cells #[] e)) (.cells cs e) (fun _ => False)
      have hf2 := hn0.trans hn (fun _ _ h => h) (fun _ _ h => h)
      refine hK.out _ _ (hS _ hf2) (fun _ => ?_)
      refine wpAnyH_ready r02 (by simp) (AllReadyH.cons h1 (fun K hK => ?_) AllReadyH.nil)
      rw [if_pos (hw _ _ g1)]
      refine app _ _ _ K hf2 ((mk0 w (Fr.refl _ _)).kept hn) (by rw [ev_ne _ _ m02]; exact ev_eq _ _ ms.1) (by rw [ev_ne _ _ mx.2, ev_ne _ _ mx.1]; exact hx1) fun v1 W1 ho1' hg1 hf1 => ?_
      refine hK.out _ _ (hS _ hf1) (fun _ => ?_)
      rw [← Act.put_comm _ _ _ (by intro d hd e; injection hd with hd; injection e with e; omega), Array.setIfInBounds_comm _ _ n12.symm]
      refine last _ _ _ _ ho1' (Rd.fr (rdm _) hg1 (fun b _ he _ hs => ?_)) hf1
      injection he with he
      have : (w.alloc (.cells #[] e)).heap.size = b := congrArg Addr.block he
      simp at this
      omega
  · rw [if_pos (hw _ _ g2)]
    refine wp_build1 ho2 hy2 hrun ?_
    rw [e2]
    refine hK.out _ _ (hS _ hn2) (fun _ => ?_)
    refine wpAnyH_ready r2 (by simp) (AllReadyH.cons h0 (fun K hK => ?_) AllReadyH.nil)
    rw [if_pos (hw _ _ g0)]
    refine wp_build0 ho0 hrun0 ?_
    rw [e0]
    have hn := Fr.new (w.alloc (.cells cs e)) (.cells #[] e) (fun _ => False)
    have hf2 := hn2.trans hn (fun _ _ h => h) (fun _ _ h => h)
    refine hK.out _ _ (hS _ hf2) (fun _ => ?_)
    rw [Array.setIfInBounds_comm _ _ n02.symm]
    refine wpAnyH_ready r02 (by simp) (AllReadyH.cons h1 (fun K hK => ?_) AllReadyH.nil)
    rw [if_pos (hw _ _ g1)]
    refine app _ _ _ K hf2 (mk0 _ hn2) (ev_eq _ _ (by rw [pt_size]; exact ms.1)) (by rw [ev_ne _ _ mx.1, ev_ne _ _ mx.2]; exact hx1) fun v1 W1 ho1' hg1 hf1 => ?_
    refine hK.out _ _ (hS _ hf1) (fun _ => ?_)
    rw [put3 _ m02 m12, Array.setIfInBounds_comm _ _ n12.symm]
    refine last _ _ _ _ ho1' (Rd.fr (Rd.fr (rdm w) hn (fun _ _ _ _ h => h)) hg1 (fun b _ he _ hs => ?_)) hf1
    injection he with he
    have : w.heap.size = b := congrArg Addr.block he
    simp at hs
    omega
end
end Go.Proofs.YtpjmmnhmhjpkkaaGreatDoor
