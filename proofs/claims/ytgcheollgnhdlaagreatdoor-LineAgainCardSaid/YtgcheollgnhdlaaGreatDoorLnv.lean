import Derived.Test.YtgcheollgnhdlaaGreatDoorProg
import Derived.Test.YtgcheollgnhdlaaGreatDoorMem
import Derived.Test.YtgcheollgnhdlaaGreatDoorLin
import Derived.BigQuiet
import Derived.Tactics2
import Derived.Laws.StructEq
namespace Go.Proofs.YtgcheollgnhdlaaGreatDoor
open Go.RowKit Go.Mem Go.Lin

abbrev strV (l : Bs) : Value := .string ⟨l.toArray⟩
abbrev intV (n : Int) : Value := .int .i64 n
abbrev dayV (d : DayL) : Value := .agg #[intV d.k, intV d.d, intV d.w]
abbrev atV (t : AtL) : Value := .agg #[intV t.s, intV t.k]
def ruleC (r : RuleL) : Array Value := #[strV r.name, intV r.fr, intV r.to, intV r.month, intV r.on.k, intV r.on.d, intV r.on.w, intV r.at_.s, intV r.at_.k, intV r.save, strV r.letter]
abbrev ruleV (r : RuleL) : Value := .agg (ruleC r)
def tilC (u : UntilL) : Array Value := #[.bool u.has, intV u.year, intV u.month, intV u.on.k, intV u.on.d, intV u.on.w, intV u.at_.s, intV u.at_.k]
abbrev tilV (u : UntilL) : Value := .agg (tilC u)
def eraC (e : EraL) : Array Value := #[intV e.off, intV e.kind, intV e.save, strV e.rules, strV e.format, .bool e.til.has, intV e.til.year, intV e.til.month, intV e.til.on.k, intV e.til.on.d, intV e.til.on.w, intV e.til.at_.s, intV e.til.at_.k]
abbrev eraV (e : EraL) : Value := .agg (eraC e)
def lineC (l : LineL) : Array Value := #[intV l.kind, strV l.rule.name, intV l.rule.fr, intV l.rule.to, intV l.rule.month, intV l.rule.on.k, intV l.rule.on.d, intV l.rule.on.w, intV l.rule.at_.s, intV l.rule.at_.k, intV l.rule.save, strV l.rule.letter,
  strV l.name, strV l.target, intV l.era.off, intV l.era.kind, intV l.era.save, strV l.era.rules, strV l.era.format, .bool l.era.til.has, intV l.era.til.year, intV l.era.til.month, intV l.era.til.on.k, intV l.era.til.on.d, intV l.era.til.on.w,
  intV l.era.til.at_.s, intV l.era.til.at_.k, intV l.err, intV l.col]
abbrev lineV (l : LineL) : Value := .agg (lineC l)

theorem eqF_cons {P : Program} {d : Nat} {xs ys : Array Value} {f : Field} {fs : List Field} {w : World} {x y : Value} {b c : Bool} (hn : (f.name ≠ "_")) (hx : (part f.type xs f.offset).run P w = .ok x w) (hy : (part f.type ys f.offset).run P w = .ok y w)
    (he : (Op.equalIn d f.type x y).run P w = .ok b w) (hr : (Op.eqFields d xs ys fs).run P w = .ok c w) : (Op.eqFields d xs ys (f :: fs)).run P w = .ok (b && c) w := by
  rw [Op.eqFields, if_pos hn]
  simp only [Sem.run_bind, hx, hy, he, Result.andThen_ok]
  cases b with
  | true => simpa using hr
  | false => simp
theorem eqF_nil {P : Program} {d : Nat} {xs ys : Array Value} {w : World} : (Op.eqFields d xs ys []).run P w = .ok true w := rfl
theorem eqI (d : Nat) (a b : Int) (w : World) : (Op.equalIn (d + 1) 3 (intV a) (intV b)).run Tryz.prog w = .ok (decide (a = b)) w := run_equalIn_int w d 3 .i64 .i64 a b Tryz.underlying3
theorem eqK (d : Nat) (a b : Int) (w : World) : (Op.equalIn (d + 1) 32 (intV a) (intV b)).run Tryz.prog w = .ok (decide (a = b)) w := run_equalIn_int w d 32 .i64 .i64 a b Tryz.underlying32
theorem eqB (d : Nat) (a b : Bool) (w : World) : (Op.equalIn (d + 1) 4 (.bool a) (.bool b)).run Tryz.prog w = .ok (decide (a = b)) w := by
  rw [run_equalIn_bool' w d 4 a b Tryz.underlying4]
  cases a <;> cases b <;> rfl
theorem eqS (d : Nat) (a b : Bs) (w : World) : (Op.equalIn (d + 1) 9 (strV a) (strV b)).run Tryz.prog w = .ok (decide (a = b)) w := by
  rw [run_equalIn_string w d 9 _ _ Tryz.underlying9, ByteArray.toList_eq, ByteArray.toList_eq]
  congr 1
  show (a.toArray.toList == b.toArray.toList) = _
  by_cases h : a = b <;> simp [h]
theorem eq_day (d : Nat) (a b : DayL) (w : World) : (Op.equalIn (d + 2) 23 (dayV a) (dayV b)).run Tryz.prog w = .ok (decide (a = b)) w := by
  have hS : Tryz.prog.underlying 23 = some (.struct (Tryz.prog.fieldsOf 23)) := by kernel_rfl
  have hp : Tryz.prog.stoodInHeld 23 = false := by kernel_rfl
  rw [run_equalIn_agg w (d + 1) 23 _ _ hS hp]
  simp only [Program.fieldsOf, Tryz.underlying23]
  refine Eq.trans (eqF_cons (x := intV a.k) (y := intV b.k) (by decide) (by kernel_rfl) (by kernel_rfl) (eqI d a.k b.k w) (eqF_cons (x := intV a.d) (y := intV b.d) (by decide) (by kernel_rfl) (by kernel_rfl) (eqI d a.d b.d w) (eqF_cons (x := intV a.w) (y := intV b.w) (by decide) (by kernel_rfl) (by kernel_rfl) (eqI d a.w b.w w) eqF_nil))) ?_
  rcases a with ⟨a0, a1, a2⟩
  rcases b with ⟨b0, b1, b2⟩
  simp [DayL.mk.injEq]
theorem eq_at (d : Nat) (a b : AtL) (w : World) : (Op.equalIn (d + 2) 25 (atV a) (atV b)).run Tryz.prog w = .ok (decide (a = b)) w := by
  have hS : Tryz.prog.underlying 25 = some (.struct (Tryz.prog.fieldsOf 25)) := by kernel_rfl
  have hp : Tryz.prog.stoodInHeld 25 = false := by kernel_rfl
  rw [run_equalIn_agg w (d + 1) 25 _ _ hS hp]
  simp only [Program.fieldsOf, Tryz.underlying25]
  refine Eq.trans (eqF_cons (x := intV a.s) (y := intV b.s) (by decide) (by kernel_rfl) (by kernel_rfl) (eqI d a.s b.s w) (eqF_cons (x := intV a.k) (y := intV b.k) (by decide) (by kernel_rfl) (by kernel_rfl) (eqI d a.k b.k w) eqF_nil)) ?_
  rcases a with ⟨a0, a1⟩
  rcases b with ⟨b0, b1⟩
  simp [AtL.mk.injEq]
theorem eq_rule (d : Nat) (a b : RuleL) (w : World) : (Op.equalIn (d + 3) 27 (ruleV a) (ruleV b)).run Tryz.prog w = .ok (decide (a = b)) w := by
  have hS : Tryz.prog.underlying 27 = some (.struct (Tryz.prog.fieldsOf 27)) := by kernel_rfl
  have hp : Tryz.prog.stoodInHeld 27 = false := by kernel_rfl
  rw [run_equalIn_agg w (d + 2) 27 _ _ hS hp]
  simp only [Program.fieldsOf, Tryz.underlying27]
  refine Eq.trans (eqF_cons (x := strV a.name) (y := strV b.name) (by decide) (by kernel_rfl) (by kernel_rfl) (eqS (d + 1) a.name b.name w) (eqF_cons (x := intV a.fr) (y := intV b.fr) (by decide) (by kernel_rfl) (by kernel_rfl) (eqI (d + 1) a.fr b.fr w) (eqF_cons (x := intV a.to) (y := intV b.to) (by decide) (by kernel_rfl) (by kernel_rfl) (eqI (d + 1) a.to b.to w) (eqF_cons (x := intV a.month) (y := intV b.month) (by decide) (by kernel_rfl) (by kernel_rfl) (eqI (d + 1) a.month b.month w) (eqF_cons (x := dayV a.on) (y := dayV b.on) (by decide) (by kernel_rfl) (by kernel_rfl) (eq_day d a.on b.on w) (eqF_cons (x := atV a.at_) (y := atV b.at_) (by decide) (by kernel_rfl) (by kernel_rfl) (eq_at d a.at_ b.at_ w) (eqF_cons (x := intV a.save) (y := intV b.save) (by decide) (by kernel_rfl) (by kernel_rfl) (eqI (d + 1) a.save b.save w) (eqF_cons (x := strV a.letter) (y := strV b.letter) (by decide) (by kernel_rfl) (by kernel_rfl) (eqS (d + 1) a.letter b.letter w) eqF_nil)))))))) ?_
  rcases a with ⟨a0, a1, a2, a3, a4, a5, a6, a7⟩
  rcases b with ⟨b0, b1, b2, b3, b4, b5, b6, b7⟩
  simp [RuleL.mk.injEq]
theorem eq_til (d : Nat) (a b : UntilL) (w : World) : (Op.equalIn (d + 3) 29 (tilV a) (tilV b)).run Tryz.prog w = .ok (decide (a = b)) w := by
  have hS : Tryz.prog.underlying 29 = some (.struct (Tryz.prog.fieldsOf 29)) := by kernel_rfl
  have hp : Tryz.prog.stoodInHeld 29 = false := by kernel_rfl
  rw [run_equalIn_agg w (d + 2) 29 _ _ hS hp]
  simp only [Program.fieldsOf, Tryz.underlying29]
  refine Eq.trans (eqF_cons (x := .bool a.has) (y := .bool b.has) (by decide) (by kernel_rfl) (by kernel_rfl) (eqB (d + 1) a.has b.has w) (eqF_cons (x := intV a.year) (y := intV b.year) (by decide) (by kernel_rfl) (by kernel_rfl) (eqI (d + 1) a.year b.year w) (eqF_cons (x := intV a.month) (y := intV b.month) (by decide) (by kernel_rfl) (by kernel_rfl) (eqI (d + 1) a.month b.month w) (eqF_cons (x := dayV a.on) (y := dayV b.on) (by decide) (by kernel_rfl) (by kernel_rfl) (eq_day d a.on b.on w) (eqF_cons (x := atV a.at_) (y := atV b.at_) (by decide) (by kernel_rfl) (by kernel_rfl) (eq_at d a.at_ b.at_ w) eqF_nil))))) ?_
  rcases a with ⟨a0, a1, a2, a3, a4⟩
  rcases b with ⟨b0, b1, b2, b3, b4⟩
  simp [UntilL.mk.injEq]
theorem eq_era (d : Nat) (a b : EraL) (w : World) : (Op.equalIn (d + 4) 31 (eraV a) (eraV b)).run Tryz.prog w = .ok (decide (a = b)) w := by
  have hS : Tryz.prog.underlying 31 = some (.struct (Tryz.prog.fieldsOf 31)) := by kernel_rfl
  have hp : Tryz.prog.stoodInHeld 31 = false := by kernel_rfl
  rw [run_equalIn_agg w (d + 3) 31 _ _ hS hp]
  simp only [Program.fieldsOf, Tryz.underlying31]
  refine Eq.trans (eqF_cons (x := intV a.off) (y := intV b.off) (by decide) (by kernel_rfl) (by kernel_rfl) (eqI (d + 2) a.off b.off w) (eqF_cons (x := intV a.kind) (y := intV b.kind) (by decide) (by kernel_rfl) (by kernel_rfl) (eqI (d + 2) a.kind b.kind w) (eqF_cons (x := intV a.save) (y := intV b.save) (by decide) (by kernel_rfl) (by kernel_rfl) (eqI (d + 2) a.save b.save w) (eqF_cons (x := strV a.rules) (y := strV b.rules) (by decide) (by kernel_rfl) (by kernel_rfl) (eqS (d + 2) a.rules b.rules w) (eqF_cons (x := strV a.format) (y := strV b.format) (by decide) (by kernel_rfl) (by kernel_rfl) (eqS (d + 2) a.format b.format w) (eqF_cons (x := tilV a.til) (y := tilV b.til) (by decide) (by kernel_rfl) (by kernel_rfl) (eq_til d a.til b.til w) eqF_nil)))))) ?_
  rcases a with ⟨a0, a1, a2, a3, a4, a5⟩
  rcases b with ⟨b0, b1, b2, b3, b4, b5⟩
  simp [EraL.mk.injEq]
theorem eq_line (d : Nat) (a b : LineL) (w : World) : (Op.equalIn (d + 5) 34 (lineV a) (lineV b)).run Tryz.prog w = .ok (decide (a = b)) w := by
  have hS : Tryz.prog.underlying 34 = some (.struct (Tryz.prog.fieldsOf 34)) := by kernel_rfl
  have hp : Tryz.prog.stoodInHeld 34 = false := by kernel_rfl
  rw [run_equalIn_agg w (d + 4) 34 _ _ hS hp]
  simp only [Program.fieldsOf, Tryz.underlying34]
  refine Eq.trans (eqF_cons (x := intV a.kind) (y := intV b.kind) (by decide) (by kernel_rfl) (by kernel_rfl) (eqI (d + 3) a.kind b.kind w) (eqF_cons (x := ruleV a.rule) (y := ruleV b.rule) (by decide) (by kernel_rfl) (by kernel_rfl) (eq_rule (d + 1) a.rule b.rule w) (eqF_cons (x := strV a.name) (y := strV b.name) (by decide) (by kernel_rfl) (by kernel_rfl) (eqS (d + 3) a.name b.name w) (eqF_cons (x := strV a.target) (y := strV b.target) (by decide) (by kernel_rfl) (by kernel_rfl) (eqS (d + 3) a.target b.target w) (eqF_cons (x := eraV a.era) (y := eraV b.era) (by decide) (by kernel_rfl) (by kernel_rfl) (eq_era d a.era b.era w) (eqF_cons (x := intV a.err) (y := intV b.err) (by decide) (by kernel_rfl) (by kernel_rfl) (eqK (d + 3) a.err b.err w) (eqF_cons (x := intV a.col) (y := intV b.col) (by decide) (by kernel_rfl) (by kernel_rfl) (eqI (d + 3) a.col b.col w) eqF_nil))))))) ?_
  rcases a with ⟨a0, a1, a2, a3, a4, a5, a6⟩
  rcases b with ⟨b0, b1, b2, b3, b4, b5, b6⟩
  simp [LineL.mk.injEq]
theorem eql_day (a b : DayL) (w : World) : (binOp .eql 23 (dayV a) (dayV b)).run Tryz.prog w = .ok (.bool (decide (a = b))) w := by
  rw [run_eql_struct, show (10000 : Nat) = 9998 + 2 from rfl, eq_day 9998 a b w]
  rfl
theorem neq_day (a b : DayL) (w : World) : (binOp .neq 23 (dayV a) (dayV b)).run Tryz.prog w = .ok (.bool (!decide (a = b))) w := by
  rw [run_neq_struct, show (10000 : Nat) = 9998 + 2 from rfl, eq_day 9998 a b w]
  rfl
theorem eql_at (a b : AtL) (w : World) : (binOp .eql 25 (atV a) (atV b)).run Tryz.prog w = .ok (.bool (decide (a = b))) w := by
  rw [run_eql_struct, show (10000 : Nat) = 9998 + 2 from rfl, eq_at 9998 a b w]
  rfl
theorem neq_at (a b : AtL) (w : World) : (binOp .neq 25 (atV a) (atV b)).run Tryz.prog w = .ok (.bool (!decide (a = b))) w := by
  rw [run_neq_struct, show (10000 : Nat) = 9998 + 2 from rfl, eq_at 9998 a b w]
  rfl
theorem eql_rule (a b : RuleL) (w : World) : (binOp .eql 27 (ruleV a) (ruleV b)).run Tryz.prog w = .ok (.bool (decide (a = b))) w := by
  rw [run_eql_struct, show (10000 : Nat) = 9997 + 3 from rfl, eq_rule 9997 a b w]
  rfl
theorem neq_rule (a b : RuleL) (w : World) : (binOp .neq 27 (ruleV a) (ruleV b)).run Tryz.prog w = .ok (.bool (!decide (a = b))) w := by
  rw [run_neq_struct, show (10000 : Nat) = 9997 + 3 from rfl, eq_rule 9997 a b w]
  rfl
theorem eql_til (a b : UntilL) (w : World) : (binOp .eql 29 (tilV a) (tilV b)).run Tryz.prog w = .ok (.bool (decide (a = b))) w := by
  rw [run_eql_struct, show (10000 : Nat) = 9997 + 3 from rfl, eq_til 9997 a b w]
  rfl
theorem neq_til (a b : UntilL) (w : World) : (binOp .neq 29 (tilV a) (tilV b)).run Tryz.prog w = .ok (.bool (!decide (a = b))) w := by
  rw [run_neq_struct, show (10000 : Nat) = 9997 + 3 from rfl, eq_til 9997 a b w]
  rfl
theorem eql_era (a b : EraL) (w : World) : (binOp .eql 31 (eraV a) (eraV b)).run Tryz.prog w = .ok (.bool (decide (a = b))) w := by
  rw [run_eql_struct, show (10000 : Nat) = 9996 + 4 from rfl, eq_era 9996 a b w]
  rfl
theorem neq_era (a b : EraL) (w : World) : (binOp .neq 31 (eraV a) (eraV b)).run Tryz.prog w = .ok (.bool (!decide (a = b))) w := by
  rw [run_neq_struct, show (10000 : Nat) = 9996 + 4 from rfl, eq_era 9996 a b w]
  rfl
theorem eql_line (a b : LineL) (w : World) : (binOp .eql 34 (lineV a) (lineV b)).run Tryz.prog w = .ok (.bool (decide (a = b))) w := by
  rw [run_eql_struct, show (10000 : Nat) = 9995 + 5 from rfl, eq_line 9995 a b w]
  rfl
theorem neq_line (a b : LineL) (w : World) : (binOp .neq 34 (lineV a) (lineV b)).run Tryz.prog w = .ok (.bool (!decide (a = b))) w := by
  rw [run_neq_struct, show (10000 : Nat) = 9995 + 5 from rfl, eq_line 9995 a b w]
  rfl
end Go.Proofs.YtgcheollgnhdlaaGreatDoor
