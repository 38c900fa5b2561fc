import Derived.Test.YtodcnbejnchmhaaGreatDoorProg
import Derived.Test.YtodcnbejnchmhaaGreatDoorYc10
import Derived.Test.YtodcnbejnchmhaaGreatDoorYc07
import Derived.BigQuiet
import Derived.Tactics2
import Derived.Laws.StructEq
import Derived.ChangeArms
import Derived.WideShapes
import Derived.Lib.SmallJoins
import Derived.Deep.MidRow
import Derived.Great.BuildSlice
import Derived.Test.YtodcnbejnchmhaaGreatDoorYc09
import Derived.Laws.OwnMore
import Derived.OwnWalk
import Derived.Lib.Hide
import Derived.LoopTactic
import Derived.IntWalk
import Derived.Deep.RegionHeld
namespace Go.Proofs.YtodcnbejnchmhaaGreatDoor
open _root_.Go.Proofs.Tryz
open Go.RowKit Go.Mem Go.Lin

abbrev strV (l : Bs) : Value := .string ⟨l.toArray⟩
abbrev intV (n : Int) : Value := .int .i64 n
abbrev dayV (d : DayL) : Value := .agg #[intV d.k,intV d.d,intV d.w]
abbrev atV (t : AtL) : Value := .agg #[intV t.s,intV t.k]
def Qaq (r : RuleL) : Array Value := #[strV r.name,intV r.fr,intV r.to,intV r.month,intV r.on.k,intV r.on.d,intV r.on.w,intV r.at_.s,intV r.at_.k,intV r.save,strV r.letter]
abbrev QoM (r : RuleL) : Value := .agg (Qaq r)
def tilC (u : UntilL) : Array Value := #[.bool u.has,intV u.year,intV u.month,intV u.on.k,intV u.on.d,intV u.on.w,intV u.at_.s,intV u.at_.k]
abbrev tilV (u : UntilL) : Value := .agg (tilC u)
def eraC (e : EraL) : Array Value := #[intV e.off,intV e.kind,intV e.save,strV e.rules,strV e.format,.bool e.til.has,intV e.til.year,intV e.til.month,intV e.til.on.k,intV e.til.on.d,intV e.til.on.w,intV e.til.at_.s,intV e.til.at_.k]
abbrev eraV (e : EraL) : Value := .agg (eraC e)
def Qad (l : LineL) : Array Value := #[intV l.kind,strV l.rule.name,intV l.rule.fr,intV l.rule.to,intV l.rule.month,intV l.rule.on.k,intV l.rule.on.d,intV l.rule.on.w,intV l.rule.at_.s,intV l.rule.at_.k,intV l.rule.save,strV l.rule.letter,
 strV l.name,strV l.target,intV l.era.off,intV l.era.kind,intV l.era.save,strV l.era.rules,strV l.era.format,.bool l.era.til.has,intV l.era.til.year,intV l.era.til.month,intV l.era.til.on.k,intV l.era.til.on.d,intV l.era.til.on.w,
 intV l.era.til.at_.s,intV l.era.til.at_.k,intV l.err,intV l.col]
abbrev QeL (l : LineL) : Value := .agg (Qad l)

theorem QaJ {P : Program} {d : Nat} {xs ys : Array Value} {f : Field} {fs : List Field} {w : World} {x y : Value} {b c : Bool} (hn : (f.name ≠ "_")) (hx : (part f.type xs f.offset).run P w = .ok x w) (hy : (part f.type ys f.offset).run P w = .ok y w)
  (he : (Op.equalIn d f.type x y).run P w = .ok b w) (hr : (Op.eqFields d xs ys fs).run P w = .ok c w) : (Op.eqFields d xs ys (f :: fs)).run P w = .ok (b && c) w := by
 rw [Op.eqFields,if_pos hn];simp only [Sem.run_bind,hx,hy,he,Result.andThen_ok];cases b with
 | true => simpa using hr
 | false => simp
theorem QfY {P : Program} {d : Nat} {xs ys : Array Value} {w : World} : (Op.eqFields d xs ys []).run P w = .ok true w := rfl
theorem eqI (d : Nat) (a b : Int) (w : World) : (Op.equalIn (d + 1) 3 (intV a) (intV b)).run Tryz.prog w = .ok (decide (a = b)) w := run_equalIn_int w d 3 .i64 .i64 a b underlying3
theorem eqK (d : Nat) (a b : Int) (w : World) : (Op.equalIn (d + 1) 26 (intV a) (intV b)).run Tryz.prog w = .ok (decide (a = b)) w := run_equalIn_int w d 26 .i64 .i64 a b underlying26
theorem eqB (d : Nat) (a b : Bool) (w : World) : (Op.equalIn (d + 1) 4 (.bool a) (.bool b)).run Tryz.prog w = .ok (decide (a = b)) w := by
 rw [run_equalIn_bool' w d 4 a b underlying4];cases a <;> cases b <;> rfl
theorem eqS (d : Nat) (a b : Bs) (w : World) : (Op.equalIn (d + 1) 9 (strV a) (strV b)).run Tryz.prog w = .ok (decide (a = b)) w := by
 rw [run_equalIn_string w d 9 _ _ underlying9,ByteArray.toList_eq,ByteArray.toList_eq];congr 1;show (a.toArray.toList == b.toArray.toList) = _;by_cases h : a = b <;> simp [h]
theorem eq_day (d : Nat) (a b : DayL) (w : World) : (Op.equalIn (d + 2) 61 (dayV a) (dayV b)).run Tryz.prog w = .ok (decide (a = b)) w := by
 have hS : Tryz.prog.underlying 61 = some (.struct (Tryz.prog.fieldsOf 61)) := by kernel_rfl
 have hp : Tryz.prog.stoodInHeld 61 = false := by kernel_rfl
 rw [run_equalIn_agg w (d + 1) 61 _ _ hS hp];simp only [Program.fieldsOf,underlying61];refine Eq.trans (QaJ (x := intV a.k) (y := intV b.k) (by decide) (by kernel_rfl) (by kernel_rfl) (eqI d a.k b.k w) (QaJ (x := intV a.d) (y := intV b.d) (by decide) (by kernel_rfl) (by kernel_rfl) (eqI d a.d b.d w) (QaJ (x := intV a.w) (y := intV b.w) (by decide) (by kernel_rfl) (by kernel_rfl) (eqI d a.w b.w w) QfY))) ?_;rcases a with ⟨a0,a1,a2⟩
 rcases b with ⟨b0,b1,b2⟩
 simp [DayL.mk.injEq]
theorem eq_at (d : Nat) (a b : AtL) (w : World) : (Op.equalIn (d + 2) 63 (atV a) (atV b)).run Tryz.prog w = .ok (decide (a = b)) w := by
 have hS : Tryz.prog.underlying 63 = some (.struct (Tryz.prog.fieldsOf 63)) := by kernel_rfl
 have hp : Tryz.prog.stoodInHeld 63 = false := by kernel_rfl
 rw [run_equalIn_agg w (d + 1) 63 _ _ hS hp];simp only [Program.fieldsOf,underlying63];refine Eq.trans (QaJ (x := intV a.s) (y := intV b.s) (by decide) (by kernel_rfl) (by kernel_rfl) (eqI d a.s b.s w) (QaJ (x := intV a.k) (y := intV b.k) (by decide) (by kernel_rfl) (by kernel_rfl) (eqI d a.k b.k w) QfY)) ?_;rcases a with ⟨a0,a1⟩
 rcases b with ⟨b0,b1⟩
 simp [AtL.mk.injEq]
theorem eq_rule (d : Nat) (a b : RuleL) (w : World) : (Op.equalIn (d + 3) 65 (QoM a) (QoM b)).run Tryz.prog w = .ok (decide (a = b)) w := by
 have hS : Tryz.prog.underlying 65 = some (.struct (Tryz.prog.fieldsOf 65)) := by kernel_rfl
 have hp : Tryz.prog.stoodInHeld 65 = false := by kernel_rfl
 rw [run_equalIn_agg w (d + 2) 65 _ _ hS hp];simp only [Program.fieldsOf,underlying65];refine Eq.trans (QaJ (x := strV a.name) (y := strV b.name) (by decide) (by kernel_rfl) (by kernel_rfl) (eqS (d + 1) a.name b.name w) (QaJ (x := intV a.fr) (y := intV b.fr) (by decide) (by kernel_rfl) (by kernel_rfl) (eqI (d + 1) a.fr b.fr w) (QaJ (x := intV a.to) (y := intV b.to) (by decide) (by kernel_rfl) (by kernel_rfl) (eqI (d + 1) a.to b.to w) (QaJ (x := intV a.month) (y := intV b.month) (by decide) (by kernel_rfl) (by kernel_rfl) (eqI (d + 1) a.month b.month w) (QaJ (x := dayV a.on) (y := dayV b.on) (by decide) (by kernel_rfl) (by kernel_rfl) (eq_day d a.on b.on w) (QaJ (x := atV a.at_) (y := atV b.at_) (by decide) (by kernel_rfl) (by kernel_rfl) (eq_at d a.at_ b.at_ w) (QaJ (x := intV a.save) (y := intV b.save) (by decide) (by kernel_rfl) (by kernel_rfl) (eqI (d + 1) a.save b.save w) (QaJ (x := strV a.letter) (y := strV b.letter) (by decide) (by kernel_rfl) (by kernel_rfl) (eqS (d + 1) a.letter b.letter w) QfY)))))))) ?_;rcases a with ⟨a0,a1,a2,a3,a4,a5,a6,a7⟩
 rcases b with ⟨b0,b1,b2,b3,b4,b5,b6,b7⟩
 simp [RuleL.mk.injEq]
theorem eq_til (d : Nat) (a b : UntilL) (w : World) : (Op.equalIn (d + 3) 67 (tilV a) (tilV b)).run Tryz.prog w = .ok (decide (a = b)) w := by
 have hS : Tryz.prog.underlying 67 = some (.struct (Tryz.prog.fieldsOf 67)) := by kernel_rfl
 have hp : Tryz.prog.stoodInHeld 67 = false := by kernel_rfl
 rw [run_equalIn_agg w (d + 2) 67 _ _ hS hp];simp only [Program.fieldsOf,underlying67];refine Eq.trans (QaJ (x := .bool a.has) (y := .bool b.has) (by decide) (by kernel_rfl) (by kernel_rfl) (eqB (d + 1) a.has b.has w) (QaJ (x := intV a.year) (y := intV b.year) (by decide) (by kernel_rfl) (by kernel_rfl) (eqI (d + 1) a.year b.year w) (QaJ (x := intV a.month) (y := intV b.month) (by decide) (by kernel_rfl) (by kernel_rfl) (eqI (d + 1) a.month b.month w) (QaJ (x := dayV a.on) (y := dayV b.on) (by decide) (by kernel_rfl) (by kernel_rfl) (eq_day d a.on b.on w) (QaJ (x := atV a.at_) (y := atV b.at_) (by decide) (by kernel_rfl) (by kernel_rfl) (eq_at d a.at_ b.at_ w) QfY))))) ?_;rcases a with ⟨a0,a1,a2,a3,a4⟩
 rcases b with ⟨b0,b1,b2,b3,b4⟩
 simp [UntilL.mk.injEq]
theorem eq_era (d : Nat) (a b : EraL) (w : World) : (Op.equalIn (d + 4) 69 (eraV a) (eraV b)).run Tryz.prog w = .ok (decide (a = b)) w := by
 have hS : Tryz.prog.underlying 69 = some (.struct (Tryz.prog.fieldsOf 69)) := by kernel_rfl
 have hp : Tryz.prog.stoodInHeld 69 = false := by kernel_rfl
 rw [run_equalIn_agg w (d + 3) 69 _ _ hS hp];simp only [Program.fieldsOf,underlying69];refine Eq.trans (QaJ (x := intV a.off) (y := intV b.off) (by decide) (by kernel_rfl) (by kernel_rfl) (eqI (d + 2) a.off b.off w) (QaJ (x := intV a.kind) (y := intV b.kind) (by decide) (by kernel_rfl) (by kernel_rfl) (eqI (d + 2) a.kind b.kind w) (QaJ (x := intV a.save) (y := intV b.save) (by decide) (by kernel_rfl) (by kernel_rfl) (eqI (d + 2) a.save b.save w) (QaJ (x := strV a.rules) (y := strV b.rules) (by decide) (by kernel_rfl) (by kernel_rfl) (eqS (d + 2) a.rules b.rules w) (QaJ (x := strV a.format) (y := strV b.format) (by decide) (by kernel_rfl) (by kernel_rfl) (eqS (d + 2) a.format b.format w) (QaJ (x := tilV a.til) (y := tilV b.til) (by decide) (by kernel_rfl) (by kernel_rfl) (eq_til d a.til b.til w) QfY)))))) ?_;rcases a with ⟨a0,a1,a2,a3,a4,a5⟩
 rcases b with ⟨b0,b1,b2,b3,b4,b5⟩
 simp [EraL.mk.injEq]
theorem eq_line (d : Nat) (a b : LineL) (w : World) : (Op.equalIn (d + 5) 71 (QeL a) (QeL b)).run Tryz.prog w = .ok (decide (a = b)) w := by
 have hS : Tryz.prog.underlying 71 = some (.struct (Tryz.prog.fieldsOf 71)) := by kernel_rfl
 have hp : Tryz.prog.stoodInHeld 71 = false := by kernel_rfl
 rw [run_equalIn_agg w (d + 4) 71 _ _ hS hp];simp only [Program.fieldsOf,underlying71];refine Eq.trans (QaJ (x := intV a.kind) (y := intV b.kind) (by decide) (by kernel_rfl) (by kernel_rfl) (eqI (d + 3) a.kind b.kind w) (QaJ (x := QoM a.rule) (y := QoM b.rule) (by decide) (by kernel_rfl) (by kernel_rfl) (eq_rule (d + 1) a.rule b.rule w) (QaJ (x := strV a.name) (y := strV b.name) (by decide) (by kernel_rfl) (by kernel_rfl) (eqS (d + 3) a.name b.name w) (QaJ (x := strV a.target) (y := strV b.target) (by decide) (by kernel_rfl) (by kernel_rfl) (eqS (d + 3) a.target b.target w) (QaJ (x := eraV a.era) (y := eraV b.era) (by decide) (by kernel_rfl) (by kernel_rfl) (eq_era d a.era b.era w) (QaJ (x := intV a.err) (y := intV b.err) (by decide) (by kernel_rfl) (by kernel_rfl) (eqK (d + 3) a.err b.err w) (QaJ (x := intV a.col) (y := intV b.col) (by decide) (by kernel_rfl) (by kernel_rfl) (eqI (d + 3) a.col b.col w) QfY))))))) ?_;rcases a with ⟨a0,a1,a2,a3,a4,a5,a6⟩
 rcases b with ⟨b0,b1,b2,b3,b4,b5,b6⟩
 simp [LineL.mk.injEq]
theorem neq_line (a b : LineL) (w : World) : (binOp .neq 71 (QeL a) (QeL b)).run Tryz.prog w = .ok (.bool (!decide (a = b))) w := by
 rw [run_neq_struct,show (10000 : Nat) = 9995 + 5 from rfl,eq_line 9995 a b w];rfl
end Go.Proofs.YtodcnbejnchmhaaGreatDoor
namespace Go.Proofs.YtodcnbejnchmhaaGreatDoor
open _root_.Go.Proofs.Tryz
open Go.RowKit Go.Mem Go.Lin Go.WideShapes

theorem QfA : Tryz.prog.cellsOf 3 = 1 := by kernel_rfl
theorem Qqd : Tryz.prog.cellsOf 9 = 1 := by kernel_rfl
section
variable {H : Type} {enc : TypeId × Value → H} {w : World} {base : Nat} {spare : Nat → Bool} {held : Bool}
def inR (n : Int) : Prop := -9223372036854775808 ≤ n ∧ n ≤ 9223372036854775807
theorem Qgo {n : Nat} {c : Value} {y : DataW H × List MemPlace} (h : DataW.trod enc Tryz.prog w base spare held n 3 [c] = some y) : ∃ a,c = intV a ∧ inR a := by
 obtain ⟨a,e,-,hw⟩ := DataW.trod_int underlying3 h;simp at e;exact ⟨a,e,by unfold inR; simpa [Lit.wf,IntKind.min,IntKind.max,IntKind.signed,IntKind.bits] using hw⟩
theorem leaf_str {n : Nat} {c : Value} {y : DataW H × List MemPlace} (h : DataW.trod enc Tryz.prog w base spare held n 9 [c] = some y) : ∃ a : Bs,c = strV a ∧ a.length ≤ maxLen := by
 obtain ⟨s,e,-,hz⟩ := DataW.trod_string underlying9 h;simp at e;exact ⟨s.data.toList,e,by rw [Array.length_toList]; exact hz⟩
theorem fld {X : Type} {fs : Array Field} {T : Field → Option X} {xs : List X} (hlen : xs.length = fs.size) (hf : ∀ (i : Nat) (f : Field),fs[i]? = some f → T f = xs[i]?) (i : Nat) (f : Field) (hi : fs[i]? = some f) : ∃ y,T f = some y := by
 have h : i < fs.size := (Array.getElem?_eq_some_iff.1 hi).1;exact ⟨xs[i]'(by omega),(hf i f hi).trans (List.getElem?_eq_getElem _)⟩
end
end Go.Proofs.YtodcnbejnchmhaaGreatDoor
namespace Go.Mem
/-- cells of a row,from a place on,turned into others -/
def Qbz : Array Value → Nat → List Value → Array Value
 | cs,_,[] => cs
 | cs,o,v :: vs => Qbz (cs.setIfInBounds o v) (o + 1) vs
theorem Blk.many {g : Nat} {t : TypeId} : ∀ (vs : List Value) (o : Nat) (cs : Array Value) (w : World),Blk w g t cs → Blk (w.setCells g o vs) g t (Qbz cs o vs)
 | [],_,_,_,h => h
 | v :: vs,o,_,_,h => Blk.many vs (o + 1) _ _ (h.put o v)
theorem Fr.many {g : Nat} : ∀ (vs : List Value) (o : Nat) (w : World),Fr w (w.setCells g o vs) (fun i => i = g)
 | [],_,_ => Fr.refl _ _
 | v :: vs,o,_ => (Fr.set (S := fun i => i = g) (a := ⟨g,o,none⟩) (v := v) rfl).trans (Fr.many vs (o + 1) _) (fun _ _ h => h) (fun _ _ h => h)
section
variable {P : Program} {ops : Array Oper} {rest : List Oper} {o : Oper} {a : Act} {w : World} {Q : Exit → Act → World → Prop}
theorem Qea (w : World) (g off : Nat) (ty t : TypeId) (old cs : Array Value) (d : TypeDesc) (hg : Blk w g t old) (hu : P.underlying ty = some d) (hd : d.isRow = true) (hi : (P.info? ty).map (·.size) = some cs.size)
  (hc : ∀ j,j < cs.size → old[off + j]? = cs[j]?) : (loadVar ty ⟨g,off,none⟩).run P w = .ok (.agg cs) w := by
 have := run_loadVar_mid (P := P) w g off ty cs.toList d (fun j v hv => by
  have hj : j < cs.size := by have := (List.getElem?_eq_some_iff.1 hv).1; simpa using this
  rw [Qaa hg,hc j hj];simpa using hv) hu hd (by rw [hi]; simp)
 simpa using this
/-- a struct is loaded out of a row -/
theorem Qgx (ty : TypeId) (x : Operand) (g off : Nat) (t : TypeId) (old cs : Array Value) (d : TypeDesc) (hgd : Region.wanted o (yielded ops a.tmps) = true) (ho : o.op = .load ty x) (hx : a.eval x = .pointer (some ⟨g,off,none⟩)) (hg : Blk w g t old)
  (hu : P.underlying ty = some d) (hd : d.isRow = true) (hi : (P.info? ty).map (·.size) = some cs.size) (hc : ∀ j,j < cs.size → old[off + j]? = cs[j]?)
  (h : wpList P ops Q rest (a.put o.dst (.agg cs)) w) : wpList P ops Q (o :: rest) a w :=
 wpList_step fun _ hK => by
  rw [if_pos hgd];unfold Oper.wp execOp;simp only [ho,hx,Instr.loadAt,Instr.sureAddr,Sem.run_bind,Sem.run_pure,Result.andThen_ok,Qea w g off ty t old cs d hg hu hd hi hc];exact hK _ _ h
/-- .. in a region that draws its order -/
theorem QhH {S : World → Prop} (ty : TypeId) (x : Operand) (g off : Nat) (t : TypeId) (old cs : Array Value) (d : TypeDesc) (hgd : Region.wanted o (yielded ops a.tmps) = true) (ho : o.op = .load ty x) (hx : a.eval x = .pointer (some ⟨g,off,none⟩)) (hg : ∀ w,S w → Blk w g t old)
  (hu : P.underlying ty = some d) (hd : d.isRow = true) (hi : (P.info? ty).map (·.size) = some cs.size) (hc : ∀ j,j < cs.size → old[off + j]? = cs[j]?) : YieldsIf P ops S o (.agg cs) a :=
 .inl ⟨hgd,fun w hw' => by
  unfold execOp;simp only [ho,hx,Instr.loadAt,Instr.sureAddr,Sem.run_bind,Sem.run_pure,Result.andThen_ok,Qea w g off ty t old cs d (hg w hw') hu hd hi hc]⟩
/-- a struct is stored into a row: the world Qak it is opaque -/
theorem QdV (ty : TypeId) (x y : Operand) (g off : Nat) (t : TypeId) (old cells new : Array Value) (hgd : Region.wanted o (yielded ops a.tmps) = true) (ho : o.op = .store ty x y) (hd : o.dst = none) (hx : a.eval x = .pointer (some ⟨g,off,none⟩)) (hy : a.eval y = .agg cells)
  (hg : Blk w g t old) (hi : (P.info? ty).map (·.size) = some cells.size) (h1 : cells.all (·.oneCell') = true) (hfit : off + cells.size ≤ old.size) (hnew : Qbz old off cells.toList = new)
  (h : ∀ W,Fr w W (fun i => i = g) → Blk W g t new → wpList P ops Q rest a W) : wpList P ops Q (o :: rest) a w :=
 wpList_step fun _ hK => by
  rw [if_pos hgd];have ht : w.there g off cells.size := fun j hj => ⟨by rw [Qaa hg,Array.getElem?_eq_getElem (by omega)]; rfl,Qac hg _⟩;unfold Oper.wp execOp;simp only [ho,hx,hy,run_storeAt_mid w g off ty cells ht hi h1,Sem.run_bind,Sem.run_pure,Result.andThen_ok];have := hK a _ (h _ (Fr.many cells.toList off w) (by have := Blk.many cells.toList off old w hg; rw [hnew] at this; exact this));simpa only [Oper.upon,hd,Act.put] using this
theorem Qdt (w : World) (g off : Nat) (t ty : TypeId) (old : Array Value) (v : Value) (hg : Blk w g t old) (hi : (P.info? ty).map (·.size) = some 1) (h1 : v.oneCell' = true) (hfit : off < old.size) : (storeVar ty ⟨g,off,none⟩ v).run P w = .ok () (w.setCell ⟨g,off,none⟩ v) := by
 have hc : v.cells = #[v] := by cases v <;> first | rfl | cases h1
 have hst : (storeCells ⟨g,off,none⟩ [v] 0).run P w = .ok () (w.setCells g (off + 0) [v]) := run_storeCells_cells (P := P) g off [v] 0 w (fun j hj => by
  have : j = 0 := by simpa using hj
  subst this;rw [Qaa hg,Array.getElem?_eq_getElem (by omega)]; rfl) (fun j _ => Qac hg _) (fun x hx => by simp at hx; subst hx; exact h1)
 cases hq : P.info? ty with
 | none => simp [hq] at hi
 | some i =>
  have hs : i.size = 1 := by simpa [hq] using hi
  simp [storeVar,sizeOf,typeInfo,hq,hc,hs,hst,World.setCells]
/-- a value of one cell is stored into a row: the world Qak it is opaque -/
theorem QfF (ty : TypeId) (x y : Operand) (g off : Nat) (t : TypeId) (old new : Array Value) (v : Value) (hgd : Region.wanted o (yielded ops a.tmps) = true) (ho : o.op = .store ty x y) (hd : o.dst = none) (hx : a.eval x = .pointer (some ⟨g,off,none⟩)) (hy : a.eval y = v)
  (hg : Blk w g t old) (hi : (P.info? ty).map (·.size) = some 1) (h1 : v.oneCell' = true) (hfit : off < old.size) (hnew : old.setIfInBounds off v = new)
  (h : ∀ W,Fr w W (fun i => i = g) → Blk W g t new → wpList P ops Q rest a W) : wpList P ops Q (o :: rest) a w :=
 wpList_step fun _ hK => by
  rw [if_pos hgd];unfold Oper.wp execOp;simp only [ho,hx,hy,Instr.storeAt,Instr.sureAddr,Sem.run_bind,Sem.run_pure,Result.andThen_ok,Qdt w g off t ty old v hg hi h1 hfit];have := hK a _ (h _ (Fr.set (S := fun i => i = g) rfl) (hg.put' off v hnew));simpa only [Oper.upon,hd,Act.put] using this
end
end Go.Mem
namespace Go
open Go.RowKit Go.Mem
section
variable {P : Program} {ops : Array Oper} {rest : List Oper} {o : Oper} {a : Act} {w : World} {Q : Exit → Act → World → Prop}
theorem Xl (ty : TypeId) {x : Operand} (g off : Nat) (t : TypeId) (old cs : Array Value) {d : TypeDesc} (hg : Blk w g t old) (hu : P.underlying ty = some d) (hi : (P.info? ty).map (·.size) = some cs.size) (hc : ∀ j,j < cs.size → old[off + j]? = cs[j]?) (h : wpList P ops Q rest (a.put o.dst (.agg cs)) w) (hgd : Region.wanted o (yielded ops a.tmps) = true := by rfl) (ho : o.op = .load ty x := by exact rfl) (hx : a.eval x = .pointer (some ⟨g,off,none⟩) := by exact rfl) (hd : d.isRow = true := by exact rfl) : wpList P ops Q (o :: rest) a w :=
 Go.Mem.Qgx ty x g off t old cs d hgd ho hx hg hu hd hi hc h
theorem Xs (ty : TypeId) {x y : Operand} (g off : Nat) (t : TypeId) (old cells new : Array Value) (hg : Blk w g t old) (hi : (P.info? ty).map (·.size) = some cells.size) (h1 : cells.all (·.oneCell') = true) (hnew : Qbz old off cells.toList = new) (h : ∀ W,Fr w W (fun i => i = g) → Blk W g t new → wpList P ops Q rest a W) (hgd : Region.wanted o (yielded ops a.tmps) = true := by rfl) (ho : o.op = .store ty x y := by exact rfl) (hd : o.dst = none := by exact rfl) (hx : a.eval x = .pointer (some ⟨g,off,none⟩) := by exact rfl) (hy : a.eval y = .agg cells := by exact rfl) (hfit : off + cells.size ≤ old.size := by exact of_decide_eq_true rfl) : wpList P ops Q (o :: rest) a w :=
 Go.Mem.QdV ty x y g off t old cells new hgd ho hd hx hy hg hi h1 hfit hnew h
theorem Xc (ty : TypeId) {x y : Operand} (g off : Nat) (t : TypeId) (old new : Array Value) (v : Value) (hg : Blk w g t old) (hi : (P.info? ty).map (·.size) = some 1) (hnew : old.setIfInBounds off v = new) (h : ∀ W,Fr w W (fun i => i = g) → Blk W g t new → wpList P ops Q rest a W) (hgd : Region.wanted o (yielded ops a.tmps) = true := by rfl) (ho : o.op = .store ty x y := by exact rfl) (hd : o.dst = none := by exact rfl) (hx : a.eval x = .pointer (some ⟨g,off,none⟩) := by exact rfl) (hy : a.eval y = v := by exact rfl) (h1 : v.oneCell' = true := by rfl) (hfit : off < old.size := by exact of_decide_eq_true rfl) : wpList P ops Q (o :: rest) a w :=
 Go.Mem.QfF ty x y g off t old new v hgd ho hd hx hy hg hi h1 hfit hnew h
end
end Go

namespace Go.Proofs.YtodcnbejnchmhaaGreatDoor
open Go.RowKit Go.Mem Go.Lin

theorem Qar (l : LineL) : (Qad l).all (·.oneCell') = true := by simp [Qad,Value.oneCell']
theorem Qa7 (l : LineL) : (Tryz.prog.info? 71).map (·.size) = some (Qad l).size := show _ = some 29 by kernel_rfl
/- a line's parts in its cells -/
theorem Qfp (l : LineL) : ∀ j,j < (Qad l).size → (Qad l)[0 + j]? = (Qad l)[j]? := fun j _ => by rw [Nat.zero_add]
theorem Qbo (r : RuleL) : (Qaq r).all (·.oneCell') = true := by simp [Qaq,Value.oneCell']
theorem Qax (e : EraL) : (eraC e).all (·.oneCell') = true := by simp [eraC,Value.oneCell']
theorem Qcg (r : RuleL) : (Tryz.prog.info? 65).map (·.size) = some (Qaq r).size := show _ = some 11 by kernel_rfl
theorem QaK (e : EraL) : (Tryz.prog.info? 69).map (·.size) = some (eraC e).size := show _ = some 13 by kernel_rfl
theorem QaN : (Tryz.prog.info? 9).map (·.size) = some 1 := by kernel_rfl
theorem QaE : (Tryz.prog.info? 3).map (·.size) = some 1 := by kernel_rfl
theorem QjE : ∀ (vs : List Value) (o : Nat) (cs : Array Value),o + vs.length ≤ cs.size → (Qbz cs o vs).toList = cs.toList.take o ++ (vs ++ cs.toList.drop (o + vs.length))
 | [],o,cs,_ => by simp [Qbz]
 | v :: vs,o,cs,h => by
  have h : o + (vs.length + 1) ≤ cs.size := h;rw [Qbz,QjE vs (o + 1) _ (by simp; omega)];simp only [Array.toList_setIfInBounds,List.length_cons];have e1 : (cs.toList.set o v).take (o + 1) = cs.toList.take o ++ [v] := by
   rw [List.take_set,List.take_succ_eq_append_getElem (by simp; omega),List.set_append_right _ _ (by simp; omega)];simp;rw [Nat.min_eq_left (by omega)];simp
  have e2 : (cs.toList.set o v).drop (o + 1 + vs.length) = cs.toList.drop (o + (vs.length + 1)) := by
   rw [List.drop_set_of_lt (by omega)];congr 1;omega
  rw [e1,e2,List.append_assoc];rfl
theorem Qdm {vs : List Value} {o : Nat} {cs new : Array Value} (h : o + vs.length ≤ cs.size) (hn : cs.toList.take o ++ (vs ++ cs.toList.drop (o + vs.length)) = new.toList) : Qbz cs o vs = new :=
 Array.toList_inj.1 ((QjE vs o cs h).trans hn)
theorem Qaw (l m : LineL) : Qbz (Qad l) 0 (Qad m).toList = Qad m := Qdm (Nat.le_refl 29) rfl
theorem QiC (l : LineL) (r : RuleL) : Qbz (Qad l) 1 (Qaq r).toList = Qad { l with rule := r } := Qdm (show 1 + 11 ≤ 29 by decide) rfl
theorem QfQ (l : LineL) (e : EraL) : Qbz (Qad l) 14 (eraC e).toList = Qad { l with era := e } := Qdm (show 14 + 13 ≤ 29 by decide) rfl
/- a rule's,an until's,an era's parts in their cells -/
def dayC (d : DayL) : Array Value := #[intV d.k,intV d.d,intV d.w]
def atC (t : AtL) : Array Value := #[intV t.s,intV t.k]
theorem Qaz (u : UntilL) : (tilC u).all (·.oneCell') = true := by simp [tilC,Value.oneCell']
theorem Qbq (d : DayL) : (dayC d).all (·.oneCell') = true := by simp [dayC,Value.oneCell']
theorem QcH (t : AtL) : (atC t).all (·.oneCell') = true := by simp [atC,Value.oneCell']
theorem QaR (u : UntilL) : (Tryz.prog.info? 67).map (·.size) = some (tilC u).size := show _ = some 8 by kernel_rfl
theorem Qcb (d : DayL) : (Tryz.prog.info? 61).map (·.size) = some (dayC d).size := show _ = some 3 by kernel_rfl
theorem Qeg (t : AtL) : (Tryz.prog.info? 63).map (·.size) = some (atC t).size := show _ = some 2 by kernel_rfl
theorem Qe3 : (Tryz.prog.info? 133).map (·.size) = some 1 := by kernel_rfl
theorem Qaf (cs : Array Value) : ∀ j,j < cs.size → cs[0 + j]? = cs[j]? := fun j _ => by rw [Nat.zero_add]
theorem QaG {cs ds : Array Value} (h : cs.size = ds.size) : Qbz cs 0 ds.toList = ds := Qdm (by simp [h]) (by simp [h])
theorem Qdv (r s : RuleL) : Qbz (Qaq r) 0 (Qaq s).toList = Qaq s := QaG rfl
theorem Qbs (r s : EraL) : Qbz (eraC r) 0 (eraC s).toList = eraC s := QaG rfl
theorem QbX (r s : UntilL) : Qbz (tilC r) 0 (tilC s).toList = tilC s := QaG rfl
theorem put_r0 (r : RuleL) (v : Bs) : (Qaq r).setIfInBounds 0 (strV v) = Qaq { r with name := v } := rfl
theorem put_r1 (r : RuleL) (v : Int) : (Qaq r).setIfInBounds 1 (intV v) = Qaq { r with fr := v } := rfl
theorem Qpl (r : RuleL) (v : Int) : (Qaq r).setIfInBounds 2 (intV v) = Qaq ⟨r.name,r.fr,v,r.month,r.on,r.at_,r.save,r.letter⟩ := rfl
theorem Qpk (r : RuleL) (v : Int) : (Qaq r).setIfInBounds 3 (intV v) = Qaq { r with month := v } := rfl
theorem put_r4 (r : RuleL) (v : DayL) : Qbz (Qaq r) 4 (dayC v).toList = Qaq { r with on := v } := Qdm (show 4 + 3 ≤ 11 by decide) rfl
theorem Qpj (r : RuleL) (v : AtL) : Qbz (Qaq r) 7 (atC v).toList = Qaq { r with at_ := v } := Qdm (show 7 + 2 ≤ 11 by decide) rfl
theorem Qpi (r : RuleL) (v : Int) : (Qaq r).setIfInBounds 9 (intV v) = Qaq { r with save := v } := rfl
theorem QkS (r : RuleL) (v : Bs) : (Qaq r).setIfInBounds 10 (strV v) = Qaq { r with letter := v } := rfl
theorem Qpn (e : EraL) (v : Int) : (eraC e).setIfInBounds 0 (intV v) = eraC { e with off := v } := rfl
theorem Qdw (e : EraL) (v : Bs) : (eraC e).setIfInBounds 4 (strV v) = eraC { e with format := v } := rfl
theorem Qg1 (e : EraL) (v : UntilL) : Qbz (eraC e) 5 (tilC v).toList = eraC { e with til := v } := Qdm (show 5 + 8 ≤ 13 by decide) rfl
theorem Qjy (u : UntilL) (v : Int) : (tilC u).setIfInBounds 1 (intV v) = tilC { u with year := v } := rfl
theorem Qg0 (u : UntilL) (v : Int) : (tilC u).setIfInBounds 2 (intV v) = tilC { u with month := v } := rfl
theorem Ql9 (u : UntilL) (v : DayL) : Qbz (tilC u) 3 (dayC v).toList = tilC { u with on := v } := Qdm (show 3 + 3 ≤ 8 by decide) rfl
theorem Qph (u : UntilL) (v : AtL) : Qbz (tilC u) 6 (atC v).toList = tilC { u with at_ := v } := Qdm (show 6 + 2 ≤ 8 by decide) rfl
theorem QhZ (l : LineL) (v : Bs) : (Qad l).setIfInBounds 12 (strV v) = Qad { l with name := v } := rfl
theorem Qma (l : LineL) (v : Bs) : (Qad l).setIfInBounds 13 (strV v) = Qad { l with target := v } := rfl
end Go.Proofs.YtodcnbejnchmhaaGreatDoor
namespace Go.Mem
/- rows of structs -/
theorem QeC {X : Type} (f : X → List Value) (k : Nat) (hf : ∀ x,(f x).length = k) : ∀ {l : List X} {i : Nat} {x : X},l[i]? = some x → ∀ j,j < k → (l.flatMap f)[i * k + j]? = (f x)[j]?
 | [],i,x,h,_,_ => by simp at h
 | y :: l,0,x,h,j,hj => by
  have h : y = x := by simpa using h
  subst h;rw [List.flatMap_cons,Nat.zero_mul,Nat.zero_add,List.getElem?_append_left (by rw [hf]; exact hj)]
 | y :: l,i + 1,x,h,j,hj => by
  have ih := QeC f k hf (l := l) (i := i) (x := x) (by simpa using h) j hj;rw [List.flatMap_cons,show (i + 1) * k + j = (f y).length + (i * k + j) by rw [hf,Nat.add_mul]; omega,List.getElem?_append_right (by omega),Nat.add_sub_cancel_left];exact ih
theorem Qbk {X : Type} (f : X → List Value) (k : Nat) (hf : ∀ x,(f x).length = k) : ∀ l : List X,(l.flatMap f).length = l.length * k
 | [] => by simp
 | y :: l => by rw [List.flatMap_cons,List.length_append,Qbk f k hf l,hf,List.length_cons,Nat.add_mul]; omega
/-- an element of a slice of structs -/
theorem QoU {X : Type} {f : X → List Value} {k : Nat} (hf : ∀ x,(f x).length = k) {w : World} {A : Option Addr} {l : List X} (h : Rd w k A l.length (l.flatMap f)) {i : Nat} {x : X} (hx : l[i]? = some x) :
  ∃ b off,A = some ⟨b,off,none⟩ ∧ ∀ j,j < k → w.cell? ⟨b,off + i * k + j,none⟩ = (f x)[j]? := by
 have hi := (List.getElem?_eq_some_iff.1 hx).1;obtain ⟨b,off,e,hc⟩ := h.2 (by omega);refine ⟨b,off,e,fun j hj => ?_⟩;have hg := QeC f k hf hx j hj;have hj' : j < (f x).length := by rw [hf]; exact hj
 rw [List.getElem?_eq_getElem hj'] at hg ⊢;have := hc _ _ hg;rw [← Nat.add_assoc] at this;exact this
section
variable {P : Program} {ops : Array Oper} {rest : List Oper} {o : Oper} {a : Act} {w : World} {Q : Exit → Act → World → Prop}
theorem QeO (w : World) (g off : Nat) (ty : TypeId) (cs : Array Value) (d : TypeDesc) (hc : ∀ j,j < cs.size → w.cell? ⟨g,off + j,none⟩ = cs[j]?) (hu : P.underlying ty = some d) (hd : d.isRow = true) (hi : (P.info? ty).map (·.size) = some cs.size) :
  (loadVar ty ⟨g,off,none⟩).run P w = .ok (.agg cs) w := by
 have := run_loadVar_mid (P := P) w g off ty cs.toList d (fun j v hv => by
  have hj : j < cs.size := by have := (List.getElem?_eq_some_iff.1 hv).1; simpa using this
  rw [hc j hj];simpa using hv) hu hd (by rw [hi]; simp)
 simpa using this
/-- a struct is loaded out of a slice -/
theorem QeN (ty : TypeId) (x : Operand) (g off : Nat) (cs : Array Value) (d : TypeDesc) (hgd : Region.wanted o (yielded ops a.tmps) = true) (ho : o.op = .load ty x) (hx : a.eval x = .pointer (some ⟨g,off,none⟩)) (hc : ∀ j,j < cs.size → w.cell? ⟨g,off + j,none⟩ = cs[j]?)
  (hu : P.underlying ty = some d) (hd : d.isRow = true) (hi : (P.info? ty).map (·.size) = some cs.size)
  (h : wpList P ops Q rest (a.put o.dst (.agg cs)) w) : wpList P ops Q (o :: rest) a w :=
 wpList_step fun _ hK => by
  rw [if_pos hgd];unfold Oper.wp execOp;simp only [ho,hx,Instr.loadAt,Instr.sureAddr,Sem.run_bind,Sem.run_pure,Result.andThen_ok,QeO w g off ty cs d hc hu hd hi];exact hK _ _ h
theorem Qi2 {S : World → Prop} (ty : TypeId) (x : Operand) (g off : Nat) (cs : Array Value) (d : TypeDesc) (hgd : Region.wanted o (yielded ops a.tmps) = true) (ho : o.op = .load ty x) (hx : a.eval x = .pointer (some ⟨g,off,none⟩)) (hc : ∀ w,S w → ∀ j,j < cs.size → w.cell? ⟨g,off + j,none⟩ = cs[j]?)
  (hu : P.underlying ty = some d) (hd : d.isRow = true) (hi : (P.info? ty).map (·.size) = some cs.size) : YieldsIf P ops S o (.agg cs) a :=
 .inl ⟨hgd,fun w hw' => by
  unfold execOp;simp only [ho,hx,Instr.loadAt,Instr.sureAddr,Sem.run_bind,Sem.run_pure,Result.andThen_ok,QeO w g off ty cs d (hc w hw') hu hd hi]⟩
end
theorem blkc {w : World} {g : Nat} {t : TypeId} {cs : Array Value} (h : Blk w g t cs) (i : Nat) (v : Value) (hv : cs[i]? = some v) : w.cell? ⟨g,i,none⟩ = some v := (Qaa h i).trans hv
theorem Qdk {w W : World} {S : Nat → Prop} (hf : Fr w W S) {b i : Nat} {v : Value} (h : w.cell? ⟨b,i,none⟩ = some v) (hs : ¬ S b) : W.cell? ⟨b,i,none⟩ = some v := by
 rw [World.cell?_of_block (w := w) (hf.block b (World.block_lt_of_cell? w _ h) hs)];exact h
theorem Qhs {w W : World} {S : Nat → Prop} (hf : Fr w W S) {b : Nat} {off k : Nat} {cs : Array Value} (h : ∀ j,j < k → w.cell? ⟨b,off + j,none⟩ = cs[j]?) (hk : k ≤ cs.size) (hs : ¬ S b) : ∀ j,j < k → W.cell? ⟨b,off + j,none⟩ = cs[j]? := by
 intro j hj;have := h j hj;rw [Array.getElem?_eq_getElem (by omega)] at this ⊢;exact Qdk hf this hs
end Go.Mem
namespace Go.Proofs.YtodcnbejnchmhaaGreatDoor
open Go.RowKit Go.Mem Go.Lin Go.Dcm

/- a document's parts in their cells -/
def Qa1 (x : LineL) : List Value := (Qad x).toList
def Qng (r : RuleL × Int) : List Value := (Qaq r.1).toList ++ [intV r.2]
def QnE (x : LinkL) : List Value := [strV x.target,strV x.name,intV x.line]
def QnZ (x : DiagL) : List Value := [strV [],intV x.line,intV x.col,intV x.k]
def eraL (e : EraL) : List Value := (eraC e).toList
def intL (n : Int) : List Value := [intV n]
/-- a zone,its eras and its lines -/
abbrev ZV := ZoneL × Value × Value
def Qfb (z : ZV) : List Value := [strV z.1.name,z.2.1,z.2.2]
theorem Qbh (x : LineL) : (Qa1 x).length = 29 := rfl
theorem Qgw (x : ZV) : (Qfb x).length = 3 := rfl
/-- v owns a row of structs -/
def Own {X : Type} (w : World) (base : Nat) (e : TypeId) (k : Nat) (f : X → List Value) (v : Value) (l : List X) : Prop := w.ownsRow base e k v l.length (l.flatMap f)
theorem Own.fr {X : Type} {w w' : World} {S : Nat → Prop} {base : Nat} {e : TypeId} {k : Nat} {f : X → List Value} {v : Value} {l : List X} (h : Own w base e k f v l) (hf : Fr w w' S) (hg : ∀ g,v.ownBlock = some g → ¬ S g) : Own w' base e k f v l := hf.own h hg
theorem Own.kept {X : Type} {w w' : World} {base : Nat} {e : TypeId} {k : Nat} {f : X → List Value} {v : Value} {l : List X} (h : Own w base e k f v l) (hf : Fr w w' (fun _ => False)) : Own w' base e k f v l := hf.own h (fun _ _ h => h)
theorem Own.slice {X : Type} {w : World} {base : Nat} {e : TypeId} {k : Nat} {f : X → List Value} {v : Value} {l : List X} (h : Own w base e k f v l) : ∃ A c,v = .slice A l.length c := Qcf h
theorem Own.rd {X : Type} {w : World} {base : Nat} {e : TypeId} {k : Nat} {f : X → List Value} {v : Value} {l : List X} (h : Own w base e k f v l) : ∃ A c,v = .slice A l.length c ∧ l.length ≤ c ∧ c ≤ maxLen ∧ Rd w k A l.length (l.flatMap f) := by
 obtain ⟨A,c,h1,h2,h3,h4,-⟩ := Qed h;exact ⟨A,c,h1,h2,h3,h4⟩
/-- the rows of a zone -/
structure ZAt (w : World) (base : Nat) (z : ZV) : Prop where
 e : Own w base 69 13 eraL z.2.1 z.1.eras
 l : Own w base 3 1 intL z.2.2 z.1.lines
theorem ZAt.kept {w w' : World} {base : Nat} {z : ZV} (h : ZAt w base z) (hf : Fr w w' (fun _ => False)) : ZAt w' base z := ⟨h.e.kept hf,h.l.kept hf⟩
/-- four slices that hold a document (its types of a rule,a zone,a link) -/
structure DocAt (tr tz tl : TypeId) (w : World) (base : Nat) (vr vz vl vd : Value) (d : DocL) : Prop where
 r : Own w base tr 12 Qng vr d.rules
 z : ∃ zv : List ZV,zv.map (·.1) = d.zones ∧ Own w base tz 3 Qfb vz zv ∧ ∀ x ∈ zv,ZAt w base x
 l : Own w base tl 3 QnE vl d.links
 g : Own w base 125 4 QnZ vd d.diags
theorem DocAt.kept {tr tz tl : TypeId} {w w' : World} {base : Nat} {vr vz vl vd : Value} {d : DocL} (h : DocAt tr tz tl w base vr vz vl vd d) (hf : Fr w w' (fun _ => False)) : DocAt tr tz tl w' base vr vz vl vd d := by
 obtain ⟨zv,h1,h2,h3⟩ := h.z;exact ⟨h.r.kept hf,⟨zv,h1,h2.kept hf,fun x hx => (h3 x hx).kept hf⟩,h.l.kept hf,h.g.kept hf⟩
end Go.Proofs.YtodcnbejnchmhaaGreatDoor
namespace Go.Proofs.YtodcnbejnchmhaaGreatDoor
open Go.RowKit Go.Mem Go.Lin Go.Dcm

theorem Qmf {cs : Array Value} (h : cs.all (·.oneCell') = true) : ∀ u ∈ cs.toList,u.oneCell' = true := by
 intro u hu;have := (Array.all_eq_true' ).1 h u (by simpa using hu);exact this
/-- a row with one element more -/
theorem own_more {X : Type} {w : World} {base : Nat} {e : TypeId} {k : Nat} {f : X → List Value} {v : Value} {l : List X} {x : X} {cs : List Value} (h : w.ownsRow base e k v (l.length + 1) (l.flatMap f ++ cs)) (hc : cs = f x) : Own w base e k f v (l ++ [x]) := by
 subst hc;show w.ownsRow base e k v (l ++ [x]).length ((l ++ [x]).flatMap f);simpa using h
theorem own_none {X : Type} (w : World) (base : Nat) (e : TypeId) (k : Nat) (f : X → List Value) : Own w base e k f (.slice none 0 0) ([] : List X) := World.ownsRow_nil _ _ _ _
theorem Qmd {X : Type} {w : World} {a b : Nat} {e : TypeId} {k : Nat} {f : X → List Value} {v : Value} {l : List X} (h : Own w b e k f v l) (hb : a ≤ b) : Own w a e k f v l := by
 refine ⟨h.1,?_⟩;rcases h.2 with h2 | ⟨g,cap,cur,hv,hg,r⟩
 ·exact .inl h2
 ·exact .inr ⟨g,cap,cur,hv,by omega,r⟩
theorem Qdx {X : Type} {w : World} {b : Nat} {e : TypeId} {k : Nat} {f : X → List Value} {v : Value} {l : List X} (h : Own w b e k f v l) {g : Nat} (hg : v.ownBlock = some g) : b ≤ g ∧ g < w.heap.size ∧ ∃ cs,Blk w g e cs := by
 obtain ⟨h1,h2⟩ := h.lt g hg;refine ⟨h1,h2,?_⟩;rcases h.2 with ⟨rfl,_⟩ | ⟨g',cap,cur,rfl,_,hh,_⟩
 ·simp [Value.ownBlock] at hg
 ·have : g' = g := by simpa [Value.ownBlock] using hg
  subst this;exact ⟨cur,hh⟩
theorem QcA {w : World} {g : Nat} {t t' : TypeId} {cs cs' : Array Value} (h : Blk w g t cs) (h' : Blk w g t' cs') : t = t' := by
 unfold Blk at h h';rw [h] at h';injection h' with h';injection h' with _ ht
/- zones -/
def Under (M : Nat) (x : ZV) : Prop := (∀ k,x.2.1.ownBlock = some k → k < M) ∧ ∀ k,x.2.2.ownBlock = some k → k < M
/-- v owns a row of zones,the last one's rows Qak all others' -/
def ZsAt (w : World) (base : Nat) (v : Value) (zs : List ZoneL) : Prop := ∃ (zv : List ZV) (M : Nat),zv.map (·.1) = zs ∧ Own w base 101 3 Qfb v zv ∧ (∀ x ∈ zv,ZAt w base x) ∧ base ≤ M ∧ M ≤ w.heap.size ∧
 ∀ a x,zv = a ++ [x] → ZAt w M x ∧ ∀ y ∈ a,Under M y
/-- the gatherer at g holds the state s; i: the line that is gathered -/
structure GAt (w : World) (g B : Nat) (i : Int) (s : StL) : Prop where
 lt : g < B
 ex : ∃ vr vz vl vd,Blk w g 128 #[vr,vz,vl,vd,intV i,.bool s.opn] ∧ Own w B 100 12 Qng vr s.rules ∧ ZsAt w B vz s.zones ∧ Own w B 102 3 QnE vl s.links ∧ Own w B 125 4 QnZ vd s.diags
theorem ZAt.fr {w w' : World} {S : Nat → Prop} {base : Nat} {z : ZV} (h : ZAt w base z) (hf : Fr w w' S) (h1 : ∀ k cs,base ≤ k → Blk w k 69 cs → ¬ S k) (h2 : ∀ k cs,base ≤ k → Blk w k 3 cs → ¬ S k) : ZAt w' base z := by
 refine ⟨h.e.fr hf fun g hg => ?_,h.l.fr hf fun g hg => ?_⟩
 ·obtain ⟨hb,-,cs,hk⟩ := Qdx h.e hg;exact h1 g cs hb hk
 ·obtain ⟨hb,-,cs,hk⟩ := Qdx h.l hg;exact h2 g cs hb hk
theorem ZsAt.fr {w w' : World} {S : Nat → Prop} {base : Nat} {v : Value} {zs : List ZoneL} (h : ZsAt w base v zs) (hf : Fr w w' S) (h0 : ∀ k cs,base ≤ k → Blk w k 101 cs → ¬ S k) (h1 : ∀ k cs,base ≤ k → Blk w k 69 cs → ¬ S k) (h2 : ∀ k cs,base ≤ k → Blk w k 3 cs → ¬ S k) : ZsAt w' base v zs := by
 obtain ⟨zv,M,e,ho,hz,hb,hM,hl⟩ := h;refine ⟨zv,M,e,ho.fr hf fun g hg => ?_,fun x hx => (hz x hx).fr hf h1 h2,hb,Nat.le_trans hM hf.size,fun a x ex => ?_⟩
 ·obtain ⟨hb,-,cs,hk⟩ := Qdx ho hg;exact h0 g cs hb hk
 ·obtain ⟨k1,k2⟩ := hl a x ex;exact ⟨k1.fr hf (fun k cs hk => h1 k cs (by omega)) (fun k cs hk => h2 k cs (by omega)),k2⟩
/-- a row stays where only blocks of another type,or blocks below,turn -/
theorem QkY {X : Type} {w w' : World} {S : Nat → Prop} {base : Nat} {e : TypeId} {k : Nat} {f : X → List Value} {v : Value} {l : List X} (h : Own w base e k f v l) (hf : Fr w w' S) (hs : ∀ i cs,base ≤ i → Blk w i e cs → ¬ S i) : Own w' base e k f v l :=
 h.fr hf fun g hg => by
  obtain ⟨hb,-,cs,hk⟩ := Qdx h hg;exact hs g cs hb hk
end Go.Proofs.YtodcnbejnchmhaaGreatDoor
