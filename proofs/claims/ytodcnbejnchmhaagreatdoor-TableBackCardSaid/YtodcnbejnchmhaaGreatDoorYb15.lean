import Derived.Test.YtodcnbejnchmhaaGreatDoorProg
import Derived.Test.YtodcnbejnchmhaaGreatDoorYb10
import Derived.Test.YtodcnbejnchmhaaGreatDoorYb07
import Derived.BigQuiet
import Derived.Tactics2
import Derived.Laws.StructEq
import Derived.ChangeArms
import Derived.WideShapes
import Derived.Lib.SmallJoins
import Derived.Test.YtodcnbejnchmhaaGreatDoorYb04
import Derived.Test.YtodcnbejnchmhaaGreatDoorYb11
import Derived.Deep.QuietTactic
import Derived.Deep.DeepCutAuto
import Derived.WalkLawsBesides
import Derived.IntWalk
import Derived.Lib.Hide
import Derived.Lib.IndexAny
import Derived.Deep.LoopGhost
import Derived.Lib.ConvBytes
import Derived.Laws.IdiomCopy
namespace Go.Proofs.YtodcnbejnchmhaaGreatDoor
open Go.RowKit Go.Mem Go.Lin

abbrev strV (l : Bs) : Value := .string ⟨l.toArray⟩
abbrev intV (n : Int) : Value := .int .i64 n
abbrev dayV (d : DayL) : Value := .agg #[intV d.k, intV d.d, intV d.w]
abbrev atV (t : AtL) : Value := .agg #[intV t.s, intV t.k]
def ruleC (r : RuleL) : Array Value := #[strV r.name, intV r.fr, intV r.to, intV r.month, intV r.on.k, intV r.on.d, intV r.on.w, intV r.at_.s, intV r.at_.k, intV r.save, strV r.letter]
abbrev ruleV (r : RuleL) : Value := .agg (ruleC r)
def tilC (u : UntilL) : Array Value := #[.bool u.has, intV u.year, intV u.month, intV u.on.k, intV u.on.d, intV u.on.w, intV u.at_.s, intV u.at_.k]
abbrev tilV (u : UntilL) : Value := .agg (tilC u)
def eraC (e : EraL) : Array Value := #[intV e.off, intV e.kind, intV e.save, strV e.rules, strV e.format, .bool e.til.has, intV e.til.year, intV e.til.month, intV e.til.on.k, intV e.til.on.d, intV e.til.on.w, intV e.til.at_.s, intV e.til.at_.k]
abbrev eraV (e : EraL) : Value := .agg (eraC e)
def lineC (l : LineL) : Array Value := #[intV l.kind, strV l.rule.name, intV l.rule.fr, intV l.rule.to, intV l.rule.month, intV l.rule.on.k, intV l.rule.on.d, intV l.rule.on.w, intV l.rule.at_.s, intV l.rule.at_.k, intV l.rule.save, strV l.rule.letter,
  strV l.name, strV l.target, intV l.era.off, intV l.era.kind, intV l.era.save, strV l.era.rules, strV l.era.format, .bool l.era.til.has, intV l.era.til.year, intV l.era.til.month, intV l.era.til.on.k, intV l.era.til.on.d, intV l.era.til.on.w,
  intV l.era.til.at_.s, intV l.era.til.at_.k, intV l.err, intV l.col]
abbrev lineV (l : LineL) : Value := .agg (lineC l)

theorem eqF_cons {P : Program} {d : Nat} {xs ys : Array Value} {f : Field} {fs : List Field} {w : World} {x y : Value} {b c : Bool} (hn : (f.name ≠ "_")) (hx : (part f.type xs f.offset).run P w = .ok x w) (hy : (part f.type ys f.offset).run P w = .ok y w)
    (he : (Op.equalIn d f.type x y).run P w = .ok b w) (hr : (Op.eqFields d xs ys fs).run P w = .ok c w) : (Op.eqFields d xs ys (f :: fs)).run P w = .ok (b && c) w := by
  rw [Op.eqFields, if_pos hn]
  simp only [Sem.run_bind, hx, hy, he, Result.andThen_ok]
  cases b with
  | true => simpa using hr
  | false => simp
theorem eqF_nil {P : Program} {d : Nat} {xs ys : Array Value} {w : World} : (Op.eqFields d xs ys []).run P w = .ok true w := rfl
theorem eqI (d : Nat) (a b : Int) (w : World) : (Op.equalIn (d + 1) 3 (intV a) (intV b)).run Tryz.prog w = .ok (decide (a = b)) w := run_equalIn_int w d 3 .i64 .i64 a b Tryz.underlying3
theorem eqK (d : Nat) (a b : Int) (w : World) : (Op.equalIn (d + 1) 26 (intV a) (intV b)).run Tryz.prog w = .ok (decide (a = b)) w := run_equalIn_int w d 26 .i64 .i64 a b Tryz.underlying26
theorem eqB (d : Nat) (a b : Bool) (w : World) : (Op.equalIn (d + 1) 4 (.bool a) (.bool b)).run Tryz.prog w = .ok (decide (a = b)) w := by
  rw [run_equalIn_bool' w d 4 a b Tryz.underlying4]
  cases a <;> cases b <;> rfl
theorem eqS (d : Nat) (a b : Bs) (w : World) : (Op.equalIn (d + 1) 9 (strV a) (strV b)).run Tryz.prog w = .ok (decide (a = b)) w := by
  rw [run_equalIn_string w d 9 _ _ Tryz.underlying9, ByteArray.toList_eq, ByteArray.toList_eq]
  congr 1
  show (a.toArray.toList == b.toArray.toList) = _
  by_cases h : a = b <;> simp [h]
theorem eq_day (d : Nat) (a b : DayL) (w : World) : (Op.equalIn (d + 2) 61 (dayV a) (dayV b)).run Tryz.prog w = .ok (decide (a = b)) w := by
  have hS : Tryz.prog.underlying 61 = some (.struct (Tryz.prog.fieldsOf 61)) := by kernel_rfl
  have hp : Tryz.prog.stoodInHeld 61 = false := by kernel_rfl
  rw [run_equalIn_agg w (d + 1) 61 _ _ hS hp]
  simp only [Program.fieldsOf, Tryz.underlying61]
  refine Eq.trans (eqF_cons (x := intV a.k) (y := intV b.k) (by decide) (by kernel_rfl) (by kernel_rfl) (eqI d a.k b.k w) (eqF_cons (x := intV a.d) (y := intV b.d) (by decide) (by kernel_rfl) (by kernel_rfl) (eqI d a.d b.d w) (eqF_cons (x := intV a.w) (y := intV b.w) (by decide) (by kernel_rfl) (by kernel_rfl) (eqI d a.w b.w w) eqF_nil))) ?_
  rcases a with ⟨a0, a1, a2⟩
  rcases b with ⟨b0, b1, b2⟩
  simp [DayL.mk.injEq]
theorem eq_at (d : Nat) (a b : AtL) (w : World) : (Op.equalIn (d + 2) 63 (atV a) (atV b)).run Tryz.prog w = .ok (decide (a = b)) w := by
  have hS : Tryz.prog.underlying 63 = some (.struct (Tryz.prog.fieldsOf 63)) := by kernel_rfl
  have hp : Tryz.prog.stoodInHeld 63 = false := by kernel_rfl
  rw [run_equalIn_agg w (d + 1) 63 _ _ hS hp]
  simp only [Program.fieldsOf, Tryz.underlying63]
  refine Eq.trans (eqF_cons (x := intV a.s) (y := intV b.s) (by decide) (by kernel_rfl) (by kernel_rfl) (eqI d a.s b.s w) (eqF_cons (x := intV a.k) (y := intV b.k) (by decide) (by kernel_rfl) (by kernel_rfl) (eqI d a.k b.k w) eqF_nil)) ?_
  rcases a with ⟨a0, a1⟩
  rcases b with ⟨b0, b1⟩
  simp [AtL.mk.injEq]
theorem eq_rule (d : Nat) (a b : RuleL) (w : World) : (Op.equalIn (d + 3) 65 (ruleV a) (ruleV b)).run Tryz.prog w = .ok (decide (a = b)) w := by
  have hS : Tryz.prog.underlying 65 = some (.struct (Tryz.prog.fieldsOf 65)) := by kernel_rfl
  have hp : Tryz.prog.stoodInHeld 65 = false := by kernel_rfl
  rw [run_equalIn_agg w (d + 2) 65 _ _ hS hp]
  simp only [Program.fieldsOf, Tryz.underlying65]
  refine Eq.trans (eqF_cons (x := strV a.name) (y := strV b.name) (by decide) (by kernel_rfl) (by kernel_rfl) (eqS (d + 1) a.name b.name w) (eqF_cons (x := intV a.fr) (y := intV b.fr) (by decide) (by kernel_rfl) (by kernel_rfl) (eqI (d + 1) a.fr b.fr w) (eqF_cons (x := intV a.to) (y := intV b.to) (by decide) (by kernel_rfl) (by kernel_rfl) (eqI (d + 1) a.to b.to w) (eqF_cons (x := intV a.month) (y := intV b.month) (by decide) (by kernel_rfl) (by kernel_rfl) (eqI (d + 1) a.month b.month w) (eqF_cons (x := dayV a.on) (y := dayV b.on) (by decide) (by kernel_rfl) (by kernel_rfl) (eq_day d a.on b.on w) (eqF_cons (x := atV a.at_) (y := atV b.at_) (by decide) (by kernel_rfl) (by kernel_rfl) (eq_at d a.at_ b.at_ w) (eqF_cons (x := intV a.save) (y := intV b.save) (by decide) (by kernel_rfl) (by kernel_rfl) (eqI (d + 1) a.save b.save w) (eqF_cons (x := strV a.letter) (y := strV b.letter) (by decide) (by kernel_rfl) (by kernel_rfl) (eqS (d + 1) a.letter b.letter w) eqF_nil)))))))) ?_
  rcases a with ⟨a0, a1, a2, a3, a4, a5, a6, a7⟩
  rcases b with ⟨b0, b1, b2, b3, b4, b5, b6, b7⟩
  simp [RuleL.mk.injEq]
theorem eq_til (d : Nat) (a b : UntilL) (w : World) : (Op.equalIn (d + 3) 67 (tilV a) (tilV b)).run Tryz.prog w = .ok (decide (a = b)) w := by
  have hS : Tryz.prog.underlying 67 = some (.struct (Tryz.prog.fieldsOf 67)) := by kernel_rfl
  have hp : Tryz.prog.stoodInHeld 67 = false := by kernel_rfl
  rw [run_equalIn_agg w (d + 2) 67 _ _ hS hp]
  simp only [Program.fieldsOf, Tryz.underlying67]
  refine Eq.trans (eqF_cons (x := .bool a.has) (y := .bool b.has) (by decide) (by kernel_rfl) (by kernel_rfl) (eqB (d + 1) a.has b.has w) (eqF_cons (x := intV a.year) (y := intV b.year) (by decide) (by kernel_rfl) (by kernel_rfl) (eqI (d + 1) a.year b.year w) (eqF_cons (x := intV a.month) (y := intV b.month) (by decide) (by kernel_rfl) (by kernel_rfl) (eqI (d + 1) a.month b.month w) (eqF_cons (x := dayV a.on) (y := dayV b.on) (by decide) (by kernel_rfl) (by kernel_rfl) (eq_day d a.on b.on w) (eqF_cons (x := atV a.at_) (y := atV b.at_) (by decide) (by kernel_rfl) (by kernel_rfl) (eq_at d a.at_ b.at_ w) eqF_nil))))) ?_
  rcases a with ⟨a0, a1, a2, a3, a4⟩
  rcases b with ⟨b0, b1, b2, b3, b4⟩
  simp [UntilL.mk.injEq]
theorem eq_era (d : Nat) (a b : EraL) (w : World) : (Op.equalIn (d + 4) 69 (eraV a) (eraV b)).run Tryz.prog w = .ok (decide (a = b)) w := by
  have hS : Tryz.prog.underlying 69 = some (.struct (Tryz.prog.fieldsOf 69)) := by kernel_rfl
  have hp : Tryz.prog.stoodInHeld 69 = false := by kernel_rfl
  rw [run_equalIn_agg w (d + 3) 69 _ _ hS hp]
  simp only [Program.fieldsOf, Tryz.underlying69]
  refine Eq.trans (eqF_cons (x := intV a.off) (y := intV b.off) (by decide) (by kernel_rfl) (by kernel_rfl) (eqI (d + 2) a.off b.off w) (eqF_cons (x := intV a.kind) (y := intV b.kind) (by decide) (by kernel_rfl) (by kernel_rfl) (eqI (d + 2) a.kind b.kind w) (eqF_cons (x := intV a.save) (y := intV b.save) (by decide) (by kernel_rfl) (by kernel_rfl) (eqI (d + 2) a.save b.save w) (eqF_cons (x := strV a.rules) (y := strV b.rules) (by decide) (by kernel_rfl) (by kernel_rfl) (eqS (d + 2) a.rules b.rules w) (eqF_cons (x := strV a.format) (y := strV b.format) (by decide) (by kernel_rfl) (by kernel_rfl) (eqS (d + 2) a.format b.format w) (eqF_cons (x := tilV a.til) (y := tilV b.til) (by decide) (by kernel_rfl) (by kernel_rfl) (eq_til d a.til b.til w) eqF_nil)))))) ?_
  rcases a with ⟨a0, a1, a2, a3, a4, a5⟩
  rcases b with ⟨b0, b1, b2, b3, b4, b5⟩
  simp [EraL.mk.injEq]
theorem eq_line (d : Nat) (a b : LineL) (w : World) : (Op.equalIn (d + 5) 71 (lineV a) (lineV b)).run Tryz.prog w = .ok (decide (a = b)) w := by
  have hS : Tryz.prog.underlying 71 = some (.struct (Tryz.prog.fieldsOf 71)) := by kernel_rfl
  have hp : Tryz.prog.stoodInHeld 71 = false := by kernel_rfl
  rw [run_equalIn_agg w (d + 4) 71 _ _ hS hp]
  simp only [Program.fieldsOf, Tryz.underlying71]
  refine Eq.trans (eqF_cons (x := intV a.kind) (y := intV b.kind) (by decide) (by kernel_rfl) (by kernel_rfl) (eqI (d + 3) a.kind b.kind w) (eqF_cons (x := ruleV a.rule) (y := ruleV b.rule) (by decide) (by kernel_rfl) (by kernel_rfl) (eq_rule (d + 1) a.rule b.rule w) (eqF_cons (x := strV a.name) (y := strV b.name) (by decide) (by kernel_rfl) (by kernel_rfl) (eqS (d + 3) a.name b.name w) (eqF_cons (x := strV a.target) (y := strV b.target) (by decide) (by kernel_rfl) (by kernel_rfl) (eqS (d + 3) a.target b.target w) (eqF_cons (x := eraV a.era) (y := eraV b.era) (by decide) (by kernel_rfl) (by kernel_rfl) (eq_era d a.era b.era w) (eqF_cons (x := intV a.err) (y := intV b.err) (by decide) (by kernel_rfl) (by kernel_rfl) (eqK (d + 3) a.err b.err w) (eqF_cons (x := intV a.col) (y := intV b.col) (by decide) (by kernel_rfl) (by kernel_rfl) (eqI (d + 3) a.col b.col w) eqF_nil))))))) ?_
  rcases a with ⟨a0, a1, a2, a3, a4, a5, a6⟩
  rcases b with ⟨b0, b1, b2, b3, b4, b5, b6⟩
  simp [LineL.mk.injEq]
theorem neq_era (a b : EraL) (w : World) : (binOp .neq 69 (eraV a) (eraV b)).run Tryz.prog w = .ok (.bool (!decide (a = b))) w := by
  rw [run_neq_struct, show (10000 : Nat) = 9996 + 4 from rfl, eq_era 9996 a b w]
  rfl
theorem neq_line (a b : LineL) (w : World) : (binOp .neq 71 (lineV a) (lineV b)).run Tryz.prog w = .ok (.bool (!decide (a = b))) w := by
  rw [run_neq_struct, show (10000 : Nat) = 9995 + 5 from rfl, eq_line 9995 a b w]
  rfl
end Go.Proofs.YtodcnbejnchmhaaGreatDoor
namespace Go.Proofs.YtodcnbejnchmhaaGreatDoor
open Go.RowKit Go.Mem Go.Lin Go.WideShapes

theorem cells_int : Tryz.prog.cellsOf 3 = 1 := by kernel_rfl
theorem cells_str : Tryz.prog.cellsOf 9 = 1 := by kernel_rfl
section
variable {H : Type} {enc : TypeId × Value → H} {w : World} {base : Nat} {spare : Nat → Bool} {held : Bool}
def inR (n : Int) : Prop := -9223372036854775808 ≤ n ∧ n ≤ 9223372036854775807
theorem leaf_int {n : Nat} {c : Value} {y : DataW H × List MemPlace} (h : DataW.trod enc Tryz.prog w base spare held n 3 [c] = some y) : ∃ a, c = intV a ∧ inR a := by
  obtain ⟨a, e, -, hw⟩ := DataW.trod_int Tryz.underlying3 h
  simp at e
  exact ⟨a, e, by unfold inR; simpa [Lit.wf, IntKind.min, IntKind.max, IntKind.signed, IntKind.bits] using hw⟩
theorem leaf_str {n : Nat} {c : Value} {y : DataW H × List MemPlace} (h : DataW.trod enc Tryz.prog w base spare held n 9 [c] = some y) : ∃ a : Bs, c = strV a ∧ a.length ≤ maxLen := by
  obtain ⟨s, e, -, hz⟩ := DataW.trod_string Tryz.underlying9 h
  simp at e
  exact ⟨s.data.toList, e, by rw [Array.length_toList]; exact hz⟩
theorem fld {X : Type} {fs : Array Field} {T : Field → Option X} {xs : List X} (hlen : xs.length = fs.size) (hf : ∀ (i : Nat) (f : Field), fs[i]? = some f → T f = xs[i]?) (i : Nat) (f : Field) (hi : fs[i]? = some f) : ∃ y, T f = some y := by
  have h : i < fs.size := (Array.getElem?_eq_some_iff.1 hi).1
  exact ⟨xs[i]'(by omega), (hf i f hi).trans (List.getElem?_eq_getElem _)⟩
end
end Go.Proofs.YtodcnbejnchmhaaGreatDoor
namespace Go.Proofs.YtodcnbejnchmhaaGreatDoor.S7
open Go.RowKit Go.Mem Go.Lxr

abbrev strV (l : Bs) : Value := .string ⟨l.toArray⟩
theorem infoB : (Tryz.prog.info? 5).map (fun i => (i.zero, i.size, i.bytes)) = some (some (.int .u8 0), 1, 1) := by kernel_rfl
theorem infoS : (Tryz.prog.info? 9).map (fun i => (i.zero, i.size, i.bytes)) = some (some (.string ⟨#[]⟩), 1, 16) := by kernel_rfl
theorem infoF : (Tryz.prog.info? 172).map (fun i => (i.zero, i.size, i.bytes)) = some (some (.agg #[.string ⟨#[]⟩, .int .i64 0]), 2, 24) := by kernel_rfl
theorem str_size (l : Bs) : (⟨l.toArray⟩ : ByteArray).size = l.length := by show l.toArray.size = _; simp
theorem bytes_len (s : ByteArray) : s.data.toList.length = s.size := by rw [Array.length_toList]; rfl
theorem strV_of (s : ByteArray) : Value.string s = strV s.data.toList := by
  show Value.string s = .string ⟨s.data.toList.toArray⟩
  congr
theorem run_add_str {P : Program} (w : World) (a b : Bs) (h : a.length + b.length ≤ 1000000) : (Op.stringOp .add ⟨a.toArray⟩ ⟨b.toArray⟩).run P w = .ok (strV (a ++ b)) w := by
  rw [run_string_add_sum w _ _ (by show a.toArray.size + b.toArray.size ≤ _; simp; omega)]
  show Result.ok (Value.string ((⟨a.toArray⟩ : ByteArray) ++ ⟨b.toArray⟩)) w = .ok (.string ⟨(a ++ b).toArray⟩) w
  congr 2
theorem ff {a c d : World} (h : Fr a c (fun _ => False)) (h2 : Fr c d (fun _ => False)) : Fr a d (fun _ => False) := h.trans h2 (fun _ _ h => h) (fun _ _ h => h)
theorem fd {a b : World} (h : Fr a b (fun _ => False)) (n : Nat) : Fr a (b.drewN n) (fun _ => False) := ff h (Fr.drewN _ _ _)
theorem fb {a c d : World} {b : Nat} (h : Fr a c (· = b)) (h2 : Fr c d (· = b)) : Fr a d (· = b) := h.trans h2 (fun _ _ h => h) (fun _ _ h => h)
theorem fbn {a d : World} {b n : Nat} (h : Fr (a.drewN n) d (· = b)) : Fr a d (· = b) := fb (Fr.drewN _ _ _) h
theorem fr_put (w : World) (b i : Nat) (v : Value) : Fr w (w.setCell ⟨b, i, none⟩ v) (· = b) := Fr.set (S := (· = b)) rfl

/-- what set.has asks -/
theorem has_any (S : Bs) (c : UInt8) (w : World) (x : Bool) (hx : S.contains c = x) : Calls Tryz.prog 136 #[strV S, .int .u8 (c.toNat : Int)] w fun e w' => e = .returned (.bool x) ∧ w = w' := by
  have HI := Lib.hid (Tryz.strings_IndexByte ⟨S.toArray⟩ (c.toNat : Int) w)
  rw [show ((c.toNat : Int)).toNat.toUInt8 = c by simp, show (⟨S.toArray⟩ : ByteArray).data.toList = S from rfl] at HI
  have HC := Lib.hid (Lib.contains_iff_indexByte S c)
  rw [hx] at HC
  clear hx
  go_enter Tryz.func136, Tryz.ntmps136
  go_wp2_with fail
  refine HI.out.mono ?_
  rintro e w2 ⟨rfl, rfl⟩
  go_wp2_with fail
  go_ret
  exact ⟨by rw [HC.out]; rfl, rfl⟩
theorem lacks_any (S : Bs) (c : UInt8) (w : World) (x : Bool) (hx : (!S.contains c) = x) : Calls Tryz.prog 138 #[strV S, .int .u8 (c.toNat : Int)] w fun e w' => e = .returned (.bool x) ∧ w = w' := by
  obtain ⟨y, hy⟩ : ∃ y, S.contains c = y := ⟨_, rfl⟩
  rw [hy] at hx
  subst hx
  have HI := Lib.hid (has_any S c w y hy)
  clear hy
  go_enter Tryz.func138, Tryz.ntmps138
  go_wp2_with fail
  refine HI.out.mono ?_
  rintro e w2 ⟨rfl, rfl⟩
  go_wp2_with fail
  go_ret
  exact ⟨rfl, rfl⟩
end Go.Proofs.YtodcnbejnchmhaaGreatDoor.S7
namespace Go.Proofs.YtodcnbejnchmhaaGreatDoor.S7
open Go.RowKit Go.Mem Go.Lxr

/-- block b is a reader of s at the place p, with l still to read -/
def RdAt (w : World) (b : Nat) (s : ByteArray) (p : Nat) (l : Bs) : Prop := p ≤ s.size ∧ s.data.toList.drop p = l ∧ Blk w b 171 #[.string s, .int .i64 (p : Int)]
theorem RdAt.fr {w w' : World} {b p : Nat} {s : ByteArray} {l : Bs} {S : Nat → Prop} (h : RdAt w b s p l) (hf : Fr w w' S) (hs : ¬ S b) : RdAt w' b s p l := ⟨h.1, h.2.1, hf.blk h.2.2 hs⟩
theorem RdAt.lt {w : World} {b p : Nat} {s : ByteArray} {l : Bs} (h : RdAt w b s p l) : b < w.heap.size := h.2.2.lt
theorem RdAt.len {w : World} {b p : Nat} {s : ByteArray} {l : Bs} (h : RdAt w b s p l) : p + l.length = s.size := by
  have hl : s.data.toList.length = s.size := bytes_len s
  have h1 := h.1
  have : l.length = s.size - p := by rw [← h.2.1, List.length_drop, hl]
  omega
theorem drop_cons {s : ByteArray} {a : Nat} {c : UInt8} {l : Bs} (h : s.data.toList.drop a = c :: l) : ∃ hs : a < s.size, s[a] = c ∧ s.data.toList.drop (a + 1) = l := by
  have hl : s.data.toList.length = s.size := bytes_len s
  have hs : a < s.size := by
    rw [← hl]
    rcases Nat.lt_or_ge a s.data.toList.length with h1 | h1
    · exact h1
    · rw [List.drop_eq_nil_of_le h1] at h
      cases h
  refine ⟨hs, ?_, ?_⟩
  · rw [List.drop_eq_getElem_cons (by rw [hl]; exact hs)] at h
    have := (List.cons.inj h).1
    rw [← this]
    rfl
  · rw [List.drop_eq_getElem_cons (by rw [hl]; exact hs)] at h
    exact (List.cons.inj h).2
/-- an extract of a text as a list -/
theorem ext_str {s : ByteArray} {a e : Nat} {l t r : Bs} (h : s.data.toList.drop a = l) (hl : l = t ++ r) (he : e = a + t.length) : s.extract a e = ⟨t.toArray⟩ := by
  apply ByteArray.ext
  apply Array.toList_inj.1
  subst he
  simp [List.extract, h, hl]
theorem byte_lt (c : UInt8) : (c.toNat : Int) < 256 := by have := c.toNat_lt; omega
abbrev hasV (S : Bs) : Value := .func (.func 136) #[strV S] #[]
abbrev lacksV (S : Bs) : Value := .func (.func 138) #[strV S] #[]
abbrev ptrV (b : Nat) : Value := .pointer (some ⟨b, 0, none⟩)
abbrev hasF (S : Bs) (c : UInt8) : Bool := S.contains c
abbrev lacksF (S : Bs) (c : UInt8) : Bool := !S.contains c
/-- is the next byte such a one? -/
def seesD (f : UInt8 → Bool) : Bs → Bool
  | [] => false
  | c :: _ => f c
theorem tw_cons {f : UInt8 → Bool} {c : UInt8} {l : Bs} (h : f c = true) : (c :: l).takeWhile f = c :: l.takeWhile f ∧ (c :: l).dropWhile f = l.dropWhile f := by simp [h]
theorem tw_stop {f : UInt8 → Bool} {l : Bs} (h : seesD f l = false) : l.takeWhile f = [] ∧ l.dropWhile f = l := by
  cases l with
  | nil => exact ⟨rfl, rfl⟩
  | cons c l =>
    have h : f c = false := h
    simp [h]
theorem tw_app (f : UInt8 → Bool) (l : Bs) : l = l.takeWhile f ++ l.dropWhile f := List.takeWhile_append_dropWhile.symm

theorem sees_has (S : Bs) (w : World) (b p : Nat) (s : ByteArray) (l : Bs) (h : RdAt w b s p l) (_hz : s.size ≤ 1000000) (x : Bool) (hx : seesD (hasF S) l = x) :
    Calls Tryz.prog 137 #[ptrV b, hasV S] w fun e w' => e = .returned (.bool x) ∧ ∃ n, w' = w.drewN n := by
  have hlen := h.len
  obtain ⟨h0, hd, hb⟩ := h
  have c0 := cell_at hb 0
  have c1 := cell_at hb 1
  simp at c0 c1
  cases l with
  | nil =>
    have hx : x = false := hx.symm
    subst hx
    have h1 : decide (p < s.size) = false := by simp at hlen; rw [decide_eq_false_iff_not]; omega
    clear hd hb hlen
    go_enter Tryz.func137, Tryz.ntmps137
    go_wp2_with fail
    go_quiet (fail)
    go_wp2_with fail
    go_ret
    exact ⟨rfl, _, rfl⟩
  | cons c r =>
    obtain ⟨hlt, hc, -⟩ := drop_cons hd
    have h1 : decide (p < s.size) = true := by rw [decide_eq_true_iff]; exact hlt
    have h2 : (0 : Int) ≤ (p : Int) := by omega
    have h3 : (p : Int) < (s.size : Int) := by omega
    have HH := Lib.hid (fun W => has_any S c W x hx)
    rw [← hc] at HH
    clear hd hb hlen hx hc
    go_enter Tryz.func137, Tryz.ntmps137
    go_wp2_with fail
    go_quiet ((go_at_call 136; exact Calls.quiet_of ((HH.out _).mono (fun e w' h => ⟨h.1, 0, h.2.symm⟩))))
    go_wp2_with fail
    go_ret
    exact ⟨rfl, _, rfl⟩

theorem sees_lacks (S : Bs) (w : World) (b p : Nat) (s : ByteArray) (l : Bs) (h : RdAt w b s p l) (_hz : s.size ≤ 1000000) (x : Bool) (hx : seesD (lacksF S) l = x) :
    Calls Tryz.prog 137 #[ptrV b, lacksV S] w fun e w' => e = .returned (.bool x) ∧ ∃ n, w' = w.drewN n := by
  have hlen := h.len
  obtain ⟨h0, hd, hb⟩ := h
  have c0 := cell_at hb 0
  have c1 := cell_at hb 1
  simp at c0 c1
  cases l with
  | nil =>
    have hx : x = false := hx.symm
    subst hx
    have h1 : decide (p < s.size) = false := by simp at hlen; rw [decide_eq_false_iff_not]; omega
    clear hd hb hlen
    go_enter Tryz.func137, Tryz.ntmps137
    go_wp2_with fail
    go_quiet (fail)
    go_wp2_with fail
    go_ret
    exact ⟨rfl, _, rfl⟩
  | cons c r =>
    obtain ⟨hlt, hc, -⟩ := drop_cons hd
    have h1 : decide (p < s.size) = true := by rw [decide_eq_true_iff]; exact hlt
    have h2 : (0 : Int) ≤ (p : Int) := by omega
    have h3 : (p : Int) < (s.size : Int) := by omega
    have HH := Lib.hid (fun W => lacks_any S c W x hx)
    rw [← hc] at HH
    clear hd hb hlen hx hc
    go_enter Tryz.func137, Tryz.ntmps137
    go_wp2_with fail
    go_quiet ((go_at_call 138; exact Calls.quiet_of ((HH.out _).mono (fun e w' h => ⟨h.1, 0, h.2.symm⟩))))
    go_wp2_with fail
    go_ret
    exact ⟨rfl, _, rfl⟩

def TInv (f : UInt8 → Bool) (w : World) (b : Nat) (s : ByteArray) (p : Nat) (l t r : Bs) (g : Nat) (wr : World) : Prop :=
  ∃ t1 m, l = t1 ++ m ∧ m.length = g ∧ RdAt wr b s (p + t1.length) m ∧ t = t1 ++ m.takeWhile f ∧ m.dropWhile f = r ∧ Fr w wr (· = b)

theorem take_has (S : Bs) (w : World) (b p : Nat) (s : ByteArray) (l : Bs) (h : RdAt w b s p l) (hz : s.size ≤ 1000000) (t r : Bs) (ht : l.takeWhile (hasF S) = t) (hr : l.dropWhile (hasF S) = r) :
    Calls Tryz.prog 135 #[ptrV b, hasV S] w fun e w' => e = .returned (strV t) ∧ RdAt w' b s (p + t.length) r ∧ Fr w w' (· = b) := by
  have H0 := Lib.hid h
  have c1 := cell_at h.2.2 1
  simp at c1
  have HS := Lib.hid (fun W q m h x hx => sees_has S W b q s m h hz x hx)
  have HT := Lib.hid ht
  have HR := Lib.hid hr
  clear h ht hr
  go_enter Tryz.func135, Tryz.ntmps135
  go_wp2_with fail
  go_loopg [] l.length (fun g wr => TInv (hasF S) w b s p l t r g wr)
  case atStart => exact ⟨[], l, rfl, rfl, by simpa using H0.out, by rw [HT.out]; rfl, HR.out, Fr.refl _ _⟩
  case round =>
    obtain ⟨t1, m, hl1, hg1, hr1, ht1, hm1, hf1⟩ := hrel
    have hlen := hr1.len
    have hlen0 := H0.out.len
    have c0' := cell_at hr1.2.2 0
    have c1' := cell_at hr1.2.2 1
    simp at c0' c1'
    have f1 := free_at hr1.2.2 1
    have HR1 := Lib.hid hr1
    have HF1 := Lib.hid hf1
    obtain ⟨x, hx⟩ : ∃ x, seesD (hasF S) m = x := ⟨_, rfl⟩
    have HSE := Lib.hid (HS.out wr _ m hr1 x hx)
    clear hr1 hf1
    cases x with
    | true =>
      cases m with
      | nil => cases hx
      | cons c m =>
        have hx : hasF S c = true := hx
        obtain ⟨e1, e2⟩ := tw_cons (l := m) hx
        rw [e1] at ht1
        rw [e2] at hm1
        obtain ⟨hlt, -, hd'⟩ := drop_cons HR1.out.2.1
        have HD := Lib.hid hd'
        have HT1 := Lib.hid ht1
        have HM1 := Lib.hid hm1
        have HL1 := Lib.hid hl1
        have HG1 := Lib.hid hg1
        clear hx e1 e2 ht1 hm1 hd' hl1 hg1 hlen
        go_wp2_with fail
        refine HSE.out.mono ?_
        rintro e w2 ⟨rfl, n, rfl⟩
        go_wp2_with fail
        go_roundg m.length
        case measure => have := HG1.out; simp at this; omega
        case rel => exact ⟨t1 ++ [c], m, by rw [HL1.out]; simp, rfl, ⟨by simp; omega, by rw [← HD.out]; simp [Nat.add_assoc], Blk.put' (HR1.out.2.2 : Blk (wr.drewN _) b _ _) 1 _ (by simp; omega)⟩, by rw [HT1.out]; simp, HM1.out, fb HF1.out (fb (Fr.drewN _ _ _) (fr_put _ _ _ _))⟩
    | false =>
      obtain ⟨e1, e2⟩ := tw_stop hx
      rw [e1] at ht1
      rw [e2] at hm1
      simp at ht1
      subst ht1 hm1
      obtain ⟨q, hq⟩ : ∃ q : Nat, q = p + t.length := ⟨_, rfl⟩
      rw [show (p : Int) + (t.length : Int) = (q : Int) by omega] at c1'
      have i0 : (0 : Int) ≤ (p : Int) := by omega
      have i1 : (p : Int) ≤ (q : Int) := by omega
      have i2 : (q : Int) ≤ (s.size : Int) := by omega
      have HE := Lib.hid (show Value.string (s.extract p q) = strV t by rw [ext_str H0.out.2.1 hl1 hq])
      clear hq hlen hlen0
      clear hx e1 e2 hl1 hg1
      go_wp2_with fail
      refine HSE.out.mono ?_
      rintro e w2 ⟨rfl, n, rfl⟩
      go_wp2_with fail
      go_quiet (fail)
      go_wp2_with fail
      go_ret
      exact ⟨by rw [← HE.out]; rfl, HR1.out, fb HF1.out (fb (Fr.drewN _ _ _) (Fr.drewN _ _ _))⟩

theorem take_lacks (S : Bs) (w : World) (b p : Nat) (s : ByteArray) (l : Bs) (h : RdAt w b s p l) (hz : s.size ≤ 1000000) (t r : Bs) (ht : l.takeWhile (lacksF S) = t) (hr : l.dropWhile (lacksF S) = r) :
    Calls Tryz.prog 135 #[ptrV b, lacksV S] w fun e w' => e = .returned (strV t) ∧ RdAt w' b s (p + t.length) r ∧ Fr w w' (· = b) := by
  have H0 := Lib.hid h
  have c1 := cell_at h.2.2 1
  simp at c1
  have HS := Lib.hid (fun W q m h x hx => sees_lacks S W b q s m h hz x hx)
  have HT := Lib.hid ht
  have HR := Lib.hid hr
  clear h ht hr
  go_enter Tryz.func135, Tryz.ntmps135
  go_wp2_with fail
  go_loopg [] l.length (fun g wr => TInv (lacksF S) w b s p l t r g wr)
  case atStart => exact ⟨[], l, rfl, rfl, by simpa using H0.out, by rw [HT.out]; rfl, HR.out, Fr.refl _ _⟩
  case round =>
    obtain ⟨t1, m, hl1, hg1, hr1, ht1, hm1, hf1⟩ := hrel
    have hlen := hr1.len
    have hlen0 := H0.out.len
    have c0' := cell_at hr1.2.2 0
    have c1' := cell_at hr1.2.2 1
    simp at c0' c1'
    have f1 := free_at hr1.2.2 1
    have HR1 := Lib.hid hr1
    have HF1 := Lib.hid hf1
    obtain ⟨x, hx⟩ : ∃ x, seesD (lacksF S) m = x := ⟨_, rfl⟩
    have HSE := Lib.hid (HS.out wr _ m hr1 x hx)
    clear hr1 hf1
    cases x with
    | true =>
      cases m with
      | nil => cases hx
      | cons c m =>
        have hx : lacksF S c = true := hx
        obtain ⟨e1, e2⟩ := tw_cons (l := m) hx
        rw [e1] at ht1
        rw [e2] at hm1
        obtain ⟨hlt, -, hd'⟩ := drop_cons HR1.out.2.1
        have HD := Lib.hid hd'
        have HT1 := Lib.hid ht1
        have HM1 := Lib.hid hm1
        have HL1 := Lib.hid hl1
        have HG1 := Lib.hid hg1
        clear hx e1 e2 ht1 hm1 hd' hl1 hg1 hlen
        go_wp2_with fail
        refine HSE.out.mono ?_
        rintro e w2 ⟨rfl, n, rfl⟩
        go_wp2_with fail
        go_roundg m.length
        case measure => have := HG1.out; simp at this; omega
        case rel => exact ⟨t1 ++ [c], m, by rw [HL1.out]; simp, rfl, ⟨by simp; omega, by rw [← HD.out]; simp [Nat.add_assoc], Blk.put' (HR1.out.2.2 : Blk (wr.drewN _) b _ _) 1 _ (by simp; omega)⟩, by rw [HT1.out]; simp, HM1.out, fb HF1.out (fb (Fr.drewN _ _ _) (fr_put _ _ _ _))⟩
    | false =>
      obtain ⟨e1, e2⟩ := tw_stop hx
      rw [e1] at ht1
      rw [e2] at hm1
      simp at ht1
      subst ht1 hm1
      obtain ⟨q, hq⟩ : ∃ q : Nat, q = p + t.length := ⟨_, rfl⟩
      rw [show (p : Int) + (t.length : Int) = (q : Int) by omega] at c1'
      have i0 : (0 : Int) ≤ (p : Int) := by omega
      have i1 : (p : Int) ≤ (q : Int) := by omega
      have i2 : (q : Int) ≤ (s.size : Int) := by omega
      have HE := Lib.hid (show Value.string (s.extract p q) = strV t by rw [ext_str H0.out.2.1 hl1 hq])
      clear hq hlen hlen0
      clear hx e1 e2 hl1 hg1
      go_wp2_with fail
      refine HSE.out.mono ?_
      rintro e w2 ⟨rfl, n, rfl⟩
      go_wp2_with fail
      go_quiet (fail)
      go_wp2_with fail
      go_ret
      exact ⟨by rw [← HE.out]; rfl, HR1.out, fb HF1.out (fb (Fr.drewN _ _ _) (Fr.drewN _ _ _))⟩
end Go.Proofs.YtodcnbejnchmhaaGreatDoor.S7
namespace Go.Proofs.YtodcnbejnchmhaaGreatDoor.S7
open Go.RowKit Go.Mem Go.Lxr

abbrev whiteS : Bs := [9, 10, 11, 12, 13, 32]
abbrev marksS : Bs := [9, 10, 11, 12, 13, 32, 35, 34]
theorem white_iff (c : UInt8) : whiteS.contains c = whiteB c := by
  have h : ∀ k : Fin 256, whiteS.contains (UInt8.ofNat k.val) = whiteB (UInt8.ofNat k.val) := by decide +kernel
  have := h ⟨c.toNat, c.toNat_lt⟩
  simpa using this
theorem marks_iff (c : UInt8) : marksS.contains c = (stopB c || c == 34) := by
  have h : ∀ k : Fin 256, marksS.contains (UInt8.ofNat k.val) = (stopB (UInt8.ofNat k.val) || UInt8.ofNat k.val == 34) := by decide +kernel
  have := h ⟨c.toNat, c.toNat_lt⟩
  simpa using this
theorem one_iff (d c : UInt8) : List.contains [d] c = (c == d) := by
  show (match c == d with | true => true | false => List.elem c []) = _
  cases c == d <;> rfl
/-- does a field begin? -/
def startsD : Bs → Bool
  | [] => false
  | c :: _ => !(c == 35)
theorem starts_sees (l : Bs) : seesD (lacksF [35]) l = startsD l := by
  cases l with
  | nil => rfl
  | cons c l => show (!List.contains [35] c) = _; rw [one_iff]; rfl
theorem find_any (w : World) (b p : Nat) (s : ByteArray) (l : Bs) (h : RdAt w b s p l) (hz : s.size ≤ 1000000) (t r : Bs) (ht : l.takeWhile (hasF whiteS) = t) (hr : l.dropWhile (hasF whiteS) = r) (x : Bool) (hx : startsD r = x) :
    Calls Tryz.prog 105 #[ptrV b] w fun e w' => e = .returned (.bool x) ∧ RdAt w' b s (p + t.length) r ∧ Fr w w' (· = b) := by
  have HT := Lib.hid (take_has whiteS w b p s l h hz t r ht hr)
  have HS := Lib.hid (fun W h => sees_lacks [35] W b (p + t.length) s r h hz x (by rw [starts_sees]; exact hx))
  clear h ht hr hx
  go_enter Tryz.func105, Tryz.ntmps105
  go_wp2_with fail
  refine HT.out.mono ?_
  rintro e w2 ⟨rfl, hr2, hf2⟩
  have HR2 := Lib.hid hr2
  have HF2 := Lib.hid hf2
  have HS2 := Lib.hid (HS.out w2 hr2)
  clear hr2 hf2
  go_wp2_with fail
  refine HS2.out.mono ?_
  rintro e w3 ⟨rfl, n, rfl⟩
  go_wp2_with fail
  go_ret
  exact ⟨rfl, HR2.out, fb HF2.out (Fr.drewN _ _ _)⟩
/-- the rest of a quoted part by the reader's ways -/
theorem quote_take (r : Bs) : (∃ q r', quoteD r = some (q, r') ∧ r.takeWhile (lacksF [34]) = q ∧ r.dropWhile (lacksF [34]) = 34 :: r') ∨ (quoteD r = none ∧ r.dropWhile (lacksF [34]) = []) := by
  induction r with
  | nil => exact .inr ⟨rfl, rfl⟩
  | cons c r ih =>
    by_cases hc : c = 34
    · subst hc
      refine .inl ⟨[], r, by simp [quoteD], ?_, ?_⟩ <;> rfl
    · have hl : lacksF [34] c = true := by
        show (!List.contains [34] c) = true
        rw [one_iff]
        simpa using hc
      obtain ⟨e1, e2⟩ := tw_cons (l := r) hl
      rw [e1, e2]
      rcases ih with ⟨q, r', h1, h2, h3⟩ | ⟨h1, h2⟩
      · exact .inl ⟨c :: q, r', by rw [quoteD, if_neg hc, h1]; rfl, by rw [h2], h3⟩
      · exact .inr ⟨by rw [quoteD, if_neg hc, h1]; rfl, h2⟩
/-- a quoted part that has an end -/
theorem quoted_some (w : World) (b p : Nat) (s : ByteArray) (r q r' : Bs) (h : RdAt w b s p (34 :: r)) (hz : s.size ≤ 1000000) (hq : quoteD r = some (q, r')) :
    Calls Tryz.prog 139 #[ptrV b] w fun e w' => e = .returned (.tuple #[strV q, .bool true]) ∧ RdAt w' b s (p + q.length + 2) r' ∧ Fr w w' (· = b) := by
  obtain ⟨ht, hr⟩ : r.takeWhile (lacksF [34]) = q ∧ r.dropWhile (lacksF [34]) = 34 :: r' := by
    rcases quote_take r with ⟨q2, r2, h1, h2, h3⟩ | ⟨h1, -⟩
    · rw [hq] at h1
      injection h1 with h1
      injection h1 with h1 h4
      subst h1 h4
      exact ⟨h2, h3⟩
    · rw [hq] at h1
      cases h1
  have hlen := h.len
  have hlr : r.length = q.length + (r'.length + 1) := by
    have := tw_app (lacksF [34]) r
    rw [ht, hr] at this
    rw [this]
    simp
  obtain ⟨hlt, -, hd⟩ := drop_cons h.2.1
  have c1 := cell_at h.2.2 1
  simp at c1
  have f1 := free_at h.2.2 1
  have H0 := Lib.hid h
  have H1 := Lib.hid (show RdAt (w.setCell ⟨b, 1, none⟩ (.int .i64 ((p : Int) + 1))) b s (p + 1) r from ⟨by omega, hd, Blk.put' h.2.2 1 _ (by simp)⟩)
  have HT := Lib.hid (take_lacks [34] _ b (p + 1) s r H1.out hz q (34 :: r') ht hr)
  have HS := Lib.hid (fun W h => sees_has [34] W b (p + 1 + q.length) s (34 :: r') h hz true rfl)
  have HL := Lib.hid hlr
  have HN := Lib.hid hlen
  clear h ht hr hq hd hlr hlen
  go_enter Tryz.func139, Tryz.ntmps139
  go_wp2_with fail
  refine HT.out.mono ?_
  rintro e w2 ⟨rfl, hr2, hf2⟩
  have HR2 := Lib.hid hr2
  have HF2 := Lib.hid (fb (fr_put w b 1 (.int .i64 ((p : Int) + 1))) hf2)
  have HS2 := Lib.hid (HS.out w2 hr2)
  have c2 := cell_at hr2.2.2 1
  simp at c2
  have f2 := free_at hr2.2.2 1
  have k1 : (0 : Int) ≤ (p : Int) + 1 + (q.length : Int) := by omega
  have k2 : (p : Int) + 1 + (q.length : Int) ≤ 1000000 := by have := HN.out; have := HL.out; simp at *; omega
  clear hr2 hf2
  go_wp2_with fail
  refine HS2.out.mono ?_
  rintro e w3 ⟨rfl, n, rfl⟩
  go_wp2_with fail
  go_ret2
  obtain ⟨-, -, hd2⟩ := drop_cons HR2.out.2.1
  have hN := HN.out
  have hL := HL.out
  simp at hN
  refine ⟨rfl, ⟨by omega, by rw [← hd2]; congr 1; omega, Blk.put' (HR2.out.2.2 : Blk (w2.drewN _) b _ _) 1 _ (by simp; omega)⟩, fb HF2.out (fb (Fr.drewN _ _ _) (fr_put _ _ _ _))⟩
/-- one that has none -/
theorem quoted_none (w : World) (b p : Nat) (s : ByteArray) (r : Bs) (h : RdAt w b s p (34 :: r)) (hz : s.size ≤ 1000000) (hq : quoteD r = none) :
    Calls Tryz.prog 139 #[ptrV b] w fun e w' => e = .returned (.tuple #[strV [], .bool false]) ∧ RdAt w' b s p (34 :: r) ∧ Fr w w' (· = b) := by
  obtain ⟨t, ht⟩ : ∃ t, r.takeWhile (lacksF [34]) = t := ⟨_, rfl⟩
  have hr : r.dropWhile (lacksF [34]) = [] := by
    rcases quote_take r with ⟨q2, r2, h1, h2, h3⟩ | ⟨-, h2⟩
    · rw [hq] at h1
      cases h1
    · exact h2
  have hlen := h.len
  obtain ⟨hlt, -, hd⟩ := drop_cons h.2.1
  have c1 := cell_at h.2.2 1
  simp at c1
  have f1 := free_at h.2.2 1
  have H0 := Lib.hid h
  have H1 := Lib.hid (show RdAt (w.setCell ⟨b, 1, none⟩ (.int .i64 ((p : Int) + 1))) b s (p + 1) r from ⟨by omega, hd, Blk.put' h.2.2 1 _ (by simp)⟩)
  have HT := Lib.hid (take_lacks [34] _ b (p + 1) s r H1.out hz t [] ht hr)
  have HS := Lib.hid (fun W h => sees_has [34] W b (p + 1 + t.length) s [] h hz false rfl)
  clear h ht hr hq hd hlen
  go_enter Tryz.func139, Tryz.ntmps139
  go_wp2_with fail
  refine HT.out.mono ?_
  rintro e w2 ⟨rfl, hr2, hf2⟩
  have HR2 := Lib.hid hr2
  have HF2 := Lib.hid (fb (fr_put w b 1 (.int .i64 ((p : Int) + 1))) hf2)
  have HS2 := Lib.hid (HS.out w2 hr2)
  have c2 := cell_at hr2.2.2 1
  simp at c2
  have f2 := free_at hr2.2.2 1
  clear hr2 hf2
  go_wp2_with fail
  refine HS2.out.mono ?_
  rintro e w3 ⟨rfl, n, rfl⟩
  go_wp2_with fail
  go_ret2
  refine ⟨rfl, ⟨H0.out.1, H0.out.2.1, Blk.put' (HR2.out.2.2 : Blk (w2.drewN _) b _ _) 1 _ (by simp)⟩, fb HF2.out (fb (Fr.drewN _ _ _) (fr_put _ _ _ _))⟩
end Go.Proofs.YtodcnbejnchmhaaGreatDoor.S7
namespace Go.Mem
open Go.RowKit

/-- the slice v owns the n elements xs; its row may bear the mark of a conversion, beyond its cells -/
def Row (w : World) (base : Nat) (e : TypeId) (size : Nat) (v : Value) (n : Nat) (xs : List Value) : Prop :=
  xs.length = n * size ∧ ((v = .slice none 0 0 ∧ n = 0) ∨
    ∃ g cap cur fr, v = .slice (some ⟨g, 0, none⟩) n cap ∧ base ≤ g ∧ w.heap[g]? = some (.cells cur e fr) ∧ n ≤ cap ∧ cap ≤ maxLen ∧ cur.size = cap * size ∧ cur.toList.take (n * size) = xs ∧
      ∀ i, i < cur.size → w.frozen? ⟨g, i, none⟩ = false)

theorem Row.base {w : World} {base base' : Nat} {e : TypeId} {size n : Nat} {v : Value} {xs : List Value} (h : Row w base e size v n xs) (hb : base' ≤ base) : Row w base' e size v n xs := by
  refine ⟨h.1, ?_⟩
  rcases h.2 with h2 | ⟨g, cap, cur, fr, hv, hg, r⟩
  · exact .inl h2
  · exact .inr ⟨g, cap, cur, fr, hv, by omega, r⟩
theorem Row.slice {w : World} {base : Nat} {e : TypeId} {size n : Nat} {v : Value} {xs : List Value} (h : Row w base e size v n xs) : ∃ A c, v = .slice A n c := by
  rcases h.2 with ⟨rfl, rfl⟩ | ⟨g, cap, cur, fr, rfl, _⟩
  · exact ⟨_, _, rfl⟩
  · exact ⟨_, _, rfl⟩
theorem Row.lt {w : World} {base : Nat} {e : TypeId} {size n : Nat} {v : Value} {xs : List Value} (h : Row w base e size v n xs) : ∀ k, v.ownBlock = some k → base ≤ k ∧ k < w.heap.size := by
  intro k hk
  rcases h.2 with ⟨rfl, _⟩ | ⟨g, cap, cur, fr, rfl, hb, hg, _⟩
  · simp [Value.ownBlock] at hk
  · simp [Value.ownBlock] at hk
    subst hk
    exact ⟨hb, (Array.getElem?_eq_some_iff.1 hg).1⟩
theorem Row.fr {a b : World} {S : Nat → Prop} {base : Nat} {e : TypeId} {size n : Nat} {v : Value} {xs : List Value} (h : Row a base e size v n xs) (hf : Fr a b S) (hg : ∀ g, v.ownBlock = some g → ¬ S g) : Row b base e size v n xs := by
  refine ⟨h.1, ?_⟩
  rcases h.2 with hn | ⟨g, cap, cur, fr, rfl, hb, hh, h1, h2, h3, h4, h5⟩
  · exact .inl hn
  · have hblk := hf.block g (Array.getElem?_eq_some_iff.1 hh).1 (hg g rfl)
    exact .inr ⟨g, cap, cur, fr, rfl, hb, hblk.trans hh, h1, h2, h3, h4, fun i hi => (World.frozen?_of_block (w := a) (a := ⟨g, i, none⟩) hblk).trans (h5 i hi)⟩
theorem Row.rd {w : World} {base : Nat} {e : TypeId} {size n : Nat} {v : Value} {xs : List Value} (h : Row w base e size v n xs) :
    ∃ A c, v = .slice A n c ∧ n ≤ c ∧ c ≤ maxLen ∧ Rd w size A n xs ∧ (A = none → n = 0 ∧ c = 0) ∧ (∀ a, A = some a → ∃ g, a = ⟨g, 0, none⟩ ∧ v.ownBlock = some g ∧ base ≤ g ∧ g < w.heap.size) := by
  have hx := h.1
  rcases h.2 with ⟨rfl, rfl⟩ | ⟨g, cap, cur, fr, rfl, hb, hh, hn, hc, hs, ht, -⟩
  · have : xs = [] := List.eq_nil_of_length_eq_zero (by simpa using hx)
    subst this
    exact ⟨_, _, rfl, Nat.le_refl _, Nat.zero_le _, Rd.zero _ _ _, fun _ => ⟨rfl, rfl⟩, fun a e => by cases e⟩
  · refine ⟨_, _, rfl, hn, hc, ⟨hx, fun _ => ⟨g, 0, rfl, fun j u hu => ?_⟩⟩, (fun e => by cases e), (fun a e => by cases e; exact ⟨g, rfl, rfl, hb, (Array.getElem?_eq_some_iff.1 hh).1⟩)⟩
    rw [← ht, List.getElem?_take] at hu
    split at hu
    · simp [World.cell?, hh]
      simpa using hu
    · cases hu

/-- what a stretch of stores leaves in its block -/
theorem heap_setCells (g : Nat) : ∀ (vs : List Value) (o : Nat) (cur : Array Value) (e : TypeId) (fr : Nat × Nat) (w : World), w.heap[g]? = some (.cells cur e fr) →
    (w.setCells g o vs).heap[g]? = some (.cells ((vs.zipIdx o).foldl (fun (c : Array Value) (p : Value × Nat) => c.setIfInBounds p.2 p.1) cur) e fr)
  | [], _, _, _, _, _, h => h
  | v :: r, o, cur, e, fr, w, h => by
    rw [World.setCells]
    have h1 : (w.setCell ⟨g, o, none⟩ v).heap[g]? = some (.cells (cur.setIfInBounds o v) e fr) := by
      simp [World.setCell, Array.getElem?_modify, h]
    rw [heap_setCells g r (o + 1) _ e fr _ h1]
    rfl
theorem size_setAll : ∀ (l : List (Value × Nat)) (cur : Array Value), (l.foldl (fun (c : Array Value) (p : Value × Nat) => c.setIfInBounds p.2 p.1) cur).size = cur.size
  | [], _ => rfl
  | p :: l, cur => by rw [List.foldl_cons, size_setAll l]; simp
theorem fr_setCells (g : Nat) : ∀ (vs : List Value) (o : Nat) (w : World), Fr w (w.setCells g o vs) (· = g)
  | [], _, _ => Fr.refl _ _
  | _ :: r, o, _ => (Fr.set (S := (· = g)) rfl).trans (fr_setCells g r (o + 1) _) (fun _ _ h => h) (fun _ _ h => h)

section
variable {P : Program} (w : World)
end

/-- the bytes of a string as cells -/
def strCells (s : ByteArray) : List Value := s.data.toList.map fun b => Value.int .u8 (b.toNat : Int)
/-- a string as a slice of bytes: the row and the world -/
theorem bytes_row (w : World) (e : TypeId) (s : ByteArray) (hs : s.size ≤ maxLen) : Row (Lib.bytesWorld w e s) w.heap.size e 1 (.slice (some ⟨w.heap.size, 0, none⟩) s.size (grownCap w s.size 0 e)) s.size (strCells s) ∧
    Fr w (Lib.bytesWorld w e s) (fun _ => False) := by
  have hge := grownCap_ge w s.size 0 e
  have hcs : (Lib.bytesCells w e s).size = grownCap w s.size 0 e := by
    simp [Lib.bytesCells]
    have : s.data.size = s.size := rfl
    omega
  have hsz : s.data.toList.length = s.size := by rw [Array.length_toList]; rfl
  refine ⟨⟨by simp [strCells, hsz], .inr ⟨w.heap.size, _, _, _, rfl, Nat.le_refl _, Lib.bytesWorld_at_new w e s, hge, grownCap_le_maxLen w s.size 0 e hs, by rw [hcs]; omega, ?_, fun i hi => ?_⟩⟩, ?_⟩
  · simp only [Lib.bytesCells, Nat.mul_one, Array.toList_append, Array.toList_map]
    rw [List.take_left' (by simp [hsz])]
    rfl
  · simp only [World.frozen?, Lib.bytesWorld_at_new]
    simp
    omega
  · exact ⟨rfl, rfl, rfl, by rw [Lib.bytesWorld_size]; omega, fun k hk _ => Lib.bytesWorld_at_old w e s k hk⟩

theorem str_cells_len (s : ByteArray) : (strCells s).length = s.size := by
  have hsz : s.data.toList.length = s.size := by rw [Array.length_toList]; rfl
  simp [strCells, hsz]
theorem first_str {P : Program} (w : World) (s : ByteArray) : (Builtin.firstCells 1 s.size (.string s)).run P w = .ok (strCells s).toArray w := by
  simp only [Builtin.firstCells, Sem.run_pure]
  congr 1
  apply Array.toList_inj.1
  have hsz : s.data.size = s.size := rfl
  rw [← hsz]
  simp [strCells]
section
variable {P : Program} (w : World)
/-- append of a string's bytes onto a row of bytes -/
theorem run_append_str (base : Nat) (t u ty e : TypeId) (i : TypeInfo) (ht : P.underlying t = some (.slice e)) (hu : P.underlying u = some .string) (hi : P.info? e = some i) (hz : i.zero = some (.int .u8 0))
    (hsize : i.size = 1) (hby : i.bytes = 1) (v : Value) (n : Nat) (xs : List Value) (hown : Row w base e 1 v n xs) (s : ByteArray) (h63 : n + s.size ≤ 1000000) (hbase : base ≤ w.heap.size) :
    ∃ v' w', (Builtin.append_ #[t, u] ty #[v, .string s]).run P w = .ok v' w' ∧ Row w' base e 1 v' (n + s.size) (xs ++ strCells s) ∧ Fr w w' (fun k => some k = v.ownBlock) ∧
      (v'.ownBlock = v.ownBlock ∨ v'.ownBlock = some w.heap.size) := by
  have hcl := str_cells_len s
  have hone : ∀ u ∈ strCells s, u.oneCell' = true := by
    intro u hu
    simp only [strCells, List.mem_map] at hu
    obtain ⟨b, -, rfl⟩ := hu
    rfl
  by_cases hm : s.size = 0
  · have hn : strCells s = [] := List.eq_nil_of_length_eq_zero (by omega)
    refine ⟨v, w, ?_, by simpa [hn, hm] using hown, Fr.refl _ _, .inl rfl⟩
    have hf : (Builtin.firstCells 1 0 (.string s)).run P w = .ok #[] w := by
      have := first_str (P := P) w s
      rw [hm, hn] at this
      exact this
    rcases hown.2 with ⟨rfl, rfl⟩ | ⟨g, cap, cur, fr, rfl, hbg, hg, hnc, hcm, hcs, htake, hfz⟩
    · simp [Builtin.append_, run_underlying ht, run_underlying hu, sizeOf, typeInfo, hi, Builtin.lenOf, hm, hsize, hf]
    · simp [Builtin.append_, run_underlying ht, run_underlying hu, sizeOf, typeInfo, hi, Builtin.lenOf, hm, hsize, hf, hnc, storeCells]
  · rcases hown.2 with ⟨rfl, rfl⟩ | ⟨g, cap, cur, fr, rfl, hbg, hg, hnc, hcm, hcs, htake, hfz⟩
    · have hx : xs = [] := List.eq_nil_of_length_eq_zero (by simpa using hown.1)
      subst hx
      have hrun := run_append_nil_string (P := P) w t u ty e i (.int .u8 0) ht hu hi hz s (by omega) (by omega) (by rw [hby]; omega)
      have hge := grownCap_ge w s.size 0 e
      have hcm' : grownCap w s.size 0 e ≤ maxLen := grownCap_le_maxLen w s.size 0 e (by unfold maxLen; omega)
      have hd : s.data.size = s.size := rfl
      have hheap := heap_alloc_new w.drew (.cells (s.data.map (fun b => Value.int .u8 b.toNat) ++ Builtin.zeroCells (Value.int .u8 0).cells (grownCap w s.size 0 e - s.size)) e)
      refine ⟨_, _, hrun, ⟨by simp [hcl], .inr ⟨w.heap.size, _, _, (0, 0), by simp, hbase, hheap, by simpa using hge, hcm', ?_, ?_, ?_⟩⟩, (Fr.drew w _).trans (Fr.new _ _ _) (fun _ _ h => h) (fun _ _ h => h), .inr rfl⟩
      · simp [size_zeroCells, Value.cells]
        omega
      · simp only [Array.toList_append, Array.toList_map, Nat.zero_add, Nat.mul_one, List.nil_append]
        rw [List.take_left' (by simp [hd])]
        rfl
      · intro k _
        have : (w.drew.alloc (.cells (s.data.map (fun b => Value.int .u8 b.toNat) ++ Builtin.zeroCells (Value.int .u8 0).cells (grownCap w s.size 0 e - s.size)) e)).heap[w.heap.size]? = _ := hheap
        simp only [World.frozen?, this]
        simp
    · by_cases hroom : n + s.size ≤ cap
      · have hfit : n * 1 + (strCells s).length ≤ cur.size := by rw [hcl, hcs]; omega
        have hst := run_storeCells_cells (P := P) g (n * 1) (strCells s) 0 w (fun j hj => by simp [World.cell?, hg]; omega) (fun j hj => hfz _ (by omega)) hone
        simp only [Nat.add_zero] at hst
        have hadd : (⟨g, 0, none⟩ : Addr).add (n * 1) = ⟨g, n * 1, none⟩ := by unfold Addr.add; split <;> simp_all
        have hf := first_str (P := P) w s
        refine ⟨.slice (some ⟨g, 0, none⟩) (n + s.size) cap, w.setCells g (n * 1) (strCells s), ?_, ⟨by rw [List.length_append, hown.1, hcl, Nat.add_mul]; omega, .inr ⟨g, cap, _, fr, rfl, hbg, heap_setCells g (strCells s) _ cur e fr w hg, hroom, hcm, by rw [size_setAll]; exact hcs, ?_, ?_⟩⟩, ?_, .inl rfl⟩
        · simp only [Nat.mul_one] at hst hadd
          simp [Builtin.append_, run_underlying ht, run_underlying hu, sizeOf, typeInfo, hi, Builtin.lenOf, hroom, hsize, hf, hadd, hst]
        · have hcells := heap_setCells g (strCells s) (n * 1) cur e fr w hg
          have hat : ∀ k, (w.setCells g (n * 1) (strCells s)).cell? ⟨g, k, none⟩ = (((strCells s).zipIdx (n * 1)).foldl (fun (c : Array Value) (p : Value × Nat) => c.setIfInBounds p.2 p.1) cur)[k]? := fun k => by unfold World.cell?; rw [hcells]; rfl
          refine List.ext_getElem? fun k => ?_
          rw [List.getElem?_take]
          by_cases hk : k < (n + s.size) * 1
          · rw [if_pos hk, Array.getElem?_toList, ← hat k]
            by_cases hk1 : k < n * 1
            · rw [World.cell?_setCells_out g (strCells s) (n * 1) w ⟨g, k, none⟩ (fun _ _ => .inl hk1), List.getElem?_append_left (by rw [hown.1]; exact hk1), ← htake, List.getElem?_take, if_pos hk1]
              simp [World.cell?, hg]
            · have hj : k - n * 1 < (strCells s).length := by rw [hcl]; omega
              have := World.cell?_setCells_in g (strCells s) (n * 1) w (fun j hj => by simp [World.cell?, hg]; omega) (k - n * 1) hj
              rw [show n * 1 + (k - n * 1) = k by omega] at this
              rw [this, List.getElem?_append_right (by rw [hown.1]; omega), hown.1, List.getElem?_eq_getElem hj]
          · rw [if_neg hk, List.getElem?_eq_none]
            rw [List.length_append, hown.1, hcl]
            omega
        · intro k hk
          rw [World.frozen?_setCells]
          exact hfz k (by rw [size_setAll] at hk; exact hk)
        · exact (fr_setCells g (strCells s) _ w).mono fun k _ h => by simp [Value.ownBlock, h]
      · have holds : ∀ j u, xs[j]? = some u → w.drew.cell? ((⟨g, 0, none⟩ : Addr).add j) = some u := fun j u hu => by
          have hadd : (⟨g, 0, none⟩ : Addr).add j = ⟨g, j, none⟩ := by unfold Addr.add; split <;> simp_all
          rw [hadd]
          rw [← htake, List.getElem?_take] at hu
          split at hu
          · have hg' : w.drew.heap[g]? = some (.cells cur e fr) := hg
            simp [World.cell?, hg']
            simpa using hu
          · cases hu
        have hf := first_str (P := P) w.drew s
        have hfo := run_firstCells_some (P := P) w.drew 1 n ⟨g, 0, none⟩ n cap xs (by rw [hown.1]) holds
        have hne : ¬ (n + s.size ≤ cap) := hroom
        have h63' : ¬ (9223372036854775807 < ((n : Int) + (s.size : Int))) := by omega
        have h48' : ¬ (281474976710656 < Builtin.nextslicecap (n + s.size) cap * i.bytes) := by
          have := growslice_fits (need := n + s.size) (old := cap) (bytes := i.bytes) (by omega) (by rw [hby]; omega)
          omega
        have hge := grownCap_ge w (n + s.size) cap e
        have hcm' : grownCap w (n + s.size) cap e ≤ maxLen := grownCap_le_maxLen w (n + s.size) cap e (by unfold maxLen; omega)
        have hrun : (Builtin.append_ #[t, u] ty #[.slice (some ⟨g, 0, none⟩) n cap, .string s]).run P w = .ok (.slice (some ⟨w.heap.size, 0, none⟩) (n + s.size) (grownCap w (n + s.size) cap e))
            (w.drew.alloc (.cells (xs.toArray ++ (strCells s).toArray ++ Builtin.zeroCells (Value.int .u8 0).cells (grownCap w (n + s.size) cap e - (n + s.size))) e)) := by
          simp only [hby, Nat.mul_one] at h48'
          simp [Builtin.append_, run_underlying ht, run_underlying hu, sizeOf, typeInfo, zeroValue, hi, hz, Builtin.lenOf, hne, h63', h48', Question.forced, hf, hfo, hsize, hby, newRow, grownCap]
          congr 2
          apply Array.ext'
          simp [List.append_assoc]
        have hlen : (xs ++ strCells s).length = n + s.size := by rw [List.length_append, hown.1, hcl]; omega
        have hheap := heap_alloc_new w.drew (.cells (xs.toArray ++ (strCells s).toArray ++ Builtin.zeroCells (Value.int .u8 0).cells (grownCap w (n + s.size) cap e - (n + s.size))) e)
        refine ⟨_, _, hrun, ⟨by rw [hlen]; omega, .inr ⟨w.heap.size, _, _, (0, 0), rfl, hbase, hheap, hge, hcm', ?_, ?_, ?_⟩⟩, (Fr.drew w _).trans (Fr.new _ _ _) (fun _ _ h => h) (fun _ _ h => h), .inr rfl⟩
        · have hx := hown.1
          simp [size_zeroCells, Value.cells, hcl]
          omega
        · simp only [Array.toList_append, Nat.mul_one]
          rw [List.take_left' (by simpa using hlen)]
        · intro k _
          have : (w.drew.alloc (.cells (xs.toArray ++ (strCells s).toArray ++ Builtin.zeroCells (Value.int .u8 0).cells (grownCap w (n + s.size) cap e - (n + s.size))) e)).heap[w.heap.size]? = _ := hheap
          simp only [World.frozen?, this]
          simp

theorem wpList_append_str {ops : Array Oper} {rest : List Oper} {o : Oper} {a : Act} {Q : Exit → Act → World → Prop} (hgd : o.guard = none) (s x : Operand) (t u : TypeId)
    (ho : o.op = .call { callee := .builtin .append, args := #[s, x], argTypes := #[t, u] })
    (base : Nat) (e : TypeId) (i : TypeInfo) (ht : P.underlying t = some (.slice e)) (hu : P.underlying u = some .string) (hi : P.info? e = some i) (hz : i.zero = some (.int .u8 0))
    (hsize : i.size = 1) (hby : i.bytes = 1)
    (v : Value) (n : Nat) (xs : List Value) (hs : a.eval s = v) (hown : Row w base e 1 v n xs)
    (str : ByteArray) (hx : a.eval x = .string str) (h63 : n + str.size ≤ 1000000) (hbase : base ≤ w.heap.size)
    (h : ∀ v' w', Row w' base e 1 v' (n + str.size) (xs ++ strCells str) → Fr w w' (fun k => some k = v.ownBlock) → (v'.ownBlock = v.ownBlock ∨ v'.ownBlock = some w.heap.size) → wpList P ops Q rest (a.put o.dst v') w') : wpList P ops Q (o :: rest) a w := by
  refine wpList_plain hgd fun K hK => ?_
  obtain ⟨v', w', hrun, h2, h3, h4⟩ := run_append_str (P := P) w base t u o.type e i ht hu hi hz hsize hby v n xs hown str h63 hbase
  unfold Oper.wp execOp
  simp only [ho, resolve, invoke, builtin, Sem.run_bind, Sem.run_pure, Result.andThen_ok, List.map_toArray, List.map_cons, List.map_nil, hs, hx, hrun]
  exact hK _ _ (h v' w' h2 h3 h4)
end
end Go.Mem
namespace Go.Proofs.YtodcnbejnchmhaaGreatDoor.S7
open Go.RowKit Go.Mem Go.Lxr

abbrev u8V (b : UInt8) : Value := .int .u8 (b.toNat : Int)
theorem text_push (xs : List Int) (y : Int) : text (xs ++ [y]) = (text xs).push (UInt8.ofNat y.toNat) := by simp [text]
theorem text_bytes (l : Bs) : text (l.map fun b => (b.toNat : Int)) = ⟨l.toArray⟩ := by
  have : ∀ l : Bs, text ((l.reverse).map fun b => (b.toNat : Int)) = ⟨l.reverse.toArray⟩ := by
    intro l
    induction l with
    | nil => rfl
    | cons b l ih =>
      rw [List.reverse_cons, List.map_append, List.map_cons, List.map_nil, text_push, ih]
      have : UInt8.ofNat ((b.toNat : Int)).toNat = b := by simp
      rw [this]
      apply ByteArray.ext
      simp
  have := this l.reverse
  rw [List.reverse_reverse] at this
  exact this
/-- the slice v is the call's own and holds these bytes -/
def Bts (w : World) (base : Nat) (v : Value) (l : Bs) : Prop := Row w base 5 1 v l.length (l.map u8V)
theorem Bts.fr {a b : World} {S : Nat → Prop} {base : Nat} {v : Value} {l : Bs} (h : Bts a base v l) (hf : Fr a b S) (hg : ∀ g, S g → g < base) : Bts b base v l :=
  Row.fr h hf (fun g e hs => by have := (Row.lt h g e).1; have := hg g hs; omega)
theorem conv_nil (w : World) (c : Nat) : (convert 157 9 (.slice none 0 c)).run Tryz.prog w = .ok (.string ⟨#[]⟩) w := by
  have := run_convert_bytes_string (P := Tryz.prog) w 157 9 5 none 0 c Tryz.underlying157 Tryz.underlying5 Tryz.underlying9
  rw [this]
  simp [Conv.bytesToString]
  rfl
theorem Bts.text {w : World} {base : Nat} {v : Value} {l : Bs} (h : Bts w base v l) : (convert 157 9 v).run Tryz.prog w = .ok (strV l) w := by
  obtain ⟨A, c, rfl, -, -, hrd, hn, -⟩ := Row.rd h
  cases A with
  | none =>
    have h0 := hn rfl
    obtain rfl : l = [] := List.length_eq_zero_iff.1 h0.1
    exact conv_nil w c
  | some a =>
    have := run_text (P := Tryz.prog) w 157 9 5 Tryz.underlying157 Tryz.underlying5 Tryz.underlying9 a l.length c (l.map fun b => (b.toNat : Int)) (show Rd w 1 (some a) l.length ((l.map fun b => (b.toNat : Int)).map (Value.int .u8)) by
      rw [List.map_map]; exact hrd)
    rw [text_bytes] at this
    exact this
theorem Bts.slice {w : World} {base : Nat} {v : Value} {l : Bs} (h : Bts w base v l) : ∃ A c, v = .slice A l.length c := Row.slice h
theorem run_conv (w : World) (l : Bs) : (convert 9 157 (strV l)).run Tryz.prog w = .ok (.slice (some ⟨w.heap.size, 0, none⟩) l.length (grownCap w l.length 0 5)) (Lib.bytesWorld w 5 ⟨l.toArray⟩) := by
  have := Lib.run_convert_string_bytes (P := Tryz.prog) w 9 157 5 ⟨l.toArray⟩ Tryz.underlying9 Tryz.underlying157 Tryz.underlying5
  rw [str_size] at this
  exact this
theorem bts_made (w : World) (l : Bs) (h : l.length ≤ 1000000) : Bts (Lib.bytesWorld w 5 ⟨l.toArray⟩) w.heap.size (.slice (some ⟨w.heap.size, 0, none⟩) l.length (grownCap w l.length 0 5)) l ∧ Fr w (Lib.bytesWorld w 5 ⟨l.toArray⟩) (fun _ => False) := by
  have := bytes_row w 5 ⟨l.toArray⟩ (by rw [str_size]; unfold maxLen; omega)
  rw [str_size] at this
  exact this
theorem Bts.base {w : World} {base base' : Nat} {v : Value} {l : Bs} (h : Bts w base v l) (hb : base' ≤ base) : Bts w base' v l := Row.base h hb
theorem str_cells (l : Bs) : strCells ⟨l.toArray⟩ = l.map u8V := rfl
theorem Bts.add {w' : World} {base : Nat} {v' : Value} {l t : Bs} (h : Row w' base 5 1 v' (l.length + (⟨t.toArray⟩ : ByteArray).size) (l.map u8V ++ strCells ⟨t.toArray⟩)) : Bts w' base v' (l ++ t) := by
  rw [str_size, str_cells] at h
  show Row w' base 5 1 v' (l ++ t).length ((l ++ t).map u8V)
  rw [List.length_append, List.map_append]
  exact h

/-- fields by stretches without marks -/
theorem field_take : ∀ (l : Bs) (p : Nat), fieldD p l = (fieldD (p + (l.takeWhile (lacksF marksS)).length) (l.dropWhile (lacksF marksS))).map fun x => (l.takeWhile (lacksF marksS) ++ x.1, x.2) := by
  intro l
  induction l with
  | nil => intro p; rw [show ([] : Bs).takeWhile (lacksF marksS) = [] from rfl, show ([] : Bs).dropWhile (lacksF marksS) = [] from rfl, field_nil, field_nil]; rfl
  | cons c l ih =>
    intro p
    cases hc : lacksF marksS c with
    | true =>
      obtain ⟨e1, e2⟩ := tw_cons (l := l) hc
      rw [e1, e2]
      have hc : (!marksS.contains c) = true := hc
      rw [marks_iff] at hc
      simp only [Bool.not_eq_true', Bool.or_eq_false_iff, beq_eq_false_iff_ne] at hc
      rw [field_one hc.1 hc.2, ih, List.length_cons, show p + 1 + (l.takeWhile (lacksF marksS)).length = p + ((l.takeWhile (lacksF marksS)).length + 1) by omega]
      cases fieldD (p + ((l.takeWhile (lacksF marksS)).length + 1)) (l.dropWhile (lacksF marksS)) <;> rfl
    | false =>
      obtain ⟨e1, e2⟩ := tw_stop (f := lacksF marksS) (l := c :: l) hc
      rw [e1, e2]
      show _ = (fieldD p (c :: l)).map _
      cases fieldD p (c :: l) <;> rfl
theorem drop_marks (l : Bs) : (l.dropWhile (lacksF marksS) = [] ∨ ∃ c r, l.dropWhile (lacksF marksS) = c :: r ∧ (stopB c = true ∨ c = 34)) := by
  induction l with
  | nil => exact .inl rfl
  | cons c l ih =>
    cases hc : lacksF marksS c with
    | true => rw [(tw_cons (l := l) hc).2]; exact ih
    | false =>
      rw [(tw_stop (f := lacksF marksS) (l := c :: l) hc).2]
      have hc : (!marksS.contains c) = false := hc
      rw [marks_iff] at hc
      simp only [Bool.not_eq_false', Bool.or_eq_true, beq_iff_eq] at hc
      exact .inr ⟨c, l, rfl, hc⟩
end Go.Proofs.YtodcnbejnchmhaaGreatDoor.S7
