import Derived.Test.YtghcfmoagkimaaaDoorProg
import Derived.Test.YtghcfmoagkimaaaDoorYb10
import Derived.Test.YtghcfmoagkimaaaDoorYb01
import Derived.Lib.Hide
import Derived.IntWalk
import Derived.LoopTactic
import Derived.Deep.LoopGhost
import Derived.Test.YtghcfmoagkimaaaDoorYb03
import Derived.BigQuiet
import Derived.Deep.QuietTactic
import Derived.WalkLawsBesides
import Derived.Tactics2
import Derived.Test.YtghcfmoagkimaaaDoorYb07
import Derived.Laws.StructEq
import Derived.Deep.MidRow
import Derived.Great.BuildSlice
import Derived.Test.YtghcfmoagkimaaaDoorYb09
import Derived.Laws.OwnMore
import Derived.ChangeArms
import Derived.WideShapes
import Derived.Lib.SmallJoins
import Derived.Deep.Slices
import Derived.Deep.RegionHeld3
import Derived.Test.YtghcfmoagkimaaaDoorYb08
import Derived.Test.YtghcfmoagkimaaaDoorYb11
import Derived.Test.YtghcfmoagkimaaaDoorCards
import Derived.Test.YtghcfmoagkimaaaDoorTie
import Derived.ShutString
import Derived.ChangeOld
import Derived.ChangeMaps5
import Derived.ProofKit
import Derived.OpenShut
import Derived.JoinedCond
import Derived.Deep.DeepHandedRow
import Derived.Deep.DeepWitnessRowRef
import Derived.Lib.LaidTab
import Derived.Lay
import Derived.LaidLaws
import Derived.OwnWalk
import Derived.Deep.RegionHeld
import Derived.OrdersHeld
import Derived.Lib.MinMax
namespace Go.Proofs.YtghcfmoagkimaaaDoor.S6
open Go.RowKit Go.Mem Go.Civil

def inRange (n : Int) : Prop := -9223372036854775808 ≤ n ∧ n ≤ 9223372036854775807
end Go.Proofs.YtghcfmoagkimaaaDoor.S6
namespace Go.Proofs.YtghcfmoagkimaaaDoor.S6
open Go.RowKit Go.Mem Go.Dfm

abbrev Bs := List UInt8
abbrev strV (l : Bs) : Value := .string ⟨l.toArray⟩
theorem str_size (l : Bs) : (⟨l.toArray⟩ : ByteArray).size = l.length := by show l.toArray.size = _; simp
theorem run_add_str {P : Program} (w : World) (a b : Bs) (h : a.length + b.length ≤ 1000000) : (Op.stringOp .add ⟨a.toArray⟩ ⟨b.toArray⟩).run P w = .ok (strV (a ++ b)) w := by
  rw [run_string_add_sum w _ _ (by show a.toArray.size + b.toArray.size ≤ _; simp; omega)]
  show Result.ok (Value.string ((⟨a.toArray⟩ : ByteArray) ++ ⟨b.toArray⟩)) w = .ok (.string ⟨(a ++ b).toArray⟩) w
  congr 2
end Go.Proofs.YtghcfmoagkimaaaDoor.S6
namespace Go.Proofs.YtghcfmoagkimaaaDoor.S6
open Go.RowKit Go.Mem Go.Dfm

theorem fr_below {w w' : World} (h : Below w.heap.size w w') : Fr w w' (fun _ => False) := (Fr.ofBelow h).mono (fun i hi hs => absurd hs (by omega))
end Go.Proofs.YtghcfmoagkimaaaDoor.S6
namespace Go.Proofs.YtghcfmoagkimaaaDoor
open Go.RowKit Go.Mem Go.Lin

abbrev strV (l : Bs) : Value := .string ⟨l.toArray⟩
abbrev intV (n : Int) : Value := .int .i64 n
def ruleC (r : RuleL) : Array Value := #[strV r.name, intV r.fr, intV r.to, intV r.month, intV r.on.k, intV r.on.d, intV r.on.w, intV r.at_.s, intV r.at_.k, intV r.save, strV r.letter]
def eraC (e : EraL) : Array Value := #[intV e.off, intV e.kind, intV e.save, strV e.rules, strV e.format, .bool e.til.has, intV e.til.year, intV e.til.month, intV e.til.on.k, intV e.til.on.d, intV e.til.on.w, intV e.til.at_.s, intV e.til.at_.k]
def lineC (l : LineL) : Array Value := #[intV l.kind, strV l.rule.name, intV l.rule.fr, intV l.rule.to, intV l.rule.month, intV l.rule.on.k, intV l.rule.on.d, intV l.rule.on.w, intV l.rule.at_.s, intV l.rule.at_.k, intV l.rule.save, strV l.rule.letter,
  strV l.name, strV l.target, intV l.era.off, intV l.era.kind, intV l.era.save, strV l.era.rules, strV l.era.format, .bool l.era.til.has, intV l.era.til.year, intV l.era.til.month, intV l.era.til.on.k, intV l.era.til.on.d, intV l.era.til.on.w,
  intV l.era.til.at_.s, intV l.era.til.at_.k, intV l.err, intV l.col]
theorem eqF_cons {P : Program} {d : Nat} {xs ys : Array Value} {f : Field} {fs : List Field} {w : World} {x y : Value} {b c : Bool} (hn : (f.name ≠ "_")) (hx : (part f.type xs f.offset).run P w = .ok x w) (hy : (part f.type ys f.offset).run P w = .ok y w)
    (he : (Op.equalIn d f.type x y).run P w = .ok b w) (hr : (Op.eqFields d xs ys fs).run P w = .ok c w) : (Op.eqFields d xs ys (f :: fs)).run P w = .ok (b && c) w := by
  rw [Op.eqFields, if_pos hn]
  simp only [Sem.run_bind, hx, hy, he, Result.andThen_ok]
  cases b with
  | true => simpa using hr
  | false => simp
theorem eqF_nil {P : Program} {d : Nat} {xs ys : Array Value} {w : World} : (Op.eqFields d xs ys []).run P w = .ok true w := rfl
theorem eqI (d : Nat) (a b : Int) (w : World) : (Op.equalIn (d + 1) 3 (intV a) (intV b)).run Tryd.prog w = .ok (decide (a = b)) w := run_equalIn_int w d 3 .i64 .i64 a b Tryd.underlying3
theorem eqB (d : Nat) (a b : Bool) (w : World) : (Op.equalIn (d + 1) 4 (.bool a) (.bool b)).run Tryd.prog w = .ok (decide (a = b)) w := by
  rw [run_equalIn_bool' w d 4 a b Tryd.underlying4]
  cases a <;> cases b <;> rfl
theorem eqS (d : Nat) (a b : Bs) (w : World) : (Op.equalIn (d + 1) 9 (strV a) (strV b)).run Tryd.prog w = .ok (decide (a = b)) w := by
  rw [run_equalIn_string w d 9 _ _ Tryd.underlying9, ByteArray.toList_eq, ByteArray.toList_eq]
  congr 1
  show (a.toArray.toList == b.toArray.toList) = _
  by_cases h : a = b <;> simp [h]
end Go.Proofs.YtghcfmoagkimaaaDoor
namespace Go.Mem
/-- cells of a row, from a place on, turned into others -/
def setMany : Array Value → Nat → List Value → Array Value
  | cs, _, [] => cs
  | cs, o, v :: vs => setMany (cs.setIfInBounds o v) (o + 1) vs
theorem Blk.many {g : Nat} {t : TypeId} : ∀ (vs : List Value) (o : Nat) (cs : Array Value) (w : World), Blk w g t cs → Blk (w.setCells g o vs) g t (setMany cs o vs)
  | [], _, _, _, h => h
  | v :: vs, o, _, _, h => Blk.many vs (o + 1) _ _ (h.put o v)
theorem Fr.many {g : Nat} : ∀ (vs : List Value) (o : Nat) (w : World), Fr w (w.setCells g o vs) (fun i => i = g)
  | [], _, _ => Fr.refl _ _
  | v :: vs, o, _ => (Fr.set (S := fun i => i = g) (a := ⟨g, o, none⟩) (v := v) rfl).trans (Fr.many vs (o + 1) _) (fun _ _ h => h) (fun _ _ h => h)
section
variable {P : Program} {ops : Array Oper} {rest : List Oper} {o : Oper} {a : Act} {w : World} {Q : Exit → Act → World → Prop}
theorem run_loadVar_blk (w : World) (g off : Nat) (ty t : TypeId) (old cs : Array Value) (d : TypeDesc) (hg : Blk w g t old) (hu : P.underlying ty = some d) (hd : d.isRow = true) (hi : (P.info? ty).map (·.size) = some cs.size)
    (hc : ∀ j, j < cs.size → old[off + j]? = cs[j]?) : (loadVar ty ⟨g, off, none⟩).run P w = .ok (.agg cs) w := by
  have := run_loadVar_mid (P := P) w g off ty cs.toList d (fun j v hv => by
    have hj : j < cs.size := by have := (List.getElem?_eq_some_iff.1 hv).1; simpa using this
    rw [cell_at hg, hc j hj]
    simpa using hv) hu hd (by rw [hi]; simp)
  simpa using this
/-- a struct is loaded out of a row -/
theorem wpList_load_blk (ty : TypeId) (x : Operand) (g off : Nat) (t : TypeId) (old cs : Array Value) (d : TypeDesc) (hgd : Region.wanted o (yielded ops a.tmps) = true) (ho : o.op = .load ty x) (hx : a.eval x = .pointer (some ⟨g, off, none⟩)) (hg : Blk w g t old)
    (hu : P.underlying ty = some d) (hd : d.isRow = true) (hi : (P.info? ty).map (·.size) = some cs.size) (hc : ∀ j, j < cs.size → old[off + j]? = cs[j]?)
    (h : wpList P ops Q rest (a.put o.dst (.agg cs)) w) : wpList P ops Q (o :: rest) a w :=
  wpList_step fun _ hK => by
    rw [if_pos hgd]
    unfold Oper.wp execOp
    simp only [ho, hx, Instr.loadAt, Instr.sureAddr, Sem.run_bind, Sem.run_pure, Result.andThen_ok, run_loadVar_blk w g off ty t old cs d hg hu hd hi hc]
    exact hK _ _ h
/-- a struct is stored into a row: the world behind it is opaque -/
theorem wpList_store_blk (ty : TypeId) (x y : Operand) (g off : Nat) (t : TypeId) (old cells new : Array Value) (hgd : Region.wanted o (yielded ops a.tmps) = true) (ho : o.op = .store ty x y) (hd : o.dst = none) (hx : a.eval x = .pointer (some ⟨g, off, none⟩)) (hy : a.eval y = .agg cells)
    (hg : Blk w g t old) (hi : (P.info? ty).map (·.size) = some cells.size) (h1 : cells.all (·.oneCell') = true) (hfit : off + cells.size ≤ old.size) (hnew : setMany old off cells.toList = new)
    (h : ∀ W, Fr w W (fun i => i = g) → Blk W g t new → wpList P ops Q rest a W) : wpList P ops Q (o :: rest) a w :=
  wpList_step fun _ hK => by
    rw [if_pos hgd]
    have ht : w.there g off cells.size := fun j hj => ⟨by rw [cell_at hg, Array.getElem?_eq_getElem (by omega)]; rfl, free_at hg _⟩
    unfold Oper.wp execOp
    simp only [ho, hx, hy, run_storeAt_mid w g off ty cells ht hi h1, Sem.run_bind, Sem.run_pure, Result.andThen_ok]
    have := hK a _ (h _ (Fr.many cells.toList off w) (by have := Blk.many cells.toList off old w hg; rw [hnew] at this; exact this))
    simpa only [Oper.upon, hd, Act.put] using this
end
end Go.Mem
namespace Go.Proofs.YtghcfmoagkimaaaDoor
open Go.RowKit Go.Mem Go.Lin

/- a line's parts in its cells -/
theorem infoE (e : EraL) : (Tryd.prog.info? 29).map (·.size) = some (eraC e).size := show _ = some 13 by kernel_rfl
theorem many_list : ∀ (vs : List Value) (o : Nat) (cs : Array Value), o + vs.length ≤ cs.size → (setMany cs o vs).toList = cs.toList.take o ++ (vs ++ cs.toList.drop (o + vs.length))
  | [], o, cs, _ => by simp [setMany]
  | v :: vs, o, cs, h => by
    have h : o + (vs.length + 1) ≤ cs.size := h
    rw [setMany, many_list vs (o + 1) _ (by simp; omega)]
    simp only [Array.toList_setIfInBounds, List.length_cons]
    have e1 : (cs.toList.set o v).take (o + 1) = cs.toList.take o ++ [v] := by
      rw [List.take_set, List.take_succ_eq_append_getElem (by simp; omega), List.set_append_right _ _ (by simp; omega)]
      simp
      rw [Nat.min_eq_left (by omega)]
      simp
    have e2 : (cs.toList.set o v).drop (o + 1 + vs.length) = cs.toList.drop (o + (vs.length + 1)) := by
      rw [List.drop_set_of_lt (by omega)]
      congr 1
      omega
    rw [e1, e2, List.append_assoc]
    rfl
theorem many_eq {vs : List Value} {o : Nat} {cs new : Array Value} (h : o + vs.length ≤ cs.size) (hn : cs.toList.take o ++ (vs ++ cs.toList.drop (o + vs.length)) = new.toList) : setMany cs o vs = new :=
  Array.toList_inj.1 ((many_list vs o cs h).trans hn)
/- a rule's, an until's, an era's parts in their cells -/
theorem zero_part (cs : Array Value) : ∀ j, j < cs.size → cs[0 + j]? = cs[j]? := fun j _ => by rw [Nat.zero_add]
theorem put_all {cs ds : Array Value} (h : cs.size = ds.size) : setMany cs 0 ds.toList = ds := many_eq (by simp [h]) (by simp [h])
end Go.Proofs.YtghcfmoagkimaaaDoor
namespace Go.Mem
/- rows of structs -/
theorem flat_get {X : Type} (f : X → List Value) (k : Nat) (hf : ∀ x, (f x).length = k) : ∀ {l : List X} {i : Nat} {x : X}, l[i]? = some x → ∀ j, j < k → (l.flatMap f)[i * k + j]? = (f x)[j]?
  | [], i, x, h, _, _ => by simp at h
  | y :: l, 0, x, h, j, hj => by
    have h : y = x := by simpa using h
    subst h
    rw [List.flatMap_cons, Nat.zero_mul, Nat.zero_add, List.getElem?_append_left (by rw [hf]; exact hj)]
  | y :: l, i + 1, x, h, j, hj => by
    have ih := flat_get f k hf (l := l) (i := i) (x := x) (by simpa using h) j hj
    rw [List.flatMap_cons, show (i + 1) * k + j = (f y).length + (i * k + j) by rw [hf, Nat.add_mul]; omega, List.getElem?_append_right (by omega), Nat.add_sub_cancel_left]
    exact ih
/-- an element of a slice of structs -/
theorem rows_at {X : Type} {f : X → List Value} {k : Nat} (hf : ∀ x, (f x).length = k) {w : World} {A : Option Addr} {l : List X} (h : Rd w k A l.length (l.flatMap f)) {i : Nat} {x : X} (hx : l[i]? = some x) :
    ∃ b off, A = some ⟨b, off, none⟩ ∧ ∀ j, j < k → w.cell? ⟨b, off + i * k + j, none⟩ = (f x)[j]? := by
  have hi := (List.getElem?_eq_some_iff.1 hx).1
  obtain ⟨b, off, e, hc⟩ := h.2 (by omega)
  refine ⟨b, off, e, fun j hj => ?_⟩
  have hg := flat_get f k hf hx j hj
  have hj' : j < (f x).length := by rw [hf]; exact hj
  rw [List.getElem?_eq_getElem hj'] at hg ⊢
  have := hc _ _ hg
  rw [← Nat.add_assoc] at this
  exact this
section
variable {P : Program} {ops : Array Oper} {rest : List Oper} {o : Oper} {a : Act} {w : World} {Q : Exit → Act → World → Prop}
end
theorem blkc {w : World} {g : Nat} {t : TypeId} {cs : Array Value} (h : Blk w g t cs) (i : Nat) (v : Value) (hv : cs[i]? = some v) : w.cell? ⟨g, i, none⟩ = some v := (cell_at h i).trans hv
theorem cell_far {w W : World} {S : Nat → Prop} (hf : Fr w W S) {b i : Nat} {v : Value} (h : w.cell? ⟨b, i, none⟩ = some v) (hs : ¬ S b) : W.cell? ⟨b, i, none⟩ = some v := by
  rw [World.cell?_of_block (w := w) (hf.block b (World.block_lt_of_cell? w _ h) hs)]
  exact h
end Go.Mem
namespace Go.Proofs.YtghcfmoagkimaaaDoor
open Go.RowKit Go.Mem Go.Lin Go.Dcm

/- a document's parts in their cells -/
def lineL (x : LineL) : List Value := (lineC x).toList
def eraL (e : EraL) : List Value := (eraC e).toList
def intL (n : Int) : List Value := [intV n]
/-- a zone, its eras and its lines -/
abbrev ZV := ZoneL × Value × Value
theorem lineL_len (x : LineL) : (lineL x).length = 29 := rfl
/-- v owns a row of structs -/
def Own {X : Type} (w : World) (base : Nat) (e : TypeId) (k : Nat) (f : X → List Value) (v : Value) (l : List X) : Prop := w.ownsRow base e k v l.length (l.flatMap f)
theorem Own.fr {X : Type} {w w' : World} {S : Nat → Prop} {base : Nat} {e : TypeId} {k : Nat} {f : X → List Value} {v : Value} {l : List X} (h : Own w base e k f v l) (hf : Fr w w' S) (hg : ∀ g, v.ownBlock = some g → ¬ S g) : Own w' base e k f v l := hf.own h hg
theorem Own.slice {X : Type} {w : World} {base : Nat} {e : TypeId} {k : Nat} {f : X → List Value} {v : Value} {l : List X} (h : Own w base e k f v l) : ∃ A c, v = .slice A l.length c := own_slice h
/-- the rows of a zone -/
structure ZAt (w : World) (base : Nat) (z : ZV) : Prop where
  e : Own w base 29 13 eraL z.2.1 z.1.eras
  l : Own w base 3 1 intL z.2.2 z.1.lines
end Go.Proofs.YtghcfmoagkimaaaDoor
namespace Go.Proofs.YtghcfmoagkimaaaDoor
open Go.RowKit Go.Mem Go.Lin Go.WideShapes

theorem cells_day : Tryd.prog.cellsOf 23 = 3 := by kernel_rfl
theorem cells_at : Tryd.prog.cellsOf 25 = 2 := by kernel_rfl
theorem cells_til : Tryd.prog.cellsOf 27 = 8 := by kernel_rfl
theorem cells_int : Tryd.prog.cellsOf 3 = 1 := by kernel_rfl
theorem cells_str : Tryd.prog.cellsOf 9 = 1 := by kernel_rfl
theorem cells_bool : Tryd.prog.cellsOf 4 = 1 := by kernel_rfl
section
variable {H : Type} {enc : TypeId × Value → H} {w : World} {base : Nat} {spare : Nat → Bool} {held : Bool}
def inR (n : Int) : Prop := -9223372036854775808 ≤ n ∧ n ≤ 9223372036854775807
theorem leaf_int {n : Nat} {c : Value} {y : DataW H × List MemPlace} (h : DataW.trod enc Tryd.prog w base spare held n 3 [c] = some y) : ∃ a, c = intV a ∧ inR a := by
  obtain ⟨a, e, -, hw⟩ := DataW.trod_int Tryd.underlying3 h
  simp at e
  exact ⟨a, e, by unfold inR; simpa [Lit.wf, IntKind.min, IntKind.max, IntKind.signed, IntKind.bits] using hw⟩
theorem leaf_bool {n : Nat} {c : Value} {y : DataW H × List MemPlace} (h : DataW.trod enc Tryd.prog w base spare held n 4 [c] = some y) : ∃ a, c = .bool a := by
  obtain ⟨a, e, -⟩ := DataW.trod_bool Tryd.underlying4 h
  simp at e
  exact ⟨a, e⟩
theorem leaf_str {n : Nat} {c : Value} {y : DataW H × List MemPlace} (h : DataW.trod enc Tryd.prog w base spare held n 9 [c] = some y) : ∃ a : Bs, c = strV a ∧ a.length ≤ maxLen := by
  obtain ⟨s, e, -, hz⟩ := DataW.trod_string Tryd.underlying9 h
  simp at e
  exact ⟨s.data.toList, e, by rw [Array.length_toList]; exact hz⟩
theorem fld {X : Type} {fs : Array Field} {T : Field → Option X} {xs : List X} (hlen : xs.length = fs.size) (hf : ∀ (i : Nat) (f : Field), fs[i]? = some f → T f = xs[i]?) (i : Nat) (f : Field) (hi : fs[i]? = some f) : ∃ y, T f = some y := by
  have h : i < fs.size := (Array.getElem?_eq_some_iff.1 hi).1
  exact ⟨xs[i]'(by omega), (hf i f hi).trans (List.getElem?_eq_getElem _)⟩
theorem open_day {n : Nat} {c0 c1 c2 : Value} {y : DataW H × List MemPlace} (h : DataW.trod enc Tryd.prog w base spare held n 23 [c0, c1, c2] = some y) :
    ∃ x : DayL, c0 = intV x.k ∧ c1 = intV x.d ∧ c2 = intV x.w ∧ inR x.k ∧ inR x.d ∧ inR x.w := by
  obtain ⟨xs, m, -, -, -, hlen, hf⟩ := DataW.trod_struct Tryd.underlying23 h
  obtain ⟨y0, g0⟩ := fld hlen hf 0 _ rfl
  simp only [List.getElem_toArray, List.getElem_cons_zero, cells_int, List.drop_zero, List.take_succ_cons, List.take_zero] at g0
  obtain ⟨a0, e0, l0⟩ := leaf_int g0
  obtain ⟨y1, g1⟩ := fld hlen hf 1 _ rfl
  simp only [List.getElem_toArray, List.getElem_cons_zero, List.getElem_cons_succ, cells_int, List.drop_succ_cons, List.drop_zero, List.take_succ_cons, List.take_zero] at g1
  obtain ⟨a1, e1, l1⟩ := leaf_int g1
  obtain ⟨y2, g2⟩ := fld hlen hf 2 _ rfl
  simp only [List.getElem_toArray, List.getElem_cons_zero, List.getElem_cons_succ, cells_int, List.drop_succ_cons, List.drop_zero, List.take_succ_cons, List.take_zero] at g2
  obtain ⟨a2, e2, l2⟩ := leaf_int g2
  exact ⟨⟨a0, a1, a2⟩, e0, e1, e2, l0, l1, l2⟩
theorem open_at {n : Nat} {c0 c1 : Value} {y : DataW H × List MemPlace} (h : DataW.trod enc Tryd.prog w base spare held n 25 [c0, c1] = some y) :
    ∃ x : AtL, c0 = intV x.s ∧ c1 = intV x.k ∧ inR x.s ∧ inR x.k := by
  obtain ⟨xs, m, -, -, -, hlen, hf⟩ := DataW.trod_struct Tryd.underlying25 h
  obtain ⟨y0, g0⟩ := fld hlen hf 0 _ rfl
  simp only [List.getElem_toArray, List.getElem_cons_zero, cells_int, List.drop_zero, List.take_succ_cons, List.take_zero] at g0
  obtain ⟨a0, e0, l0⟩ := leaf_int g0
  obtain ⟨y1, g1⟩ := fld hlen hf 1 _ rfl
  simp only [List.getElem_toArray, List.getElem_cons_zero, List.getElem_cons_succ, cells_int, List.drop_succ_cons, List.drop_zero, List.take_succ_cons, List.take_zero] at g1
  obtain ⟨a1, e1, l1⟩ := leaf_int g1
  exact ⟨⟨a0, a1⟩, e0, e1, l0, l1⟩
theorem open_til {n : Nat} {c0 c1 c2 c3 c4 c5 c6 c7 : Value} {y : DataW H × List MemPlace} (h : DataW.trod enc Tryd.prog w base spare held n 27 [c0, c1, c2, c3, c4, c5, c6, c7] = some y) :
    ∃ x : UntilL, c0 = .bool x.has ∧ c1 = intV x.year ∧ c2 = intV x.month ∧ c3 = intV x.on.k ∧ c4 = intV x.on.d ∧ c5 = intV x.on.w ∧ c6 = intV x.at_.s ∧ c7 = intV x.at_.k ∧ inR x.year ∧ inR x.month ∧ inR x.on.k ∧ inR x.on.d ∧ inR x.on.w ∧ inR x.at_.s ∧ inR x.at_.k := by
  obtain ⟨xs, m, -, -, -, hlen, hf⟩ := DataW.trod_struct Tryd.underlying27 h
  obtain ⟨y0, g0⟩ := fld hlen hf 0 _ rfl
  simp only [List.getElem_toArray, List.getElem_cons_zero, cells_bool, List.drop_zero, List.take_succ_cons, List.take_zero] at g0
  obtain ⟨a0, e0⟩ := leaf_bool g0
  obtain ⟨y1, g1⟩ := fld hlen hf 1 _ rfl
  simp only [List.getElem_toArray, List.getElem_cons_zero, List.getElem_cons_succ, cells_int, List.drop_succ_cons, List.drop_zero, List.take_succ_cons, List.take_zero] at g1
  obtain ⟨a1, e1, l1⟩ := leaf_int g1
  obtain ⟨y2, g2⟩ := fld hlen hf 2 _ rfl
  simp only [List.getElem_toArray, List.getElem_cons_zero, List.getElem_cons_succ, cells_int, List.drop_succ_cons, List.drop_zero, List.take_succ_cons, List.take_zero] at g2
  obtain ⟨a2, e2, l2⟩ := leaf_int g2
  obtain ⟨y3, g3⟩ := fld hlen hf 3 _ rfl
  simp only [List.getElem_toArray, List.getElem_cons_zero, List.getElem_cons_succ, cells_day, List.drop_succ_cons, List.drop_zero, List.take_succ_cons, List.take_zero] at g3
  obtain ⟨a3, e3_0, e3_1, e3_2, l3_0, l3_1, l3_2⟩ := open_day g3
  obtain ⟨y4, g4⟩ := fld hlen hf 4 _ rfl
  simp only [List.getElem_toArray, List.getElem_cons_zero, List.getElem_cons_succ, cells_at, List.drop_succ_cons, List.drop_zero, List.take_succ_cons, List.take_zero] at g4
  obtain ⟨a4, e4_0, e4_1, l4_0, l4_1⟩ := open_at g4
  exact ⟨⟨a0, a1, a2, a3, a4⟩, e0, e1, e2, e3_0, e3_1, e3_2, e4_0, e4_1, l1, l2, l3_0, l3_1, l3_2, l4_0, l4_1⟩
theorem open_era {n : Nat} {c0 c1 c2 c3 c4 c5 c6 c7 c8 c9 c10 c11 c12 : Value} {y : DataW H × List MemPlace} (h : DataW.trod enc Tryd.prog w base spare held n 29 [c0, c1, c2, c3, c4, c5, c6, c7, c8, c9, c10, c11, c12] = some y) :
    ∃ x : EraL, c0 = intV x.off ∧ c1 = intV x.kind ∧ c2 = intV x.save ∧ c3 = strV x.rules ∧ c4 = strV x.format ∧ c5 = .bool x.til.has ∧ c6 = intV x.til.year ∧ c7 = intV x.til.month ∧ c8 = intV x.til.on.k ∧ c9 = intV x.til.on.d ∧ c10 = intV x.til.on.w ∧ c11 = intV x.til.at_.s ∧ c12 = intV x.til.at_.k ∧ inR x.off ∧ inR x.kind ∧ inR x.save ∧ x.rules.length ≤ maxLen ∧ x.format.length ≤ maxLen ∧ inR x.til.year ∧ inR x.til.month ∧ inR x.til.on.k ∧ inR x.til.on.d ∧ inR x.til.on.w ∧ inR x.til.at_.s ∧ inR x.til.at_.k := by
  obtain ⟨xs, m, -, -, -, hlen, hf⟩ := DataW.trod_struct Tryd.underlying29 h
  obtain ⟨y0, g0⟩ := fld hlen hf 0 _ rfl
  simp only [List.getElem_toArray, List.getElem_cons_zero, cells_int, List.drop_zero, List.take_succ_cons, List.take_zero] at g0
  obtain ⟨a0, e0, l0⟩ := leaf_int g0
  obtain ⟨y1, g1⟩ := fld hlen hf 1 _ rfl
  simp only [List.getElem_toArray, List.getElem_cons_zero, List.getElem_cons_succ, cells_int, List.drop_succ_cons, List.drop_zero, List.take_succ_cons, List.take_zero] at g1
  obtain ⟨a1, e1, l1⟩ := leaf_int g1
  obtain ⟨y2, g2⟩ := fld hlen hf 2 _ rfl
  simp only [List.getElem_toArray, List.getElem_cons_zero, List.getElem_cons_succ, cells_int, List.drop_succ_cons, List.drop_zero, List.take_succ_cons, List.take_zero] at g2
  obtain ⟨a2, e2, l2⟩ := leaf_int g2
  obtain ⟨y3, g3⟩ := fld hlen hf 3 _ rfl
  simp only [List.getElem_toArray, List.getElem_cons_zero, List.getElem_cons_succ, cells_str, List.drop_succ_cons, List.drop_zero, List.take_succ_cons, List.take_zero] at g3
  obtain ⟨a3, e3, l3⟩ := leaf_str g3
  obtain ⟨y4, g4⟩ := fld hlen hf 4 _ rfl
  simp only [List.getElem_toArray, List.getElem_cons_zero, List.getElem_cons_succ, cells_str, List.drop_succ_cons, List.drop_zero, List.take_succ_cons, List.take_zero] at g4
  obtain ⟨a4, e4, l4⟩ := leaf_str g4
  obtain ⟨y5, g5⟩ := fld hlen hf 5 _ rfl
  simp only [List.getElem_toArray, List.getElem_cons_zero, List.getElem_cons_succ, cells_til, List.drop_succ_cons, List.drop_zero, List.take_succ_cons, List.take_zero] at g5
  obtain ⟨a5, e5_0, e5_1, e5_2, e5_3, e5_4, e5_5, e5_6, e5_7, l5_0, l5_1, l5_2, l5_3, l5_4, l5_5, l5_6⟩ := open_til g5
  exact ⟨⟨a0, a1, a2, a3, a4, a5⟩, e0, e1, e2, e3, e4, e5_0, e5_1, e5_2, e5_3, e5_4, e5_5, e5_6, e5_7, l0, l1, l2, l3, l4, l5_0, l5_1, l5_2, l5_3, l5_4, l5_5, l5_6⟩
end
end Go.Proofs.YtghcfmoagkimaaaDoor
namespace Go.Proofs.YtghcfmoagkimaaaDoor
open Go.RowKit Go.Mem Go.Lin Go.WideShapes Go.Xpd

/- rules in their cells -/
def ruleA11 (r : RuleL) : List Value := (ruleC r).toList
theorem ruleA11_len (r : RuleL) : (ruleA11 r).length = 11 := rfl
instance : Inhabited RuleL := ⟨⟨[], 0, 0, 0, ⟨0, 0, 0⟩, ⟨0, 0⟩, 0, []⟩⟩
/-- a slice of rules -/
def RusAt (w : World) (A : Option Addr) (l : List RuleL) : Prop := Rd w 11 A l.length (l.flatMap ruleA11)
/-- the cells of a rule -/
theorem RusAt.at_ {w : World} {A : Option Addr} {l : List RuleL} (h : RusAt w A l) {i : Nat} {r : RuleL} (hr : l[i]? = some r) : ∃ b off, A = some ⟨b, off, none⟩ ∧ ∀ j, j < (ruleC r).size → w.cell? ⟨b, off + i * 11 + j, none⟩ = (ruleC r)[j]? := by
  obtain ⟨b, off, e, hc⟩ := rows_at ruleA11_len h hr
  refine ⟨b, off, e, fun j hj => ?_⟩
  rw [hc j hj]
  show (ruleC r).toList[j]? = _
  simp
end Go.Proofs.YtghcfmoagkimaaaDoor
namespace Go.Proofs.YtghcfmoagkimaaaDoor
open Go.RowKit Go.Mem Go.Lin Go.Xpd

/- fires in their cells -/
def fireC (f : FireL) : Array Value := #[intV f.i, intV f.y, intV f.at_, intV f.bef]
def fireL (f : FireL) : List Value := (fireC f).toList
theorem fireL_len (f : FireL) : (fireL f).length = 4 := rfl
theorem ff4 {a c d : World} (h : Fr a c (fun _ => False)) (h2 : Fr c d (fun _ => False)) : Fr a d (fun _ => False) := h.trans h2 (fun _ _ h => h) (fun _ _ h => h)
end Go.Proofs.YtghcfmoagkimaaaDoor
namespace Go.Proofs.YtghcfmoagkimaaaDoor
open Go.RowKit Go.Mem Go.Lin Go.Fmx

/-- the library's greatest length for a quick search is some number -/
def MOk (w : World) : Prop := ∃ m, w.cell? ⟨0, 0, none⟩ = some (.int .i64 m)
theorem MOk.fr {w w' : World} (h : MOk w) (f : Fr w w' (fun _ => False)) : MOk w' := h.elim fun m hm => ⟨m, f.cell0 hm⟩
theorem contains16_any (s t : Bs) (hs : s.length ≤ 1000000) (ht : t ≠ []) (w : World) (hw : MOk w) : Calls Tryd.prog 17 #[strV s, strV t] w fun e w' => e = .returned (.bool (findD s t).isSome) ∧ w' = w := by
  obtain ⟨m, hm⟩ := hw
  rw [← contains_find ht]
  exact Tryd.strings_Contains ⟨s.toArray⟩ ⟨t.toArray⟩ m w (by rw [S6.str_size]; omega) hm
theorem cut16_any (s t : Bs) (i : Nat) (hs : s.length ≤ 1000000) (ht : t ≠ []) (h : findD s t = some i) (w : World) (hw : MOk w) : Calls Tryd.prog 32 #[strV s, strV t] w fun e w' => e = .returned (.tuple #[strV (s.take i), strV (s.drop (i + t.length)), .bool true]) ∧ Fr w w' (fun _ => False) := by
  obtain ⟨m, hm⟩ := hw
  have e := cut_find ht h
  have H := Tryd.strings_Cut ⟨s.toArray⟩ ⟨t.toArray⟩ m w (by rw [S6.str_size]; omega) hm
  rw [show Go.Lib.cut (⟨s.toArray⟩ : ByteArray).data.toList (⟨t.toArray⟩ : ByteArray).data.toList = _ from e] at H
  refine H.mono ?_
  rintro q w2 ⟨rfl, n, rfl⟩
  exact ⟨rfl, Fr.drewN _ _ _⟩
theorem replace16_any (s t n : Bs) (i : Nat) (hs : s.length ≤ 1000) (hn : n.length ≤ 1000) (ht : t ≠ []) (h : findD s t = some i) (w : World) (hw : MOk w) : Calls Tryd.prog 18 #[strV s, strV t, strV n, .int .i64 1] w fun e w' => e = .returned (strV (s.take i ++ n ++ s.drop (i + t.length))) ∧ Fr w w' (fun _ => False) := by
  obtain ⟨m, hm⟩ := hw
  have e := replace_find (n := n) ht h
  have h1 : 1 ≤ (⟨t.toArray⟩ : ByteArray).size := by
    rw [S6.str_size]
    cases t with
    | nil => exact absurd rfl ht
    | cons x y => simp
  have hc : Go.Lib.countB (⟨s.toArray⟩ : ByteArray) (⟨t.toArray⟩ : ByteArray) ≤ 1001 := by
    have := count_le (s.length + 1) s t
    show Go.Lib.countFrom t (s.length + 1) s ≤ 1001
    omega
  have hm2 : Go.Lib.countB (⟨s.toArray⟩ : ByteArray) (⟨t.toArray⟩ : ByteArray) * n.length ≤ 1001 * 1000 := Nat.mul_le_mul hc hn
  have H := Tryd.strings_Replace ⟨s.toArray⟩ ⟨t.toArray⟩ ⟨n.toArray⟩ 1 m w (by rw [S6.str_size]; omega) hm h1 (by rw [S6.str_size, S6.str_size]; omega)
  rw [show Go.Lib.replace (⟨s.toArray⟩ : ByteArray).data.toList (⟨t.toArray⟩ : ByteArray).data.toList (⟨n.toArray⟩ : ByteArray).data.toList 1 = _ from e] at H
  refine H.mono ?_
  rintro q w2 ⟨rfl, hb⟩
  exact ⟨rfl, S6.fr_below hb⟩
end Go.Proofs.YtghcfmoagkimaaaDoor
namespace Go.Proofs.YtghcfmoagkimaaaDoor
open Go.ChangeShapes Go.WideShapes Go.ChangeAt Go.RowKit Go.Mem

theorem own : ownKnob Tryd.prog.godebug = none := by kernel_rfl
theorem laidOut : laidOutB Tryd.prog = true := by kernel_rfl
abbrev theList : List (String × DataW Unit) := [("unicode/utf8.acceptRanges", Rows.laid_unicode_utf8_acceptRanges), ("unicode/utf8.first", Rows.laid_unicode_utf8_first)]

theorem mok {W : World} (h : W.ShapedOpen Tryd.prog) : MOk W :=
  Go.Proofs.cell_of_shapedOpen_int (zero := #[.int .i64 0]) (t := 3) h (of_decide_eq_true (by kernel_rfl)) (by kernel_rfl) rfl (by kernel_rfl) (by kernel_rfl) Tryd.underlying3
theorem laid_met (os : Os) (args : Array Value) : laidMet Tryd.prog theList ((World.laidAll Tryd.prog os theList).forCall (fun _ _ => 0) ⟨#[], args, []⟩).memory :=
  laidMet_laidAll args (by kernel_rfl) (by kernel_rfl)
end Go.Proofs.YtghcfmoagkimaaaDoor
namespace Go.Proofs.YtghcfmoagkimaaaDoor
open Go.RowKit Go.Mem Go.Lin Go.Dcm

theorem own_block {X : Type} {w : World} {b : Nat} {e : TypeId} {k : Nat} {f : X → List Value} {v : Value} {l : List X} (h : Own w b e k f v l) {g : Nat} (hg : v.ownBlock = some g) : b ≤ g ∧ g < w.heap.size ∧ ∃ cs, Blk w g e cs := by
  obtain ⟨h1, h2⟩ := h.lt g hg
  refine ⟨h1, h2, ?_⟩
  rcases h.2 with ⟨rfl, _⟩ | ⟨g', cap, cur, rfl, _, hh, _⟩
  · simp [Value.ownBlock] at hg
  · have : g' = g := by simpa [Value.ownBlock] using hg
    subst this
    exact ⟨cur, hh⟩
/- zones -/
theorem ZAt.fr {w w' : World} {S : Nat → Prop} {base : Nat} {z : ZV} (h : ZAt w base z) (hf : Fr w w' S) (h1 : ∀ k cs, base ≤ k → Blk w k 29 cs → ¬ S k) (h2 : ∀ k cs, base ≤ k → Blk w k 3 cs → ¬ S k) : ZAt w' base z := by
  refine ⟨h.e.fr hf fun g hg => ?_, h.l.fr hf fun g hg => ?_⟩
  · obtain ⟨hb, -, cs, hk⟩ := own_block h.e hg
    exact h1 g cs hb hk
  · obtain ⟨hb, -, cs, hk⟩ := own_block h.l hg
    exact h2 g cs hb hk
end Go.Proofs.YtghcfmoagkimaaaDoor
namespace Go.Proofs.YtghcfmoagkimaaaDoor
open Go.RowKit Go.Mem
/- append(append(append([]T{}, x[:n]...), e), x[n:]...) in a region that draws its order -/
section
variable {P : Program} {ops : Array Oper} {Q : Exit → Act → World → Prop} {md : Region.Mode} {S : World → Prop}
theorem at_store4 {rest : List Oper} {d : Option Tmp} {x y : Operand} {ty : TypeId} {pos : String} {af : Array Edge} {g : Option (Nat × Bool)} {a : Act} {w : World} (t : TypeId) (h : wpList P ops Q (⟨d, .store t x y, ty, pos, af, g⟩ :: rest) a w) : wpList P ops Q (⟨d, .store t x y, ty, pos, af, g⟩ :: rest) a w := h
end
end Go.Proofs.YtghcfmoagkimaaaDoor
namespace Go.Proofs.YtghcfmoagkimaaaDoor
open Go.RowKit Go.Mem Go.Lin Go.Xpd

theorem FiresAt.at_ {w : World} {A : Option Addr} {l : List FireL} (h : Rd w 4 A l.length (l.flatMap fireL)) {i : Nat} {f : FireL} (hf : l[i]? = some f) : ∃ b off, A = some ⟨b, off, none⟩ ∧ ∀ j, j < (fireC f).size → w.cell? ⟨b, off + i * 4 + j, none⟩ = (fireC f)[j]? := by
  obtain ⟨b, off, e, hc⟩ := rows_at fireL_len h hf
  refine ⟨b, off, e, fun j hj => ?_⟩
  rw [hc j hj]
  show (fireC f).toList[j]? = _
  simp
end Go.Proofs.YtghcfmoagkimaaaDoor
namespace Go.Proofs.YtghcfmoagkimaaaDoor
open Go.RowKit Go.Mem Go.Lin Go.WideShapes Go.Xpd Go.Den

/- eras in their cells -/
def eraA (e : EraL) : List Value := (eraC e).toList
theorem eraA_len (e : EraL) : (eraA e).length = 13 := rfl
instance : Inhabited EraL := ⟨⟨0, 0, 0, [], [], ⟨false, 0, 0, ⟨0, 0, 0⟩, ⟨0, 0⟩⟩⟩⟩
/-- a slice of eras -/
def ErasAt (w : World) (A : Option Addr) (l : List EraL) : Prop := Rd w 13 A l.length (l.flatMap eraA)
theorem ErasAt.at_ {w : World} {A : Option Addr} {l : List EraL} (h : ErasAt w A l) {i : Nat} {r : EraL} (hr : l[i]? = some r) : ∃ b off, A = some ⟨b, off, none⟩ ∧ ∀ j, j < (eraC r).size → w.cell? ⟨b, off + i * 13 + j, none⟩ = (eraC r)[j]? := by
  obtain ⟨b, off, e, hc⟩ := rows_at eraA_len h hr
  refine ⟨b, off, e, fun j hj => ?_⟩
  rw [hc j hj]
  show (eraC r).toList[j]? = _
  simp
theorem array13 {α : Type} {cs : Array α} (h : cs.size = 13) : ∃ c0 c1 c2 c3 c4 c5 c6 c7 c8 c9 c10 c11 c12, cs = #[c0, c1, c2, c3, c4, c5, c6, c7, c8, c9, c10, c11, c12] := by
  obtain ⟨l⟩ := cs
  match l, h with
  | [c0, c1, c2, c3, c4, c5, c6, c7, c8, c9, c10, c11, c12], _ => exact ⟨c0, c1, c2, c3, c4, c5, c6, c7, c8, c9, c10, c11, c12, rfl⟩
/-- numbers that an int can be, texts that a string can be -/
structure EraR (e : EraL) : Prop where
  off : inR e.off
  kind : inR e.kind
  save : inR e.save
  rules : e.rules.length ≤ maxLen
  format : e.format.length ≤ maxLen
  year : inR e.til.year
  month : inR e.til.month
  k : inR e.til.on.k
  d : inR e.til.on.d
  w : inR e.til.on.w
  s : inR e.til.at_.s
  tk : inR e.til.at_.k
/- slices of rules, as a slice holds them -/
structure RuV where
  A : Option Addr
  c : Nat
  l : List RuleL
instance : Inhabited RuV := ⟨⟨none, 0, []⟩⟩
def ruvL (v : RuV) : List Value := [.slice v.A v.l.length v.c]
theorem ruvL_len (v : RuV) : (ruvL v).length = 1 := rfl
structure RusIn (w : World) (B : Option Addr) (Z : List RuV) : Prop where
  r : Rd w 1 B Z.length (Z.flatMap ruvL)
  e : ∀ v ∈ Z, RusAt w v.A v.l
theorem RusIn.at_ {w : World} {B : Option Addr} {Z : List RuV} (h : RusIn w B Z) {i : Nat} {v : RuV} (hv : Z[i]? = some v) : ∃ b off, B = some ⟨b, off, none⟩ ∧ w.cell? ⟨b, off + i, none⟩ = some (.slice v.A v.l.length v.c) ∧ RusAt w v.A v.l := by
  obtain ⟨b, off, e, hc⟩ := rows_at ruvL_len h.r hv
  have := hc 0 (by omega)
  rw [Nat.mul_one, Nat.add_zero] at this
  exact ⟨b, off, e, this, h.e v (List.mem_of_getElem? hv)⟩
end Go.Proofs.YtghcfmoagkimaaaDoor
namespace Go.Proofs.YtghcfmoagkimaaaDoor
open Go.RowKit Go.Mem Go.Lin Go.Xpd

/-- what Light asks of a rule -/
def OkF (r : RuleL) : Prop := -700000 ≤ r.at_.s ∧ r.at_.s ≤ 700000 ∧ -100000 ≤ r.save ∧ r.save ≤ 100000 ∧ r.letter.length ≤ 50 ∧ -20000 ≤ r.fr ∧ r.fr ≤ 20000 ∧ -20000 ≤ r.to ∧ r.to ≤ 20000
instance (r : RuleL) : Decidable (OkF r) := by unfold OkF; infer_instance
def LightP (l : List RuleL) (n : Nat) : Prop := l.length ≤ n ∧ ∀ r ∈ l, OkF r
instance (l : List RuleL) (n : Nat) : Decidable (LightP l n) := by unfold LightP; infer_instance
end Go.Proofs.YtghcfmoagkimaaaDoor
namespace Go.Proofs.YtghcfmoagkimaaaDoor
open Go.RowKit Go.Mem Go.Lin Go.Xpd

section
variable {P : Program} {ops : Array Oper} {rest : List Oper} {a : Act} {w : World} {Q : Exit → Act → World → Prop}
theorem at_load4 {d : Option Tmp} {x : Operand} {ty : TypeId} {pos : String} {af : Array Edge} {g : Option (Nat × Bool)} (t : TypeId) (h : wpList P ops Q (⟨d, .load t x, ty, pos, af, g⟩ :: rest) a w) : wpList P ops Q (⟨d, .load t x, ty, pos, af, g⟩ :: rest) a w := h
end
/- a seat in its cells -/
def f0 : FireL := ⟨0, 0, 0, 0⟩
end Go.Proofs.YtghcfmoagkimaaaDoor
namespace Go.Proofs.YtghcfmoagkimaaaDoor
open Go.RowKit Go.Mem Go.Lin Go.Dcm

/-- a slice of lines -/
def LinesAt (w : World) (A : Option Addr) (l : List LineL) : Prop := Rd w 29 A l.length (l.flatMap lineL)
theorem LinesAt.at_ {w : World} {A : Option Addr} {l : List LineL} (h : LinesAt w A l) {i : Nat} (hi : i < l.length) : ∃ b off, A = some ⟨b, off, none⟩ ∧ ∀ j, j < (lineC l[i]).size → w.cell? ⟨b, off + i * 29 + j, none⟩ = (lineC l[i])[j]? := by
  obtain ⟨b, off, e, hc⟩ := rows_at lineL_len h (List.getElem?_eq_getElem hi)
  refine ⟨b, off, e, fun j hj => ?_⟩
  rw [hc j hj]
  show (lineC l[i]).toList[j]? = _
  simp
end Go.Proofs.YtghcfmoagkimaaaDoor
namespace Go.Mem
open Go.RowKit
section
variable {P : Program} {ops : Array Oper} {rest : List Oper} {o : Oper} {a : Act} {w : World} {Q : Exit → Act → World → Prop}
/-- a struct is put together -/
theorem wpList_build1 (t : TypeId) (parts : Array (Nat × Operand)) (v : Value) (hgd : Region.wanted o (yielded ops a.tmps) = true) (ho : o.op = .build t parts) (h : ∀ w, (Instr.build t (parts.map fun (i, x) => (i, a.eval x))).run P w = .ok v w)
    (hK : wpList P ops Q rest (a.put o.dst v) w) : wpList P ops Q (o :: rest) a w :=
  wpList_step fun _ hk => by
    rw [if_pos hgd]
    unfold Oper.wp execOp
    simp only [ho, Sem.run_bind, h, Sem.run_pure, Result.andThen_ok]
    exact hk _ _ hK
end
end Go.Mem
namespace Go.Proofs.YtghcfmoagkimaaaDoor
open Go.RowKit Go.Mem Go.Lin Go.Dcm
namespace R
end R
end Go.Proofs.YtghcfmoagkimaaaDoor
namespace Go.Proofs.YtghcfmoagkimaaaDoor
open Go.RowKit Go.Mem Go.Lin Go.Xpd Go.Den

/- a zone in its cells -/
structure ZnV where
  Ae : Option Addr
  ce : Nat
  eras : List EraL
  Ar : Option Addr
  cr : Nat
  Z : List RuV
/-- what Light asks of an era -/
def OkE (e : EraL) : Prop := -100000 ≤ e.off ∧ e.off ≤ 100000 ∧ -100000 ≤ e.save ∧ e.save ≤ 100000 ∧ -700000 ≤ e.til.at_.s ∧ e.til.at_.s ≤ 700000 ∧ e.rules.length ≤ 100 ∧ e.format.length ≤ 100
instance (e : EraL) : Decidable (OkE e) := by unfold OkE; infer_instance
def LightZ (v : ZnV) : Prop := v.eras.length ≤ 10 ∧ v.Z.length ≤ 10 ∧ (∀ x ∈ v.Z, LightP x.l 6) ∧ ∀ e ∈ v.eras, OkE e
instance (v : ZnV) : Decidable (LightZ v) := by unfold LightZ; infer_instance
end Go.Proofs.YtghcfmoagkimaaaDoor
namespace Go.Proofs.YtghcfmoagkimaaaDoor
open Go.RowKit Go.Mem Go.Lin Go.Xpd Go.Den

/- a state in its cells -/
def stateC (s : StateD) : Array Value := #[intV s.era, intV s.save, strV s.letter]
abbrev stateV (s : StateD) : Value := .agg (stateC s)
theorem infoSt (s : StateD) : (Tryd.prog.info? 31).map (·.size) = some (stateC s).size := show _ = some 3 by kernel_rfl
end Go.Proofs.YtghcfmoagkimaaaDoor
namespace Go.Proofs.YtghcfmoagkimaaaDoor
open Go.RowKit Go.Mem Go.Lin Go.WideShapes Go.Xpd Go.Den

/- an era, and a state, that come in -/
theorem cells_era1 : Tryd.prog.cellsOf 29 = 13 := by kernel_rfl
theorem cells_st1 : Tryd.prog.cellsOf 31 = 3 := by kernel_rfl
theorem array3' {α : Type} {cs : Array α} (h : cs.size = 3) : ∃ c0 c1 c2, cs = #[c0, c1, c2] := by
  obtain ⟨l⟩ := cs
  match l, h with
  | [c0, c1, c2], _ => exact ⟨c0, c1, c2, rfl⟩
section
variable {H : Type} {enc : TypeId × Value → H} {w : World} {base : Nat} {spare : Nat → Bool} {held : Bool}
set_option maxRecDepth 100000 in
theorem open_er {r : Reach} {b0 : Nat} {v : Value} {d : DataW H} {p : List MemPlace} (hv : Value.okWide Tryd.prog w r b0 29 v) (h : DataW.Trod enc Tryd.prog w base spare held 29 v d p) :
    ∃ x : EraL, v = .agg (eraC x) ∧ EraR x := by
  obtain ⟨cs, rfl, hsz⟩ := okWide_struct Tryd.underlying29 hv
  obtain ⟨c0, c1, c2, c3, c4, c5, c6, c7, c8, c9, c10, c11, c12, rfl⟩ := array13 (hsz.trans cells_era1)
  obtain ⟨fuel, hf⟩ := h
  have hf : DataW.trod enc Tryd.prog w base spare held fuel 29 [c0, c1, c2, c3, c4, c5, c6, c7, c8, c9, c10, c11, c12] = some (d, p) := by simpa [Value.cells] using hf
  obtain ⟨x, e0, e1, e2, e3, e4, e5, e6, e7, e8, e9, e10, e11, e12, g0, g1, g2, g3, g4, g5, g6, g7, g8, g9, g10, g11⟩ := open_era hf
  subst e0 e1 e2 e3 e4 e5 e6 e7 e8 e9 e10 e11 e12
  exact ⟨x, rfl, g0, g1, g2, g3, g4, g5, g6, g7, g8, g9, g10, g11⟩
set_option maxRecDepth 100000 in
theorem open_st {r : Reach} {b0 : Nat} {v : Value} {d : DataW H} {p : List MemPlace} (hv : Value.okWide Tryd.prog w r b0 31 v) (h : DataW.Trod enc Tryd.prog w base spare held 31 v d p) :
    ∃ x : StateD, v = .agg (stateC x) ∧ inR x.era ∧ inR x.save ∧ x.letter.length ≤ maxLen := by
  obtain ⟨cs, rfl, hsz⟩ := okWide_struct Tryd.underlying31 hv
  obtain ⟨c0, c1, c2, rfl⟩ := array3' (hsz.trans cells_st1)
  obtain ⟨fuel, hf⟩ := h
  have hf : DataW.trod enc Tryd.prog w base spare held fuel 31 [c0, c1, c2] = some (d, p) := by simpa [Value.cells] using hf
  obtain ⟨xs, m, -, -, -, hlen, hf⟩ := DataW.trod_struct Tryd.underlying31 hf
  obtain ⟨y0, g0⟩ := fld hlen hf 0 _ rfl
  simp only [List.getElem_toArray, List.getElem_cons_zero, cells_int, List.drop_zero, List.take_succ_cons, List.take_zero] at g0
  obtain ⟨a0, e0, l0⟩ := leaf_int g0
  obtain ⟨y1, g1⟩ := fld hlen hf 1 _ rfl
  simp only [List.getElem_toArray, List.getElem_cons_zero, List.getElem_cons_succ, cells_int, List.drop_succ_cons, List.drop_zero, List.take_succ_cons, List.take_zero] at g1
  obtain ⟨a1, e1, l1⟩ := leaf_int g1
  obtain ⟨y2, g2⟩ := fld hlen hf 2 _ rfl
  simp only [List.getElem_toArray, List.getElem_cons_zero, List.getElem_cons_succ, cells_str, List.drop_succ_cons, List.drop_zero, List.take_succ_cons, List.take_zero] at g2
  obtain ⟨a2, e2, l2⟩ := leaf_str g2
  subst e0 e1 e2
  exact ⟨⟨a0, a1, a2⟩, rfl, l0, l1, l2⟩
end
end Go.Proofs.YtghcfmoagkimaaaDoor
namespace Go.Proofs.YtghcfmoagkimaaaDoor
open Go.RowKit Go.Mem Go.Lin Go.Fmx

theorem text_two16 (n : Int) (a : Nat) (hn : n = (a : Int)) (ha : a < 100) : text [48 + n / 10 % 10, 48 + n % 10] = ⟨(Go.Clk.twoL a).toArray⟩ := by
  have e1 : (48 + n / 10 % 10).toNat = 48 + a / 10 := by omega
  have e2 : (48 + n % 10).toNat = 48 + a % 10 := by omega
  simp [text, e1, e2, Go.Clk.twoL, Go.Clk.chr]
  rfl
theorem r16two_any (n : Int) (a : Nat) (hn : n = (a : Int)) (ha : a < 100) (w : World) : Calls Tryd.prog 22 #[.int .i64 n] w fun e w' => e = .returned (strV (Go.Clk.twoL a)) ∧ Fr w w' (fun _ => False) := by
  have hcv := fun (w : World) => run_text (P := Tryd.prog) (w.alloc (.cells #[.int .u8 (48 + n / 10 % 10), .int .u8 (48 + n % 10)] 5)) 55 9 5 Tryd.underlying55 Tryd.underlying5 Tryd.underlying9 ⟨w.heap.size, 0, none⟩ 2 2 [48 + n / 10 % 10, 48 + n % 10] (rd_new w 5 (0, 0) [.int .u8 (48 + n / 10 % 10), .int .u8 (48 + n % 10)])
  rw [text_two16 n a hn ha] at hcv
  generalize Go.Clk.twoL a = T at hcv ⊢
  have b1 : 0 ≤ n := by omega
  have b2 : n < 100 := by omega
  clear hn ha
  go_enter Tryd.func22, Tryd.ntmps22
  go_wp2_with fail
  go_ret
  exact ⟨rfl, Fr.new _ _ _⟩
end Go.Proofs.YtghcfmoagkimaaaDoor
namespace Go.Proofs.YtghcfmoagkimaaaDoor
open Go.RowKit Go.Mem Go.Lin Go.Fmx

theorem digN_0 {a : Nat} (h1 : a % 3600 = 0) : digN a = Go.Clk.twoL (a / 3600) := by
  unfold digN
  rw [if_pos h1, if_pos (by omega), List.append_nil, List.append_nil]
theorem digN_1 {a : Nat} (h1 : a % 3600 ≠ 0) (h2 : a % 60 = 0) : digN a = Go.Clk.twoL (a / 3600) ++ Go.Clk.twoL (a / 60 % 60) := by
  unfold digN
  rw [if_neg h1, if_pos h2, List.append_nil]
theorem digN_2 {a : Nat} (h1 : a % 3600 ≠ 0) (h2 : a % 60 ≠ 0) : digN a = Go.Clk.twoL (a / 3600) ++ (Go.Clk.twoL (a / 60 % 60) ++ Go.Clk.twoL (a % 60)) := by
  unfold digN
  rw [if_neg h1, if_neg h2]
theorem digD_neg {n : Int} (h : n < 0) : digD n = 45 :: digN n.natAbs := by unfold digD; rw [if_pos h]
theorem digD_pos {n : Int} (h : ¬ n < 0) : digD n = 43 :: digN n.natAbs := by unfold digD; rw [if_neg h]
set_option maxHeartbeats 3200000 in
theorem r16dig_any (n : Int) (h1 : -180000 ≤ n) (h2 : n ≤ 180000) (w : World) : Calls Tryd.prog 15 #[.int .i64 n] w fun e w' => e = .returned (strV (digD n)) ∧ Fr w w' (fun _ => False) := by
  obtain ⟨a, ha⟩ : ∃ a, n.natAbs = a := ⟨_, rfl⟩
  have l1 : ∀ x, (Go.Clk.twoL x).length = 2 := fun _ => rfl
  by_cases hneg : n < 0
  · by_cases hq : a % 3600 = 0
    · obtain ⟨m, hm⟩ : ∃ m, -n = m := ⟨_, rfl⟩
      have b1 : 0 ≤ m := by omega
      have b2 : m ≤ 180000 := by omega
      have H1 := Lib.hid (fun w => r16two_any (m / 3600) (a / 3600) (by omega) (by omega) w)
      have hD := digD_neg hneg
      rw [ha, digN_0 hq] at hD
      rw [hD]
      have t1 : (m % 3600 != 0) = false := by rw [bne_eq_false_iff_eq]; omega
      have t2 : (m % 60 != 0) = false := by rw [bne_eq_false_iff_eq]; omega
      have t3 : (m % 3600 == 0) = true := by rw [beq_iff_eq]; omega
      have t4 : (m % 60 == 0) = true := by rw [beq_iff_eq]; omega
      have x1 := l1 (a / 3600)
      clear hD hq l1
      generalize Go.Clk.twoL (a / 3600) = T1 at *
      have a1 := fun w => S6.run_add_str (P := Tryd.prog) w [45] T1 (by simp; omega)
      simp only [List.cons_append, List.nil_append] at a1 ⊢
      have HM := Lib.hid hm
      clear h1 h2 ha x1
      go_enter Tryd.func15, Tryd.ntmps15
      go_wp2_with fail
      refine (H1.out _).mono ?_
      rintro e w1 ⟨rfl, hf1⟩
      go_wp2_with fail
      go_ret
      exact ⟨rfl, hf1⟩
    · by_cases hs : a % 60 = 0
      · obtain ⟨m, hm⟩ : ∃ m, -n = m := ⟨_, rfl⟩
        have b1 : 0 ≤ m := by omega
        have b2 : m ≤ 180000 := by omega
        have H1 := Lib.hid (fun w => r16two_any (m / 3600) (a / 3600) (by omega) (by omega) w)
        have H2 := Lib.hid (fun w => r16two_any (m / 60 % 60) (a / 60 % 60) (by omega) (by omega) w)
        have hD := digD_neg hneg
        rw [ha, digN_1 hq hs] at hD
        rw [hD]
        have t1 : (m % 3600 != 0) = true := by rw [bne_iff_ne]; omega
        have t2 : (m % 60 != 0) = false := by rw [bne_eq_false_iff_eq]; omega
        have t3 : (m % 3600 == 0) = false := by rw [beq_eq_false_iff_ne]; omega
        have t4 : (m % 60 == 0) = true := by rw [beq_iff_eq]; omega
        have x1 := l1 (a / 3600)
        have x2 := l1 (a / 60 % 60)
        clear hD hq l1 hs
        generalize Go.Clk.twoL (a / 3600) = T1 at *
        generalize Go.Clk.twoL (a / 60 % 60) = T2 at *
        have a1 := fun w => S6.run_add_str (P := Tryd.prog) w [45] T1 (by simp; omega)
        have a2 := fun w => S6.run_add_str (P := Tryd.prog) w (45 :: T1) T2 (by simp; omega)
        simp only [List.cons_append, List.nil_append] at a1 a2 ⊢
        have HM := Lib.hid hm
        clear h1 h2 ha x1 x2
        go_enter Tryd.func15, Tryd.ntmps15
        go_wp2_with fail
        refine (H1.out _).mono ?_
        rintro e w1 ⟨rfl, hf1⟩
        go_wp2_with fail
        refine (H2.out _).mono ?_
        rintro e w2 ⟨rfl, hf2⟩
        go_wp2_with fail
        go_ret
        exact ⟨rfl, ff4 hf1 hf2⟩
      · obtain ⟨m, hm⟩ : ∃ m, -n = m := ⟨_, rfl⟩
        have b1 : 0 ≤ m := by omega
        have b2 : m ≤ 180000 := by omega
        have H1 := Lib.hid (fun w => r16two_any (m / 3600) (a / 3600) (by omega) (by omega) w)
        have H2 := Lib.hid (fun w => r16two_any (m / 60 % 60) (a / 60 % 60) (by omega) (by omega) w)
        have H3 := Lib.hid (fun w => r16two_any (m % 60) (a % 60) (by omega) (by omega) w)
        have hD := digD_neg hneg
        rw [ha, digN_2 hq hs] at hD
        rw [hD]
        have t1 : (m % 3600 != 0) = true := by rw [bne_iff_ne]; omega
        have t2 : (m % 60 != 0) = true := by rw [bne_iff_ne]; omega
        have t3 : (m % 3600 == 0) = false := by rw [beq_eq_false_iff_ne]; omega
        have t4 : (m % 60 == 0) = false := by rw [beq_eq_false_iff_ne]; omega
        have x1 := l1 (a / 3600)
        have x2 := l1 (a / 60 % 60)
        have x3 := l1 (a % 60)
        clear hD hq l1 hs
        generalize Go.Clk.twoL (a / 3600) = T1 at *
        generalize Go.Clk.twoL (a / 60 % 60) = T2 at *
        generalize Go.Clk.twoL (a % 60) = T3 at *
        have a1 := fun w => S6.run_add_str (P := Tryd.prog) w [45] T1 (by simp; omega)
        have a2 := fun w => S6.run_add_str (P := Tryd.prog) w (45 :: T1) T2 (by simp; omega)
        have a3 := fun w => S6.run_add_str (P := Tryd.prog) w (45 :: (T1 ++ T2)) T3 (by simp; omega)
        simp only [List.cons_append, List.nil_append, List.append_assoc] at a1 a2 a3 ⊢
        have HM := Lib.hid hm
        clear h1 h2 ha x1 x2 x3
        go_enter Tryd.func15, Tryd.ntmps15
        go_wp2_with fail
        refine (H1.out _).mono ?_
        rintro e w1 ⟨rfl, hf1⟩
        go_wp2_with fail
        refine (H2.out _).mono ?_
        rintro e w2 ⟨rfl, hf2⟩
        go_wp2_with fail
        refine (H3.out _).mono ?_
        rintro e w3 ⟨rfl, hf3⟩
        go_wp2_with fail
        go_ret
        exact ⟨rfl, ff4 hf1 (ff4 hf2 hf3)⟩
  · by_cases hq : a % 3600 = 0
    · obtain ⟨m, hm⟩ : ∃ m, n = m := ⟨_, rfl⟩
      rw [hm] at h1 h2 hneg ha ⊢
      clear hm
      have b1 : 0 ≤ m := by omega
      have b2 : m ≤ 180000 := by omega
      have H1 := Lib.hid (fun w => r16two_any (m / 3600) (a / 3600) (by omega) (by omega) w)
      have hD := digD_pos hneg
      rw [ha, digN_0 hq] at hD
      rw [hD]
      have t1 : (m % 3600 != 0) = false := by rw [bne_eq_false_iff_eq]; omega
      have t2 : (m % 60 != 0) = false := by rw [bne_eq_false_iff_eq]; omega
      have t3 : (m % 3600 == 0) = true := by rw [beq_iff_eq]; omega
      have t4 : (m % 60 == 0) = true := by rw [beq_iff_eq]; omega
      have x1 := l1 (a / 3600)
      clear hD hq l1
      generalize Go.Clk.twoL (a / 3600) = T1 at *
      have a1 := fun w => S6.run_add_str (P := Tryd.prog) w [43] T1 (by simp; omega)
      simp only [List.cons_append, List.nil_append] at a1 ⊢
      clear h1 h2 ha x1
      go_enter Tryd.func15, Tryd.ntmps15
      go_wp2_with fail
      refine (H1.out _).mono ?_
      rintro e w1 ⟨rfl, hf1⟩
      go_wp2_with fail
      go_ret
      exact ⟨rfl, hf1⟩
    · by_cases hs : a % 60 = 0
      · obtain ⟨m, hm⟩ : ∃ m, n = m := ⟨_, rfl⟩
        rw [hm] at h1 h2 hneg ha ⊢
        clear hm
        have b1 : 0 ≤ m := by omega
        have b2 : m ≤ 180000 := by omega
        have H1 := Lib.hid (fun w => r16two_any (m / 3600) (a / 3600) (by omega) (by omega) w)
        have H2 := Lib.hid (fun w => r16two_any (m / 60 % 60) (a / 60 % 60) (by omega) (by omega) w)
        have hD := digD_pos hneg
        rw [ha, digN_1 hq hs] at hD
        rw [hD]
        have t1 : (m % 3600 != 0) = true := by rw [bne_iff_ne]; omega
        have t2 : (m % 60 != 0) = false := by rw [bne_eq_false_iff_eq]; omega
        have t3 : (m % 3600 == 0) = false := by rw [beq_eq_false_iff_ne]; omega
        have t4 : (m % 60 == 0) = true := by rw [beq_iff_eq]; omega
        have x1 := l1 (a / 3600)
        have x2 := l1 (a / 60 % 60)
        clear hD hq l1 hs
        generalize Go.Clk.twoL (a / 3600) = T1 at *
        generalize Go.Clk.twoL (a / 60 % 60) = T2 at *
        have a1 := fun w => S6.run_add_str (P := Tryd.prog) w [43] T1 (by simp; omega)
        have a2 := fun w => S6.run_add_str (P := Tryd.prog) w (43 :: T1) T2 (by simp; omega)
        simp only [List.cons_append, List.nil_append] at a1 a2 ⊢
        clear h1 h2 ha x1 x2
        go_enter Tryd.func15, Tryd.ntmps15
        go_wp2_with fail
        refine (H1.out _).mono ?_
        rintro e w1 ⟨rfl, hf1⟩
        go_wp2_with fail
        refine (H2.out _).mono ?_
        rintro e w2 ⟨rfl, hf2⟩
        go_wp2_with fail
        go_ret
        exact ⟨rfl, ff4 hf1 hf2⟩
      · obtain ⟨m, hm⟩ : ∃ m, n = m := ⟨_, rfl⟩
        rw [hm] at h1 h2 hneg ha ⊢
        clear hm
        have b1 : 0 ≤ m := by omega
        have b2 : m ≤ 180000 := by omega
        have H1 := Lib.hid (fun w => r16two_any (m / 3600) (a / 3600) (by omega) (by omega) w)
        have H2 := Lib.hid (fun w => r16two_any (m / 60 % 60) (a / 60 % 60) (by omega) (by omega) w)
        have H3 := Lib.hid (fun w => r16two_any (m % 60) (a % 60) (by omega) (by omega) w)
        have hD := digD_pos hneg
        rw [ha, digN_2 hq hs] at hD
        rw [hD]
        have t1 : (m % 3600 != 0) = true := by rw [bne_iff_ne]; omega
        have t2 : (m % 60 != 0) = true := by rw [bne_iff_ne]; omega
        have t3 : (m % 3600 == 0) = false := by rw [beq_eq_false_iff_ne]; omega
        have t4 : (m % 60 == 0) = false := by rw [beq_eq_false_iff_ne]; omega
        have x1 := l1 (a / 3600)
        have x2 := l1 (a / 60 % 60)
        have x3 := l1 (a % 60)
        clear hD hq l1 hs
        generalize Go.Clk.twoL (a / 3600) = T1 at *
        generalize Go.Clk.twoL (a / 60 % 60) = T2 at *
        generalize Go.Clk.twoL (a % 60) = T3 at *
        have a1 := fun w => S6.run_add_str (P := Tryd.prog) w [43] T1 (by simp; omega)
        have a2 := fun w => S6.run_add_str (P := Tryd.prog) w (43 :: T1) T2 (by simp; omega)
        have a3 := fun w => S6.run_add_str (P := Tryd.prog) w (43 :: (T1 ++ T2)) T3 (by simp; omega)
        simp only [List.cons_append, List.nil_append, List.append_assoc] at a1 a2 a3 ⊢
        clear h1 h2 ha x1 x2 x3
        go_enter Tryd.func15, Tryd.ntmps15
        go_wp2_with fail
        refine (H1.out _).mono ?_
        rintro e w1 ⟨rfl, hf1⟩
        go_wp2_with fail
        refine (H2.out _).mono ?_
        rintro e w2 ⟨rfl, hf2⟩
        go_wp2_with fail
        refine (H3.out _).mono ?_
        rintro e w3 ⟨rfl, hf3⟩
        go_wp2_with fail
        go_ret
        exact ⟨rfl, ff4 hf1 (ff4 hf2 hf3)⟩
end Go.Proofs.YtghcfmoagkimaaaDoor
/- strings that are cut, as lists of bytes -/
namespace Go.Proofs.YtghcfmoagkimaaaDoor
open Go.RowKit Go.Mem Go.Lin

theorem ext_lst (s : Bs) (a e : Nat) (_h : a ≤ e) : (⟨s.toArray⟩ : ByteArray).extract a e = ⟨((s.drop a).take (e - a)).toArray⟩ := by
  apply ByteArray.ext
  apply Array.toList_inj.1
  simp [List.extract]
theorem sl_mid {P : Program} (w : World) (t : TypeId) (ht : P.underlying t = some .string) (s l : Bs) (x y : Int) (a e : Nat) (hx : x = (a : Int)) (hy : y = (e : Int)) (hae : a ≤ e) (he : e ≤ s.length) (hl : (s.drop a).take (e - a) = l) :
    (Instr.slice t (strV s) (some (.int .i64 x)) (some (.int .i64 y)) none).run P w = .ok (strV l) w := by
  subst hx hy
  have hz : (⟨s.toArray⟩ : ByteArray).size = s.length := S6.str_size s
  show (Instr.slice t (.string ⟨s.toArray⟩) _ _ none).run P w = _
  rw [run_slice_string (P := P) w t _ .i64 .i64 (a : Int) (e : Int) ht (by omega) (by omega) (by omega)]
  simp only [Int.toNat_natCast]
  rw [ext_lst s a e hae, hl]
theorem sl_hi {P : Program} (w : World) (t : TypeId) (ht : P.underlying t = some .string) (s l : Bs) (y : Int) (e : Nat) (hy : y = (e : Int)) (he : e ≤ s.length) (hl : s.take e = l) :
    (Instr.slice t (strV s) none (some (.int .i64 y)) none).run P w = .ok (strV l) w := by
  subst hy
  have hz : (⟨s.toArray⟩ : ByteArray).size = s.length := S6.str_size s
  show (Instr.slice t (.string ⟨s.toArray⟩) none _ none).run P w = _
  rw [run_slice_string_h (P := P) w t _ ht .i64 (e : Int) (by omega) (by omega)]
  simp only [Int.toNat_natCast]
  rw [ext_lst s 0 e (Nat.zero_le _), ← hl]
  simp
theorem sl_lo {P : Program} (w : World) (t : TypeId) (ht : P.underlying t = some .string) (s l : Bs) (x : Int) (a : Nat) (hx : x = (a : Int)) (ha : a ≤ s.length) (hl : s.drop a = l) :
    (Instr.slice t (strV s) (some (.int .i64 x)) none none).run P w = .ok (strV l) w := by
  subst hx
  have hz : (⟨s.toArray⟩ : ByteArray).size = s.length := S6.str_size s
  show (Instr.slice t (.string ⟨s.toArray⟩) _ none none).run P w = _
  rw [run_slice_string_l (P := P) w t _ ht .i64 (a : Int) (by omega) (by omega)]
  simp only [Int.toNat_natCast]
  rw [hz, ext_lst s a s.length ha, ← hl, List.take_of_length_le (by simp)]
end Go.Proofs.YtghcfmoagkimaaaDoor
namespace Go.Proofs.YtghcfmoagkimaaaDoor
open Go.RowKit Go.Mem Go.Lin Go.Fmx

def findV : Option Nat → Int
  | some i => i
  | none => -1
set_option maxHeartbeats 1600000 in
theorem r16find_any (s t : Bs) (w : World) (hs : s.length ≤ 1000000) (ht : 1 ≤ t.length ∧ t.length ≤ 10) : Calls Tryd.prog 14 #[strV s, strV t] w fun e w' => e = .returned (intV (findV (findD s t))) ∧ w' = w := by
  go_enter Tryd.func14, Tryd.ntmps14
  go_wp2_with fail
  go_loopg [5] (s.length + 1) (fun g v5 wr => ∃ i : Nat, v5 = intV i ∧ i + g = s.length + 1 ∧ (∀ k, k < i → ¬ hereD s t k) ∧ wr = w)
  case atStart => exact ⟨0, rfl, by omega, fun k hk => by omega, rfl⟩
  case round =>
    obtain ⟨i, rfl, hg, hno, rfl⟩ := hrel
    have HNo := Lib.hid hno
    clear hno
    by_cases hlt : i + t.length ≤ s.length
    · obtain ⟨l, hl⟩ : ∃ l, (s.drop i).take t.length = l := ⟨_, rfl⟩
      have hS := fun w => sl_mid (P := Tryd.prog) w 9 Tryd.underlying9 s l (i : Int) ((i : Int) + (t.length : Int)) i (i + t.length) rfl (by omega) (by omega) hlt (by rw [← hl, Nat.add_sub_cancel_left])
      have HL := Lib.hid hl
      clear hl
      by_cases hq : l = t
      · have HH := Lib.hid (find_eq ⟨hlt, HL.out.trans hq⟩ HNo.out)
        have hb : (l == t) = true := by rw [beq_iff_eq]; exact hq
        clear hq
        go_wp2_with fail
        go_ret
        exact ⟨by rw [HH.out]; rfl, rfl⟩
      · have HN := Lib.hid (show ∀ k, k < i + 1 → ¬ hereD s t k from fun k hk => by
          by_cases e : k = i
          · subst e
            exact fun c => hq (HL.out.symm.trans c.2)
          · exact HNo.out k (by omega))
        have hb : (l == t) = false := by rw [beq_eq_false_iff_ne]; exact hq
        clear hq
        go_wp2_with fail
        clear hS
        go_roundg (s.length - i)
        case measure => omega
        case rel => exact ⟨i + 1, by go_num, by omega, HN.out, rfl⟩
    · have HH := Lib.hid (show findD s t = none from find_eq_none fun k c => by
        by_cases e : k < i
        · exact HNo.out k e c
        · have := c.1
          omega)
      have hlt : ¬ (i : Int) + (t.length : Int) ≤ (s.length : Int) := by omega
      go_wp2_with fail
      go_ret
      exact ⟨by rw [HH.out]; rfl, rfl⟩
end Go.Proofs.YtghcfmoagkimaaaDoor
