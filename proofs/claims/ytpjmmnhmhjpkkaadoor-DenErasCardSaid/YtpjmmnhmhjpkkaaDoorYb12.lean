import Derived.Test.YtpjmmnhmhjpkkaaDoorYb11
import Derived.Test.YtpjmmnhmhjpkkaaDoorYb07
import Derived.Laws.OwnMore
import Derived.ChangeArms
import Derived.WideShapes
import Derived.Lib.SmallJoins
import Derived.Deep.Slices
import Derived.OwnWalk
import Derived.Lib.Hide
import Derived.LoopTactic
import Derived.IntWalk
import Derived.Deep.RegionHeld
import Derived.OrdersHeld
import Derived.Deep.RegionHeld3
import Derived.Deep.LoopGhost
import Derived.Lib.MinMax
import Derived.BigQuiet
namespace Go.Mem
/- rows of structs -/
theorem flat_get {X : Type} (f : X → List Value) (k : Nat) (hf : ∀ x, (f x).length = k) : ∀ {l : List X} {i : Nat} {x : X}, l[i]? = some x → ∀ j, j < k → (l.flatMap f)[i * k + j]? = (f x)[j]?
  | [], i, x, h, _, _ => by simp at h
  | y :: l, 0, x, h, j, hj => by
    have h : y = x := by simpa using h
    subst h
    rw [List.flatMap_cons, Nat.zero_mul, Nat.zero_add, List.getElem?_append_left (by rw [hf]; exact hj)]
  | y :: l, i + 1, x, h, j, hj => by
    have ih := flat_get f k hf (l := l) (i := i) (x := x) (by simpa using h) j hj
    rw [List.flatMap_cons, show (i + 1) * k + j = (f y).length + (i * k + j) by rw [hf, Nat.add_mul]; omega, List.getElem?_append_right (by omega), Nat.add_sub_cancel_left]
    exact ih
theorem flat_len {X : Type} (f : X → List Value) (k : Nat) (hf : ∀ x, (f x).length = k) : ∀ l : List X, (l.flatMap f).length = l.length * k
  | [] => by simp
  | y :: l => by rw [List.flatMap_cons, List.length_append, flat_len f k hf l, hf, List.length_cons, Nat.add_mul]; omega
/-- an element of a slice of structs -/
theorem rows_at {X : Type} {f : X → List Value} {k : Nat} (hf : ∀ x, (f x).length = k) {w : World} {A : Option Addr} {l : List X} (h : Rd w k A l.length (l.flatMap f)) {i : Nat} {x : X} (hx : l[i]? = some x) :
    ∃ b off, A = some ⟨b, off, none⟩ ∧ ∀ j, j < k → w.cell? ⟨b, off + i * k + j, none⟩ = (f x)[j]? := by
  have hi := (List.getElem?_eq_some_iff.1 hx).1
  obtain ⟨b, off, e, hc⟩ := h.2 (by omega)
  refine ⟨b, off, e, fun j hj => ?_⟩
  have hg := flat_get f k hf hx j hj
  have hj' : j < (f x).length := by rw [hf]; exact hj
  rw [List.getElem?_eq_getElem hj'] at hg ⊢
  have := hc _ _ hg
  rw [← Nat.add_assoc] at this
  exact this
section
variable {P : Program} {ops : Array Oper} {rest : List Oper} {o : Oper} {a : Act} {w : World} {Q : Exit → Act → World → Prop}
theorem run_loadVar_at (w : World) (g off : Nat) (ty : TypeId) (cs : Array Value) (d : TypeDesc) (hc : ∀ j, j < cs.size → w.cell? ⟨g, off + j, none⟩ = cs[j]?) (hu : P.underlying ty = some d) (hd : d.isRow = true) (hi : (P.info? ty).map (·.size) = some cs.size) :
    (loadVar ty ⟨g, off, none⟩).run P w = .ok (.agg cs) w := by
  have := run_loadVar_mid (P := P) w g off ty cs.toList d (fun j v hv => by
    have hj : j < cs.size := by have := (List.getElem?_eq_some_iff.1 hv).1; simpa using this
    rw [hc j hj]
    simpa using hv) hu hd (by rw [hi]; simp)
  simpa using this
/-- a struct is loaded out of a slice -/
theorem wpList_load_at (ty : TypeId) (x : Operand) (g off : Nat) (cs : Array Value) (d : TypeDesc) (hgd : Region.wanted o (yielded ops a.tmps) = true) (ho : o.op = .load ty x) (hx : a.eval x = .pointer (some ⟨g, off, none⟩)) (hc : ∀ j, j < cs.size → w.cell? ⟨g, off + j, none⟩ = cs[j]?)
    (hu : P.underlying ty = some d) (hd : d.isRow = true) (hi : (P.info? ty).map (·.size) = some cs.size)
    (h : wpList P ops Q rest (a.put o.dst (.agg cs)) w) : wpList P ops Q (o :: rest) a w :=
  wpList_step fun _ hK => by
    rw [if_pos hgd]
    unfold Oper.wp execOp
    simp only [ho, hx, Instr.loadAt, Instr.sureAddr, Sem.run_bind, Sem.run_pure, Result.andThen_ok, run_loadVar_at w g off ty cs d hc hu hd hi]
    exact hK _ _ h
theorem yields_at {S : World → Prop} (ty : TypeId) (x : Operand) (g off : Nat) (cs : Array Value) (d : TypeDesc) (hgd : Region.wanted o (yielded ops a.tmps) = true) (ho : o.op = .load ty x) (hx : a.eval x = .pointer (some ⟨g, off, none⟩)) (hc : ∀ w, S w → ∀ j, j < cs.size → w.cell? ⟨g, off + j, none⟩ = cs[j]?)
    (hu : P.underlying ty = some d) (hd : d.isRow = true) (hi : (P.info? ty).map (·.size) = some cs.size) : YieldsIf P ops S o (.agg cs) a :=
  .inl ⟨hgd, fun w hw' => by
    unfold execOp
    simp only [ho, hx, Instr.loadAt, Instr.sureAddr, Sem.run_bind, Sem.run_pure, Result.andThen_ok, run_loadVar_at w g off ty cs d (hc w hw') hu hd hi]⟩
end
theorem blkc {w : World} {g : Nat} {t : TypeId} {cs : Array Value} (h : Blk w g t cs) (i : Nat) (v : Value) (hv : cs[i]? = some v) : w.cell? ⟨g, i, none⟩ = some v := (cell_at h i).trans hv
theorem cell_far {w W : World} {S : Nat → Prop} (hf : Fr w W S) {b i : Nat} {v : Value} (h : w.cell? ⟨b, i, none⟩ = some v) (hs : ¬ S b) : W.cell? ⟨b, i, none⟩ = some v := by
  rw [World.cell?_of_block (w := w) (hf.block b (World.block_lt_of_cell? w _ h) hs)]
  exact h
theorem cells_far {w W : World} {S : Nat → Prop} (hf : Fr w W S) {b : Nat} {off k : Nat} {cs : Array Value} (h : ∀ j, j < k → w.cell? ⟨b, off + j, none⟩ = cs[j]?) (hk : k ≤ cs.size) (hs : ¬ S b) : ∀ j, j < k → W.cell? ⟨b, off + j, none⟩ = cs[j]? := by
  intro j hj
  have := h j hj
  rw [Array.getElem?_eq_getElem (by omega)] at this ⊢
  exact cell_far hf this hs
end Go.Mem
namespace Go.Proofs.YtpjmmnhmhjpkkaaDoor
open Go.RowKit Go.Mem Go.Lin Go.Dcm

/- a document's parts in their cells -/
def lineL (x : LineL) : List Value := (lineC x).toList
def eraL (e : EraL) : List Value := (eraC e).toList
def intL (n : Int) : List Value := [intV n]
/-- a zone, its eras and its lines -/
abbrev ZV := ZoneL × Value × Value
theorem lineL_len (x : LineL) : (lineL x).length = 29 := rfl
/-- v owns a row of structs -/
def Own {X : Type} (w : World) (base : Nat) (e : TypeId) (k : Nat) (f : X → List Value) (v : Value) (l : List X) : Prop := w.ownsRow base e k v l.length (l.flatMap f)
theorem Own.fr {X : Type} {w w' : World} {S : Nat → Prop} {base : Nat} {e : TypeId} {k : Nat} {f : X → List Value} {v : Value} {l : List X} (h : Own w base e k f v l) (hf : Fr w w' S) (hg : ∀ g, v.ownBlock = some g → ¬ S g) : Own w' base e k f v l := hf.own h hg
theorem Own.kept {X : Type} {w w' : World} {base : Nat} {e : TypeId} {k : Nat} {f : X → List Value} {v : Value} {l : List X} (h : Own w base e k f v l) (hf : Fr w w' (fun _ => False)) : Own w' base e k f v l := hf.own h (fun _ _ h => h)
theorem Own.slice {X : Type} {w : World} {base : Nat} {e : TypeId} {k : Nat} {f : X → List Value} {v : Value} {l : List X} (h : Own w base e k f v l) : ∃ A c, v = .slice A l.length c := own_slice h
theorem Own.rd {X : Type} {w : World} {base : Nat} {e : TypeId} {k : Nat} {f : X → List Value} {v : Value} {l : List X} (h : Own w base e k f v l) : ∃ A c, v = .slice A l.length c ∧ l.length ≤ c ∧ c ≤ maxLen ∧ Rd w k A l.length (l.flatMap f) := by
  obtain ⟨A, c, h1, h2, h3, h4, -⟩ := own_rd h
  exact ⟨A, c, h1, h2, h3, h4⟩
/-- the rows of a zone -/
structure ZAt (w : World) (base : Nat) (z : ZV) : Prop where
  e : Own w base 44 13 eraL z.2.1 z.1.eras
  l : Own w base 3 1 intL z.2.2 z.1.lines
theorem ZAt.kept {w w' : World} {base : Nat} {z : ZV} (h : ZAt w base z) (hf : Fr w w' (fun _ => False)) : ZAt w' base z := ⟨h.e.kept hf, h.l.kept hf⟩
end Go.Proofs.YtpjmmnhmhjpkkaaDoor
namespace Go.Proofs.YtpjmmnhmhjpkkaaDoor
open Go.RowKit Go.Mem Go.Lin Go.WideShapes

theorem cells_day : Tryd.prog.cellsOf 38 = 3 := by kernel_rfl
theorem cells_at : Tryd.prog.cellsOf 40 = 2 := by kernel_rfl
theorem cells_rule : Tryd.prog.cellsOf 49 = 11 := by kernel_rfl
theorem cells_til : Tryd.prog.cellsOf 42 = 8 := by kernel_rfl
theorem cells_era : Tryd.prog.cellsOf 44 = 13 := by kernel_rfl
theorem cells_int : Tryd.prog.cellsOf 3 = 1 := by kernel_rfl
theorem cells_str : Tryd.prog.cellsOf 9 = 1 := by kernel_rfl
theorem cells_bool : Tryd.prog.cellsOf 4 = 1 := by kernel_rfl
section
variable {H : Type} {enc : TypeId × Value → H} {w : World} {base : Nat} {spare : Nat → Bool} {held : Bool}
def inR (n : Int) : Prop := -9223372036854775808 ≤ n ∧ n ≤ 9223372036854775807
theorem leaf_int {n : Nat} {c : Value} {y : DataW H × List MemPlace} (h : DataW.trod enc Tryd.prog w base spare held n 3 [c] = some y) : ∃ a, c = intV a ∧ inR a := by
  obtain ⟨a, e, -, hw⟩ := DataW.trod_int Tryd.underlying3 h
  simp at e
  exact ⟨a, e, by unfold inR; simpa [Lit.wf, IntKind.min, IntKind.max, IntKind.signed, IntKind.bits] using hw⟩
theorem leaf_bool {n : Nat} {c : Value} {y : DataW H × List MemPlace} (h : DataW.trod enc Tryd.prog w base spare held n 4 [c] = some y) : ∃ a, c = .bool a := by
  obtain ⟨a, e, -⟩ := DataW.trod_bool Tryd.underlying4 h
  simp at e
  exact ⟨a, e⟩
theorem leaf_str {n : Nat} {c : Value} {y : DataW H × List MemPlace} (h : DataW.trod enc Tryd.prog w base spare held n 9 [c] = some y) : ∃ a : Bs, c = strV a ∧ a.length ≤ maxLen := by
  obtain ⟨s, e, -, hz⟩ := DataW.trod_string Tryd.underlying9 h
  simp at e
  exact ⟨s.data.toList, e, by rw [Array.length_toList]; exact hz⟩
theorem fld {X : Type} {fs : Array Field} {T : Field → Option X} {xs : List X} (hlen : xs.length = fs.size) (hf : ∀ (i : Nat) (f : Field), fs[i]? = some f → T f = xs[i]?) (i : Nat) (f : Field) (hi : fs[i]? = some f) : ∃ y, T f = some y := by
  have h : i < fs.size := (Array.getElem?_eq_some_iff.1 hi).1
  exact ⟨xs[i]'(by omega), (hf i f hi).trans (List.getElem?_eq_getElem _)⟩
theorem open_day {n : Nat} {c0 c1 c2 : Value} {y : DataW H × List MemPlace} (h : DataW.trod enc Tryd.prog w base spare held n 38 [c0, c1, c2] = some y) :
    ∃ x : DayL, c0 = intV x.k ∧ c1 = intV x.d ∧ c2 = intV x.w ∧ inR x.k ∧ inR x.d ∧ inR x.w := by
  obtain ⟨xs, m, -, -, -, hlen, hf⟩ := DataW.trod_struct Tryd.underlying38 h
  obtain ⟨y0, g0⟩ := fld hlen hf 0 _ rfl
  simp only [List.getElem_toArray, List.getElem_cons_zero, cells_int, List.drop_zero, List.take_succ_cons, List.take_zero] at g0
  obtain ⟨a0, e0, l0⟩ := leaf_int g0
  obtain ⟨y1, g1⟩ := fld hlen hf 1 _ rfl
  simp only [List.getElem_toArray, List.getElem_cons_zero, List.getElem_cons_succ, cells_int, List.drop_succ_cons, List.drop_zero, List.take_succ_cons, List.take_zero] at g1
  obtain ⟨a1, e1, l1⟩ := leaf_int g1
  obtain ⟨y2, g2⟩ := fld hlen hf 2 _ rfl
  simp only [List.getElem_toArray, List.getElem_cons_zero, List.getElem_cons_succ, cells_int, List.drop_succ_cons, List.drop_zero, List.take_succ_cons, List.take_zero] at g2
  obtain ⟨a2, e2, l2⟩ := leaf_int g2
  exact ⟨⟨a0, a1, a2⟩, e0, e1, e2, l0, l1, l2⟩
theorem open_at {n : Nat} {c0 c1 : Value} {y : DataW H × List MemPlace} (h : DataW.trod enc Tryd.prog w base spare held n 40 [c0, c1] = some y) :
    ∃ x : AtL, c0 = intV x.s ∧ c1 = intV x.k ∧ inR x.s ∧ inR x.k := by
  obtain ⟨xs, m, -, -, -, hlen, hf⟩ := DataW.trod_struct Tryd.underlying40 h
  obtain ⟨y0, g0⟩ := fld hlen hf 0 _ rfl
  simp only [List.getElem_toArray, List.getElem_cons_zero, cells_int, List.drop_zero, List.take_succ_cons, List.take_zero] at g0
  obtain ⟨a0, e0, l0⟩ := leaf_int g0
  obtain ⟨y1, g1⟩ := fld hlen hf 1 _ rfl
  simp only [List.getElem_toArray, List.getElem_cons_zero, List.getElem_cons_succ, cells_int, List.drop_succ_cons, List.drop_zero, List.take_succ_cons, List.take_zero] at g1
  obtain ⟨a1, e1, l1⟩ := leaf_int g1
  exact ⟨⟨a0, a1⟩, e0, e1, l0, l1⟩
theorem open_rule {n : Nat} {c0 c1 c2 c3 c4 c5 c6 c7 c8 c9 c10 : Value} {y : DataW H × List MemPlace} (h : DataW.trod enc Tryd.prog w base spare held n 49 [c0, c1, c2, c3, c4, c5, c6, c7, c8, c9, c10] = some y) :
    ∃ x : RuleL, c0 = strV x.name ∧ c1 = intV x.fr ∧ c2 = intV x.to ∧ c3 = intV x.month ∧ c4 = intV x.on.k ∧ c5 = intV x.on.d ∧ c6 = intV x.on.w ∧ c7 = intV x.at_.s ∧ c8 = intV x.at_.k ∧ c9 = intV x.save ∧ c10 = strV x.letter ∧ x.name.length ≤ maxLen ∧ inR x.fr ∧ inR x.to ∧ inR x.month ∧ inR x.on.k ∧ inR x.on.d ∧ inR x.on.w ∧ inR x.at_.s ∧ inR x.at_.k ∧ inR x.save ∧ x.letter.length ≤ maxLen := by
  obtain ⟨xs, m, -, -, -, hlen, hf⟩ := DataW.trod_struct Tryd.underlying49 h
  obtain ⟨y0, g0⟩ := fld hlen hf 0 _ rfl
  simp only [List.getElem_toArray, List.getElem_cons_zero, cells_str, List.drop_zero, List.take_succ_cons, List.take_zero] at g0
  obtain ⟨a0, e0, l0⟩ := leaf_str g0
  obtain ⟨y1, g1⟩ := fld hlen hf 1 _ rfl
  simp only [List.getElem_toArray, List.getElem_cons_zero, List.getElem_cons_succ, cells_int, List.drop_succ_cons, List.drop_zero, List.take_succ_cons, List.take_zero] at g1
  obtain ⟨a1, e1, l1⟩ := leaf_int g1
  obtain ⟨y2, g2⟩ := fld hlen hf 2 _ rfl
  simp only [List.getElem_toArray, List.getElem_cons_zero, List.getElem_cons_succ, cells_int, List.drop_succ_cons, List.drop_zero, List.take_succ_cons, List.take_zero] at g2
  obtain ⟨a2, e2, l2⟩ := leaf_int g2
  obtain ⟨y3, g3⟩ := fld hlen hf 3 _ rfl
  simp only [List.getElem_toArray, List.getElem_cons_zero, List.getElem_cons_succ, cells_int, List.drop_succ_cons, List.drop_zero, List.take_succ_cons, List.take_zero] at g3
  obtain ⟨a3, e3, l3⟩ := leaf_int g3
  obtain ⟨y4, g4⟩ := fld hlen hf 4 _ rfl
  simp only [List.getElem_toArray, List.getElem_cons_zero, List.getElem_cons_succ, cells_day, List.drop_succ_cons, List.drop_zero, List.take_succ_cons, List.take_zero] at g4
  obtain ⟨a4, e4_0, e4_1, e4_2, l4_0, l4_1, l4_2⟩ := open_day g4
  obtain ⟨y5, g5⟩ := fld hlen hf 5 _ rfl
  simp only [List.getElem_toArray, List.getElem_cons_zero, List.getElem_cons_succ, cells_at, List.drop_succ_cons, List.drop_zero, List.take_succ_cons, List.take_zero] at g5
  obtain ⟨a5, e5_0, e5_1, l5_0, l5_1⟩ := open_at g5
  obtain ⟨y6, g6⟩ := fld hlen hf 6 _ rfl
  simp only [List.getElem_toArray, List.getElem_cons_zero, List.getElem_cons_succ, cells_int, List.drop_succ_cons, List.drop_zero, List.take_succ_cons, List.take_zero] at g6
  obtain ⟨a6, e6, l6⟩ := leaf_int g6
  obtain ⟨y7, g7⟩ := fld hlen hf 7 _ rfl
  simp only [List.getElem_toArray, List.getElem_cons_zero, List.getElem_cons_succ, cells_str, List.drop_succ_cons, List.drop_zero, List.take_succ_cons, List.take_zero] at g7
  obtain ⟨a7, e7, l7⟩ := leaf_str g7
  exact ⟨⟨a0, a1, a2, a3, a4, a5, a6, a7⟩, e0, e1, e2, e3, e4_0, e4_1, e4_2, e5_0, e5_1, e6, e7, l0, l1, l2, l3, l4_0, l4_1, l4_2, l5_0, l5_1, l6, l7⟩
theorem open_til {n : Nat} {c0 c1 c2 c3 c4 c5 c6 c7 : Value} {y : DataW H × List MemPlace} (h : DataW.trod enc Tryd.prog w base spare held n 42 [c0, c1, c2, c3, c4, c5, c6, c7] = some y) :
    ∃ x : UntilL, c0 = .bool x.has ∧ c1 = intV x.year ∧ c2 = intV x.month ∧ c3 = intV x.on.k ∧ c4 = intV x.on.d ∧ c5 = intV x.on.w ∧ c6 = intV x.at_.s ∧ c7 = intV x.at_.k ∧ inR x.year ∧ inR x.month ∧ inR x.on.k ∧ inR x.on.d ∧ inR x.on.w ∧ inR x.at_.s ∧ inR x.at_.k := by
  obtain ⟨xs, m, -, -, -, hlen, hf⟩ := DataW.trod_struct Tryd.underlying42 h
  obtain ⟨y0, g0⟩ := fld hlen hf 0 _ rfl
  simp only [List.getElem_toArray, List.getElem_cons_zero, cells_bool, List.drop_zero, List.take_succ_cons, List.take_zero] at g0
  obtain ⟨a0, e0⟩ := leaf_bool g0
  obtain ⟨y1, g1⟩ := fld hlen hf 1 _ rfl
  simp only [List.getElem_toArray, List.getElem_cons_zero, List.getElem_cons_succ, cells_int, List.drop_succ_cons, List.drop_zero, List.take_succ_cons, List.take_zero] at g1
  obtain ⟨a1, e1, l1⟩ := leaf_int g1
  obtain ⟨y2, g2⟩ := fld hlen hf 2 _ rfl
  simp only [List.getElem_toArray, List.getElem_cons_zero, List.getElem_cons_succ, cells_int, List.drop_succ_cons, List.drop_zero, List.take_succ_cons, List.take_zero] at g2
  obtain ⟨a2, e2, l2⟩ := leaf_int g2
  obtain ⟨y3, g3⟩ := fld hlen hf 3 _ rfl
  simp only [List.getElem_toArray, List.getElem_cons_zero, List.getElem_cons_succ, cells_day, List.drop_succ_cons, List.drop_zero, List.take_succ_cons, List.take_zero] at g3
  obtain ⟨a3, e3_0, e3_1, e3_2, l3_0, l3_1, l3_2⟩ := open_day g3
  obtain ⟨y4, g4⟩ := fld hlen hf 4 _ rfl
  simp only [List.getElem_toArray, List.getElem_cons_zero, List.getElem_cons_succ, cells_at, List.drop_succ_cons, List.drop_zero, List.take_succ_cons, List.take_zero] at g4
  obtain ⟨a4, e4_0, e4_1, l4_0, l4_1⟩ := open_at g4
  exact ⟨⟨a0, a1, a2, a3, a4⟩, e0, e1, e2, e3_0, e3_1, e3_2, e4_0, e4_1, l1, l2, l3_0, l3_1, l3_2, l4_0, l4_1⟩
theorem open_era {n : Nat} {c0 c1 c2 c3 c4 c5 c6 c7 c8 c9 c10 c11 c12 : Value} {y : DataW H × List MemPlace} (h : DataW.trod enc Tryd.prog w base spare held n 44 [c0, c1, c2, c3, c4, c5, c6, c7, c8, c9, c10, c11, c12] = some y) :
    ∃ x : EraL, c0 = intV x.off ∧ c1 = intV x.kind ∧ c2 = intV x.save ∧ c3 = strV x.rules ∧ c4 = strV x.format ∧ c5 = .bool x.til.has ∧ c6 = intV x.til.year ∧ c7 = intV x.til.month ∧ c8 = intV x.til.on.k ∧ c9 = intV x.til.on.d ∧ c10 = intV x.til.on.w ∧ c11 = intV x.til.at_.s ∧ c12 = intV x.til.at_.k ∧ inR x.off ∧ inR x.kind ∧ inR x.save ∧ x.rules.length ≤ maxLen ∧ x.format.length ≤ maxLen ∧ inR x.til.year ∧ inR x.til.month ∧ inR x.til.on.k ∧ inR x.til.on.d ∧ inR x.til.on.w ∧ inR x.til.at_.s ∧ inR x.til.at_.k := by
  obtain ⟨xs, m, -, -, -, hlen, hf⟩ := DataW.trod_struct Tryd.underlying44 h
  obtain ⟨y0, g0⟩ := fld hlen hf 0 _ rfl
  simp only [List.getElem_toArray, List.getElem_cons_zero, cells_int, List.drop_zero, List.take_succ_cons, List.take_zero] at g0
  obtain ⟨a0, e0, l0⟩ := leaf_int g0
  obtain ⟨y1, g1⟩ := fld hlen hf 1 _ rfl
  simp only [List.getElem_toArray, List.getElem_cons_zero, List.getElem_cons_succ, cells_int, List.drop_succ_cons, List.drop_zero, List.take_succ_cons, List.take_zero] at g1
  obtain ⟨a1, e1, l1⟩ := leaf_int g1
  obtain ⟨y2, g2⟩ := fld hlen hf 2 _ rfl
  simp only [List.getElem_toArray, List.getElem_cons_zero, List.getElem_cons_succ, cells_int, List.drop_succ_cons, List.drop_zero, List.take_succ_cons, List.take_zero] at g2
  obtain ⟨a2, e2, l2⟩ := leaf_int g2
  obtain ⟨y3, g3⟩ := fld hlen hf 3 _ rfl
  simp only [List.getElem_toArray, List.getElem_cons_zero, List.getElem_cons_succ, cells_str, List.drop_succ_cons, List.drop_zero, List.take_succ_cons, List.take_zero] at g3
  obtain ⟨a3, e3, l3⟩ := leaf_str g3
  obtain ⟨y4, g4⟩ := fld hlen hf 4 _ rfl
  simp only [List.getElem_toArray, List.getElem_cons_zero, List.getElem_cons_succ, cells_str, List.drop_succ_cons, List.drop_zero, List.take_succ_cons, List.take_zero] at g4
  obtain ⟨a4, e4, l4⟩ := leaf_str g4
  obtain ⟨y5, g5⟩ := fld hlen hf 5 _ rfl
  simp only [List.getElem_toArray, List.getElem_cons_zero, List.getElem_cons_succ, cells_til, List.drop_succ_cons, List.drop_zero, List.take_succ_cons, List.take_zero] at g5
  obtain ⟨a5, e5_0, e5_1, e5_2, e5_3, e5_4, e5_5, e5_6, e5_7, l5_0, l5_1, l5_2, l5_3, l5_4, l5_5, l5_6⟩ := open_til g5
  exact ⟨⟨a0, a1, a2, a3, a4, a5⟩, e0, e1, e2, e3, e4, e5_0, e5_1, e5_2, e5_3, e5_4, e5_5, e5_6, e5_7, l0, l1, l2, l3, l4, l5_0, l5_1, l5_2, l5_3, l5_4, l5_5, l5_6⟩
end
end Go.Proofs.YtpjmmnhmhjpkkaaDoor
namespace Go.Proofs.YtpjmmnhmhjpkkaaDoor
open Go.RowKit Go.Mem Go.Lin Go.WideShapes Go.Xpd

/- rules in their cells -/
def ruleA11 (r : RuleL) : List Value := (ruleC r).toList
theorem ruleA11_len (r : RuleL) : (ruleA11 r).length = 11 := rfl
instance : Inhabited RuleL := ⟨⟨[], 0, 0, 0, ⟨0, 0, 0⟩, ⟨0, 0⟩, 0, []⟩⟩
/-- numbers that an int can be, texts that a string can be -/
structure RuR (r : RuleL) : Prop where
  name : r.name.length ≤ maxLen
  fr : inR r.fr
  to : inR r.to
  month : inR r.month
  k : inR r.on.k
  d : inR r.on.d
  w : inR r.on.w
  s : inR r.at_.s
  tk : inR r.at_.k
  save : inR r.save
  letter : r.letter.length ≤ maxLen
/-- a slice of rules -/
def RusAt (w : World) (A : Option Addr) (l : List RuleL) : Prop := Rd w 11 A l.length (l.flatMap ruleA11)
theorem RusAt.kept {w w' : World} {A : Option Addr} {l : List RuleL} (h : RusAt w A l) (hf : Fr w w' (fun _ => False)) : RusAt w' A l := Rd.fr h hf (fun _ _ _ _ h => h)
/-- the cells of a rule -/
theorem RusAt.at_ {w : World} {A : Option Addr} {l : List RuleL} (h : RusAt w A l) {i : Nat} {r : RuleL} (hr : l[i]? = some r) : ∃ b off, A = some ⟨b, off, none⟩ ∧ ∀ j, j < (ruleC r).size → w.cell? ⟨b, off + i * 11 + j, none⟩ = (ruleC r)[j]? := by
  obtain ⟨b, off, e, hc⟩ := rows_at ruleA11_len h hr
  refine ⟨b, off, e, fun j hj => ?_⟩
  rw [hc j hj]
  show (ruleC r).toList[j]? = _
  simp
theorem array11 {α : Type} {cs : Array α} (h : cs.size = 11) : ∃ c0 c1 c2 c3 c4 c5 c6 c7 c8 c9 c10, cs = #[c0, c1, c2, c3, c4, c5, c6, c7, c8, c9, c10] := by
  obtain ⟨l⟩ := cs
  match l, h with
  | [c0, c1, c2, c3, c4, c5, c6, c7, c8, c9, c10], _ => exact ⟨c0, c1, c2, c3, c4, c5, c6, c7, c8, c9, c10, rfl⟩
/-- a slice of rules that came in -/
theorem rules_in {H : Type} {enc : TypeId × Value → H} {w : World} {base fuel : Nat} {spare : Nat → Bool} {held : Bool} {a : Option Addr} {len cap : Nat} {x : DataW H × List MemPlace}
    (h : DataW.trod enc Tryd.prog w base spare held fuel 47 [Value.slice a len cap] = some x) :
    ∃ l : List RuleL, RusAt w a l ∧ l.length = len ∧ len ≤ maxLen ∧ ∀ r ∈ l, RuR r := by
  rcases Go.Deep.open_slice Tryd.underlying47 h with ⟨hcs, -⟩ | ⟨ad, l, c, m, n, D, Pl, hcs, hb, hl, hm, hmm, hx, hi⟩
  · simp at hcs
    obtain ⟨rfl, rfl, rfl⟩ := hcs
    exact ⟨[], ⟨rfl, fun h => absurd h (by simp)⟩, rfl, Nat.zero_le _, by simp⟩
  · simp at hcs
    obtain ⟨rfl, rfl, rfl⟩ := hcs
    have hlm : len ≤ m := by rw [hmm]; split <;> omega
    rw [cells_rule] at hi
    have each : ∀ i, i < len → ∃ e : RuleL, (∀ j, j < 11 → w.cell? (ad.add (i * 11 + j)) = (ruleA11 e)[j]?) ∧ RuR e := by
      intro i hlt
      obtain ⟨cs, h1, h2⟩ := hi i (by omega)
      obtain ⟨-, hlen, hat⟩ := World.cells?_some h1
      obtain ⟨c0, c1, c2, c3, c4, c5, c6, c7, c8, c9, c10, e⟩ := array11 (cs := cs.toArray) (by simpa using hlen)
      have e : cs = [c0, c1, c2, c3, c4, c5, c6, c7, c8, c9, c10] := by simpa using congrArg Array.toList e
      subst e
      obtain ⟨x, e0, e1, e2, e3, e4, e5, e6, e7, e8, e9, e10, l0, l1, l2, l3, l4, l5, l6, l7, l8, l9, l10⟩ := open_rule h2
      subst e0 e1 e2 e3 e4 e5 e6 e7 e8 e9 e10
      refine ⟨x, fun j hj => ?_, l0, l1, l2, l3, l4, l5, l6, l7, l8, l9, l10⟩
      have k := hat j hj
      rw [Go.Deep.add_add] at k
      exact k
    obtain ⟨f, hf⟩ := Go.Deep.choose_lt each
    refine ⟨(List.range len).map f, ⟨?_, fun hpos => ?_⟩, by simp, by omega, fun r hr => ?_⟩
    · rw [flat_len ruleA11 11 ruleA11_len]
    · rw [List.length_map, List.length_range] at hpos
      have h0 := (hf 0 hpos).1 0 (by omega)
      obtain ⟨b, off, rfl⟩ : ∃ b off, ad = ⟨b, off, none⟩ := by
        obtain ⟨b, off, spot⟩ := ad
        cases spot with
        | none => exact ⟨b, off, rfl⟩
        | some s =>
          exfalso
          have h0 : w.cell? ((⟨b, off, some s⟩ : Addr).add (0 * 11 + 0)) = some (strV (f 0).name) := h0
          simp [Addr.add, World.cell?] at h0
          split at h0 <;> simp at h0
      have hadd : ∀ j, (⟨b, off, none⟩ : Addr).add j = ⟨b, off + j, none⟩ := fun j => by unfold Addr.add; split <;> simp_all
      refine ⟨b, off, rfl, fun j u hu => ?_⟩
      have hj : j < len * 11 := by
        have := (List.getElem?_eq_some_iff.1 hu).1
        rw [flat_len ruleA11 11 ruleA11_len, List.length_map, List.length_range] at this
        exact this
      have h1 : ((List.range len).map f)[j / 11]? = some (f (j / 11)) := by
        rw [List.getElem?_map, List.getElem?_range (by omega)]
        rfl
      have h2 := flat_get ruleA11 11 ruleA11_len h1 (j % 11) (Nat.mod_lt _ (by omega))
      rw [show j / 11 * 11 + j % 11 = j by omega] at h2
      have h3 := (hf (j / 11) (by omega)).1 (j % 11) (Nat.mod_lt _ (by omega))
      rw [hadd, show j / 11 * 11 + j % 11 = j by omega] at h3
      rw [h3, ← h2, hu]
    · obtain ⟨i, hi, rfl⟩ := List.mem_map.1 hr
      exact (hf i (by simpa using hi)).2
end Go.Proofs.YtpjmmnhmhjpkkaaDoor
namespace Go.Proofs.YtpjmmnhmhjpkkaaDoor
open Go.RowKit Go.Mem Go.Lin Go.Xpd

/- fires in their cells -/
def fireC (f : FireL) : Array Value := #[intV f.i, intV f.y, intV f.at_, intV f.bef]
abbrev fireV (f : FireL) : Value := .agg (fireC f)
def fireL (f : FireL) : List Value := (fireC f).toList
theorem fireL_len (f : FireL) : (fireL f).length = 4 := rfl
theorem ff4 {a c d : World} (h : Fr a c (fun _ => False)) (h2 : Fr c d (fun _ => False)) : Fr a d (fun _ => False) := h.trans h2 (fun _ _ h => h) (fun _ _ h => h)
end Go.Proofs.YtpjmmnhmhjpkkaaDoor
namespace Go.Proofs.YtpjmmnhmhjpkkaaDoor
open Go.RowKit Go.Mem Go.Lin Go.Dcm

theorem one_made {cs : Array Value} (h : cs.all (·.oneCell') = true) : ∀ u ∈ cs.toList, u.oneCell' = true := by
  intro u hu
  have := (Array.all_eq_true' ).1 h u (by simpa using hu)
  exact this
/-- a row with one element more -/
theorem own_more {X : Type} {w : World} {base : Nat} {e : TypeId} {k : Nat} {f : X → List Value} {v : Value} {l : List X} {x : X} {cs : List Value} (h : w.ownsRow base e k v (l.length + 1) (l.flatMap f ++ cs)) (hc : cs = f x) : Own w base e k f v (l ++ [x]) := by
  subst hc
  show w.ownsRow base e k v (l ++ [x]).length ((l ++ [x]).flatMap f)
  simpa using h
theorem own_none {X : Type} (w : World) (base : Nat) (e : TypeId) (k : Nat) (f : X → List Value) : Own w base e k f (.slice none 0 0) ([] : List X) := World.ownsRow_nil _ _ _ _
theorem own_block {X : Type} {w : World} {b : Nat} {e : TypeId} {k : Nat} {f : X → List Value} {v : Value} {l : List X} (h : Own w b e k f v l) {g : Nat} (hg : v.ownBlock = some g) : b ≤ g ∧ g < w.heap.size ∧ ∃ cs, Blk w g e cs := by
  obtain ⟨h1, h2⟩ := h.lt g hg
  refine ⟨h1, h2, ?_⟩
  rcases h.2 with ⟨rfl, _⟩ | ⟨g', cap, cur, rfl, _, hh, _⟩
  · simp [Value.ownBlock] at hg
  · have : g' = g := by simpa [Value.ownBlock] using hg
    subst this
    exact ⟨cur, hh⟩
theorem blk_same {w : World} {g : Nat} {t t' : TypeId} {cs cs' : Array Value} (h : Blk w g t cs) (h' : Blk w g t' cs') : t = t' := by
  unfold Blk at h h'
  rw [h] at h'
  injection h' with h'
  injection h' with _ ht
/- zones -/
theorem ZAt.fr {w w' : World} {S : Nat → Prop} {base : Nat} {z : ZV} (h : ZAt w base z) (hf : Fr w w' S) (h1 : ∀ k cs, base ≤ k → Blk w k 44 cs → ¬ S k) (h2 : ∀ k cs, base ≤ k → Blk w k 3 cs → ¬ S k) : ZAt w' base z := by
  refine ⟨h.e.fr hf fun g hg => ?_, h.l.fr hf fun g hg => ?_⟩
  · obtain ⟨hb, -, cs, hk⟩ := own_block h.e hg
    exact h1 g cs hb hk
  · obtain ⟨hb, -, cs, hk⟩ := own_block h.l hg
    exact h2 g cs hb hk
end Go.Proofs.YtpjmmnhmhjpkkaaDoor
namespace Go.Proofs.YtpjmmnhmhjpkkaaDoor
open Go.RowKit Go.Mem
/- append(append(append([]T{}, x[:n]...), e), x[n:]...) in a region that draws its order -/
section
variable {P : Program} {ops : Array Oper} {Q : Exit → Act → World → Prop} {md : Region.Mode} {S : World → Prop}
theorem at_store4 {rest : List Oper} {d : Option Tmp} {x y : Operand} {ty : TypeId} {pos : String} {af : Array Edge} {g : Option (Nat × Bool)} {a : Act} {w : World} (t : TypeId) (h : wpList P ops Q (⟨d, .store t x y, ty, pos, af, g⟩ :: rest) a w) : wpList P ops Q (⟨d, .store t x y, ty, pos, af, g⟩ :: rest) a w := h
end
end Go.Proofs.YtpjmmnhmhjpkkaaDoor
namespace Go.Proofs.YtpjmmnhmhjpkkaaDoor
open Go.RowKit Go.Mem Go.Lin Go.Xpd

/-- what Of says, as numbers -/
theorem num_of {x : DayL} {y m n j : Int} (h : S6.ofD x.k x.d x.w y m = (n, j)) : (j = 0 → numX x y m = some n) ∧ (j ≠ 0 → numX x y m = none) := by
  unfold S6.ofD at h
  unfold numX
  by_cases hb : Go.Dfm.rightB x.k x.d x.w = true
  · rw [if_pos hb] at h
    have ed : S6.dayOf x.k x.d y m = dayX x y m := rfl
    rw [ed] at h
    by_cases hr : Go.Civil.rightB y m (dayX x y m) = true
    · have e0 : S6.daysE y m (dayX x y m) = 0 := if_pos hr
      have ek : S6.daysK y m (dayX x y m) = Go.Civil.numD y m (dayX x y m) := if_pos hr
      rw [e0, if_pos rfl, ek] at h
      rw [if_pos ⟨hb, hr⟩]
      obtain ⟨h1, h2⟩ := Prod.mk.inj h
      exact ⟨fun _ => by rw [h1], fun hj => absurd h2.symm hj⟩
    · have e0 : S6.daysE y m (dayX x y m) = 6 := if_neg hr
      rw [e0, if_neg (by decide)] at h
      rw [if_neg (fun c => hr c.2)]
      obtain ⟨h1, h2⟩ := Prod.mk.inj h
      exact ⟨fun hj => by omega, fun _ => rfl⟩
  · rw [if_neg hb] at h
    rw [if_neg (fun c => hb c.1)]
    obtain ⟨h1, h2⟩ := Prod.mk.inj h
    exact ⟨fun hj => by omega, fun _ => rfl⟩
theorem FiresAt.at_ {w : World} {A : Option Addr} {l : List FireL} (h : Rd w 4 A l.length (l.flatMap fireL)) {i : Nat} {f : FireL} (hf : l[i]? = some f) : ∃ b off, A = some ⟨b, off, none⟩ ∧ ∀ j, j < (fireC f).size → w.cell? ⟨b, off + i * 4 + j, none⟩ = (fireC f)[j]? := by
  obtain ⟨b, off, e, hc⟩ := rows_at fireL_len h hf
  refine ⟨b, off, e, fun j hj => ?_⟩
  rw [hc j hj]
  show (fireC f).toList[j]? = _
  simp
end Go.Proofs.YtpjmmnhmhjpkkaaDoor
namespace Go.Proofs.YtpjmmnhmhjpkkaaDoor
open Go.RowKit Go.Mem Go.Lin Go.Xpd Go.Den

theorem date_reach {t y m d k : Int} (h : S6.DateR (t / 86400) y m d k) : (k = 0 → reachY t = if -9998 ≤ y ∧ y ≤ 9998 then some y else none) ∧ (k ≠ 0 → reachY t = none) := by
  rcases h with ⟨h1, h2, h3, h4, rfl⟩ | ⟨h1, rfl, rfl, rfl, rfl⟩
  · refine ⟨fun _ => ?_, fun h => absurd rfl h⟩
    have hn := Go.Civil.numD_in h3
    rw [h4] at hn
    by_cases hy : -9998 ≤ y ∧ y ≤ 9998
    · rw [if_pos hy]; exact reach_in hy hn.1 hn.2.1
    · rw [if_neg hy]; exact reach_none hy hn.1 hn.2.1
  · exact ⟨fun h => absurd h (by decide), fun _ => reach_far h1⟩
end Go.Proofs.YtpjmmnhmhjpkkaaDoor
namespace Go.Proofs.YtpjmmnhmhjpkkaaDoor
open Go.RowKit Go.Mem Go.Lin Go.WideShapes

/-- a slice of rules that came in: its room -/
theorem rules_cap {H : Type} {enc : TypeId × Value → H} {w : World} {base fuel : Nat} {spare : Nat → Bool} {held : Bool} {a : Option Addr} {len cap : Nat} {x : DataW H × List MemPlace}
    (h : DataW.trod enc Tryd.prog w base spare held fuel 47 [Value.slice a len cap] = some x) : len ≤ cap ∧ cap ≤ maxLen := by
  rcases Go.Deep.open_slice Tryd.underlying47 h with ⟨hcs, -⟩ | ⟨ad, l, c, m, n, D, Pl, hcs, hb, hl, hm, hmm, hx, hi⟩
  · simp at hcs
    obtain ⟨rfl, rfl, rfl⟩ := hcs
    exact ⟨Nat.le_refl _, Nat.zero_le _⟩
  · simp at hcs
    obtain ⟨rfl, rfl, rfl⟩ := hcs
    exact ⟨hl, hm⟩
theorem wf_in {a : Int} (h : (Lit.int .i64 a).wf = true) : inR a := by unfold inR; simpa [Lit.wf, IntKind.min, IntKind.max, IntKind.signed, IntKind.bits] using h
end Go.Proofs.YtpjmmnhmhjpkkaaDoor
namespace Go.Proofs.YtpjmmnhmhjpkkaaDoor
open Go.RowKit Go.Mem Go.Lin Go.WideShapes Go.Xpd Go.Den

/- eras in their cells -/
def eraA (e : EraL) : List Value := (eraC e).toList
theorem eraA_len (e : EraL) : (eraA e).length = 13 := rfl
instance : Inhabited EraL := ⟨⟨0, 0, 0, [], [], ⟨false, 0, 0, ⟨0, 0, 0⟩, ⟨0, 0⟩⟩⟩⟩
/-- a slice of eras -/
def ErasAt (w : World) (A : Option Addr) (l : List EraL) : Prop := Rd w 13 A l.length (l.flatMap eraA)
theorem ErasAt.kept {w w' : World} {A : Option Addr} {l : List EraL} (h : ErasAt w A l) (hf : Fr w w' (fun _ => False)) : ErasAt w' A l := Rd.fr h hf (fun _ _ _ _ h => h)
theorem ErasAt.at_ {w : World} {A : Option Addr} {l : List EraL} (h : ErasAt w A l) {i : Nat} {r : EraL} (hr : l[i]? = some r) : ∃ b off, A = some ⟨b, off, none⟩ ∧ ∀ j, j < (eraC r).size → w.cell? ⟨b, off + i * 13 + j, none⟩ = (eraC r)[j]? := by
  obtain ⟨b, off, e, hc⟩ := rows_at eraA_len h hr
  refine ⟨b, off, e, fun j hj => ?_⟩
  rw [hc j hj]
  show (eraC r).toList[j]? = _
  simp
theorem array13 {α : Type} {cs : Array α} (h : cs.size = 13) : ∃ c0 c1 c2 c3 c4 c5 c6 c7 c8 c9 c10 c11 c12, cs = #[c0, c1, c2, c3, c4, c5, c6, c7, c8, c9, c10, c11, c12] := by
  obtain ⟨l⟩ := cs
  match l, h with
  | [c0, c1, c2, c3, c4, c5, c6, c7, c8, c9, c10, c11, c12], _ => exact ⟨c0, c1, c2, c3, c4, c5, c6, c7, c8, c9, c10, c11, c12, rfl⟩
/-- numbers that an int can be, texts that a string can be -/
structure EraR (e : EraL) : Prop where
  off : inR e.off
  kind : inR e.kind
  save : inR e.save
  rules : e.rules.length ≤ maxLen
  format : e.format.length ≤ maxLen
  year : inR e.til.year
  month : inR e.til.month
  k : inR e.til.on.k
  d : inR e.til.on.d
  w : inR e.til.on.w
  s : inR e.til.at_.s
  tk : inR e.til.at_.k
/-- a slice of eras that came in -/
theorem eras_in {H : Type} {enc : TypeId × Value → H} {w : World} {base fuel : Nat} {spare : Nat → Bool} {held : Bool} {a : Option Addr} {len cap : Nat} {x : DataW H × List MemPlace}
    (h : DataW.trod enc Tryd.prog w base spare held fuel 22 [Value.slice a len cap] = some x) :
    ∃ l : List EraL, ErasAt w a l ∧ l.length = len ∧ len ≤ maxLen ∧ ∀ r ∈ l, EraR r := by
  rcases Go.Deep.open_slice Tryd.underlying22 h with ⟨hcs, -⟩ | ⟨ad, l, c, m, n, D, Pl, hcs, hb, hl, hm, hmm, hx, hi⟩
  · simp at hcs
    obtain ⟨rfl, rfl, rfl⟩ := hcs
    exact ⟨[], ⟨rfl, fun h => absurd h (by simp)⟩, rfl, Nat.zero_le _, by simp⟩
  · simp at hcs
    obtain ⟨rfl, rfl, rfl⟩ := hcs
    have hlm : len ≤ m := by rw [hmm]; split <;> omega
    rw [cells_era] at hi
    have each : ∀ i, i < len → ∃ e : EraL, (∀ j, j < 13 → w.cell? (ad.add (i * 13 + j)) = (eraA e)[j]?) ∧ EraR e := by
      intro i hlt
      obtain ⟨cs, h1, h2⟩ := hi i (by omega)
      obtain ⟨-, hlen, hat⟩ := World.cells?_some h1
      obtain ⟨c0, c1, c2, c3, c4, c5, c6, c7, c8, c9, c10, c11, c12, e⟩ := array13 (cs := cs.toArray) (by simpa using hlen)
      have e : cs = [c0, c1, c2, c3, c4, c5, c6, c7, c8, c9, c10, c11, c12] := by simpa using congrArg Array.toList e
      subst e
      obtain ⟨x, e0, e1, e2, e3, e4, e5, e6, e7, e8, e9, e10, e11, e12, g0, g1, g2, g3, g4, g5, g6, g7, g8, g9, g10, g11⟩ := open_era h2
      subst e0 e1 e2 e3 e4 e5 e6 e7 e8 e9 e10 e11 e12
      refine ⟨x, fun j hj => ?_, g0, g1, g2, g3, g4, g5, g6, g7, g8, g9, g10, g11⟩
      have k := hat j hj
      rw [Go.Deep.add_add] at k
      exact k
    obtain ⟨f, hf⟩ := Go.Deep.choose_lt each
    refine ⟨(List.range len).map f, ⟨?_, fun hpos => ?_⟩, by simp, by omega, fun r hr => ?_⟩
    · rw [flat_len eraA 13 eraA_len]
    · rw [List.length_map, List.length_range] at hpos
      have h0 := (hf 0 hpos).1 0 (by omega)
      obtain ⟨b, off, rfl⟩ : ∃ b off, ad = ⟨b, off, none⟩ := by
        obtain ⟨b, off, spot⟩ := ad
        cases spot with
        | none => exact ⟨b, off, rfl⟩
        | some s =>
          exfalso
          have h0 : w.cell? ((⟨b, off, some s⟩ : Addr).add (0 * 13 + 0)) = some (intV (f 0).off) := h0
          simp [Addr.add, World.cell?] at h0
          split at h0 <;> simp at h0
      have hadd : ∀ j, (⟨b, off, none⟩ : Addr).add j = ⟨b, off + j, none⟩ := fun j => by unfold Addr.add; split <;> simp_all
      refine ⟨b, off, rfl, fun j u hu => ?_⟩
      have hj : j < len * 13 := by
        have := (List.getElem?_eq_some_iff.1 hu).1
        rw [flat_len eraA 13 eraA_len, List.length_map, List.length_range] at this
        exact this
      have h1 : ((List.range len).map f)[j / 13]? = some (f (j / 13)) := by
        rw [List.getElem?_map, List.getElem?_range (by omega)]
        rfl
      have h2 := flat_get eraA 13 eraA_len h1 (j % 13) (Nat.mod_lt _ (by omega))
      rw [show j / 13 * 13 + j % 13 = j by omega] at h2
      have h3 := (hf (j / 13) (by omega)).1 (j % 13) (Nat.mod_lt _ (by omega))
      rw [hadd, show j / 13 * 13 + j % 13 = j by omega] at h3
      rw [h3, ← h2, hu]
    · obtain ⟨i, hi, rfl⟩ := List.mem_map.1 hr
      exact (hf i (by simpa using hi)).2

/- slices of rules, as a slice holds them -/
structure RuV where
  A : Option Addr
  c : Nat
  l : List RuleL
instance : Inhabited RuV := ⟨⟨none, 0, []⟩⟩
def ruvL (v : RuV) : List Value := [.slice v.A v.l.length v.c]
theorem ruvL_len (v : RuV) : (ruvL v).length = 1 := rfl
structure RusIn (w : World) (B : Option Addr) (Z : List RuV) : Prop where
  r : Rd w 1 B Z.length (Z.flatMap ruvL)
  e : ∀ v ∈ Z, RusAt w v.A v.l
theorem RusIn.kept {w w' : World} {B : Option Addr} {Z : List RuV} (h : RusIn w B Z) (hf : Fr w w' (fun _ => False)) : RusIn w' B Z := ⟨Rd.fr h.r hf (fun _ _ _ _ h => h), fun v hv => (h.e v hv).kept hf⟩
theorem RusIn.at_ {w : World} {B : Option Addr} {Z : List RuV} (h : RusIn w B Z) {i : Nat} {v : RuV} (hv : Z[i]? = some v) : ∃ b off, B = some ⟨b, off, none⟩ ∧ w.cell? ⟨b, off + i, none⟩ = some (.slice v.A v.l.length v.c) ∧ RusAt w v.A v.l := by
  obtain ⟨b, off, e, hc⟩ := rows_at ruvL_len h.r hv
  have := hc 0 (by omega)
  rw [Nat.mul_one, Nat.add_zero] at this
  exact ⟨b, off, e, this, h.e v (List.mem_of_getElem? hv)⟩
theorem cells_rules : Tryd.prog.cellsOf 47 = 1 := by kernel_rfl
theorem russ_in {H : Type} {enc : TypeId × Value → H} {w : World} {base fuel : Nat} {spare : Nat → Bool} {held : Bool} {a : Option Addr} {len cap : Nat} {x : DataW H × List MemPlace}
    (h : DataW.trod enc Tryd.prog w base spare held fuel 23 [Value.slice a len cap] = some x) :
    ∃ Z : List RuV, RusIn w a Z ∧ Z.length = len ∧ len ≤ maxLen ∧ ∀ v ∈ Z, v.l.length ≤ v.c ∧ v.l.length ≤ maxLen ∧ ∀ r ∈ v.l, RuR r := by
  rcases Go.Deep.open_slice Tryd.underlying23 h with ⟨hcs, -⟩ | ⟨ad, l, c, m, n, D, Pl, hcs, hb, hl, hm, hmm, hx, hi⟩
  · simp at hcs
    obtain ⟨rfl, rfl, rfl⟩ := hcs
    exact ⟨[], ⟨⟨rfl, fun h => absurd h (by simp)⟩, by simp⟩, rfl, Nat.zero_le _, by simp⟩
  · simp at hcs
    obtain ⟨rfl, rfl, rfl⟩ := hcs
    have hlm : len ≤ m := by rw [hmm]; split <;> omega
    rw [cells_rules] at hi
    have each : ∀ i, i < len → ∃ e : RuV, (w.cell? (ad.add i) = some (.slice e.A e.l.length e.c)) ∧ RusAt w e.A e.l ∧ e.l.length ≤ e.c ∧ e.l.length ≤ maxLen ∧ ∀ r ∈ e.l, RuR r := by
      intro i hlt
      obtain ⟨cs, h1, h2⟩ := hi i (by omega)
      obtain ⟨-, hlen, hat⟩ := World.cells?_some h1
      obtain ⟨u, rfl⟩ : ∃ u, cs = [u] := by
        match cs, hlen with
        | [u], _ => exact ⟨u, rfl⟩
      have k := hat 0 (by omega)
      rw [Go.Deep.add_add, Nat.mul_one, Nat.add_zero] at k
      have hu : ∃ a' n' c', u = .slice a' n' c' := by
        rcases Go.Deep.open_slice Tryd.underlying47 h2 with ⟨hcs, -⟩ | ⟨ad', l', c', m', n', D', Pl', hcs, -⟩
        · simp at hcs; exact ⟨_, _, _, hcs⟩
        · simp at hcs; exact ⟨_, _, _, hcs⟩
      obtain ⟨a', n', c', rfl⟩ := hu
      obtain ⟨l', r1, rfl, r3, r4⟩ := rules_in h2
      exact ⟨⟨a', c', l'⟩, k, r1, (rules_cap h2).1, r3, r4⟩
    obtain ⟨f, hf⟩ := Go.Deep.choose_lt each
    have hmem : ∀ v ∈ (List.range len).map f, ∃ i, i < len ∧ v = f i := fun v hv => by
      obtain ⟨i, hi, e⟩ := List.mem_map.1 hv
      exact ⟨i, by simpa using hi, e.symm⟩
    refine ⟨(List.range len).map f, ⟨⟨?_, fun hpos => ?_⟩, fun v hv => ?_⟩, by simp, by omega, fun v hv => ?_⟩
    · rw [flat_len ruvL 1 ruvL_len]
    · rw [List.length_map, List.length_range] at hpos
      have h0 := (hf 0 hpos).1
      obtain ⟨b, off, rfl⟩ : ∃ b off, ad = ⟨b, off, none⟩ := by
        obtain ⟨b, off, spot⟩ := ad
        cases spot with
        | none => exact ⟨b, off, rfl⟩
        | some s =>
          exfalso
          simp [Addr.add, World.cell?] at h0
          split at h0 <;> simp at h0
      have hadd : ∀ j, (⟨b, off, none⟩ : Addr).add j = ⟨b, off + j, none⟩ := fun j => by unfold Addr.add; split <;> simp_all
      refine ⟨b, off, rfl, fun j u hu => ?_⟩
      have hj : j < len := by
        have := (List.getElem?_eq_some_iff.1 hu).1
        rw [flat_len ruvL 1 ruvL_len, List.length_map, List.length_range] at this
        omega
      have h1 : ((List.range len).map f)[j]? = some (f j) := by
        rw [List.getElem?_map, List.getElem?_range hj]
        rfl
      have h2 := flat_get ruvL 1 ruvL_len h1 0 (by omega)
      rw [Nat.mul_one, Nat.add_zero, hu] at h2
      have h3 := (hf j hj).1
      rw [hadd] at h3
      rw [h3, h2]; rfl
    · obtain ⟨i, hi, rfl⟩ := hmem v hv
      exact (hf i hi).2.1
    · obtain ⟨i, hi, rfl⟩ := hmem v hv
      exact (hf i hi).2.2
end Go.Proofs.YtpjmmnhmhjpkkaaDoor
namespace Go.Proofs.YtpjmmnhmhjpkkaaDoor
open Go.RowKit Go.Mem Go.Lin Go.Xpd

/-- rules as Light lets them by -/
structure OkR (r : RuleL) : Prop where
  s : -700000 ≤ r.at_.s ∧ r.at_.s ≤ 700000
  fr : -20000 ≤ r.fr ∧ r.fr ≤ 20000
  to : -20000 ≤ r.to ∧ r.to ≤ 20000
/-- one cell of an element of a row is turned -/
theorem own_put {X : Type} {w : World} {base : Nat} {e : TypeId} {k : Nat} {f : X → List Value} (hf : ∀ x, (f x).length = k) {v : Value} {p q : List X} {x : X} (h : Own w base e k f v (p ++ x :: q)) {j : Nat} (hj : j < k) :
    ∃ g c cur, v = .slice (some ⟨g, 0, none⟩) (p ++ x :: q).length c ∧ base ≤ g ∧ Blk w g e cur ∧ p.length * k + j < cur.size ∧
      ∀ W u y, f y = (f x).set j u → Blk W g e (cur.setIfInBounds (p.length * k + j) u) → Own W base e k f v (p ++ y :: q) := by
  have hl := h.1
  rcases h.2 with ⟨-, h2⟩ | ⟨g, cap, cur, rfl, hg, hb, hn, hm, hs, ht⟩
  · exact absurd h2 (by simp)
  · refine ⟨g, cap, cur, rfl, hg, hb, ?_, fun W u y hy hW => ⟨flat_len f k hf _, ?_⟩⟩
    · have h1 : (p ++ x :: q).length * k ≤ cap * k := Nat.mul_le_mul_right _ hn
      have h2 : (p ++ x :: q).length * k = p.length * k + (q.length + 1) * k := by rw [← Nat.add_mul]; congr 1; simp
      have h3 : k ≤ (q.length + 1) * k := Nat.le_mul_of_pos_left _ (by omega)
      omega
    · have el : (p ++ y :: q).length = (p ++ x :: q).length := by simp
      rw [el]
      refine .inr ⟨g, cap, _, rfl, hg, hW, hn, hm, by rw [Array.size_setIfInBounds]; exact hs, ?_⟩
      rw [Array.toList_setIfInBounds, List.take_set, ht]
      have hp : (p.flatMap f).length = p.length * k := flat_len f k hf p
      rw [List.flatMap_append, List.flatMap_append, ← hp, List.set_append_right _ _ (Nat.le_add_right _ _), Nat.add_sub_cancel_left]
      rw [List.flatMap_cons, List.flatMap_cons, List.set_append_left _ _ (by rw [hf]; exact hj), hy]
end Go.Proofs.YtpjmmnhmhjpkkaaDoor
namespace Go.Proofs.YtpjmmnhmhjpkkaaDoor
open Go.RowKit Go.Mem Go.Lin Go.Xpd

/-- what Light asks of a rule -/
def OkF (r : RuleL) : Prop := -700000 ≤ r.at_.s ∧ r.at_.s ≤ 700000 ∧ -100000 ≤ r.save ∧ r.save ≤ 100000 ∧ r.letter.length ≤ 50 ∧ -20000 ≤ r.fr ∧ r.fr ≤ 20000 ∧ -20000 ≤ r.to ∧ r.to ≤ 20000
instance (r : RuleL) : Decidable (OkF r) := by unfold OkF; infer_instance
def LightP (l : List RuleL) (n : Nat) : Prop := l.length ≤ n ∧ ∀ r ∈ l, OkF r
instance (l : List RuleL) (n : Nat) : Decidable (LightP l n) := by unfold LightP; infer_instance
theorem OkF.okR {r : RuleL} (h : OkF r) : OkR r := by
  obtain ⟨h1, h2, h3, h4, h5, h6, h7, h8, h9⟩ := h
  exact ⟨⟨h1, h2⟩, ⟨h6, h7⟩, ⟨h8, h9⟩⟩
set_option maxHeartbeats 1600000 in
set_option maxRecDepth 100000 in
theorem Light_any (l : List RuleL) (A : Option Addr) (cap n : Nat) (w : World) (hl : RusAt w A l) (hn : n ≤ 1000) (_hm : l.length ≤ maxLen) (hr : ∀ r ∈ l, RuR r) :
    Calls Tryd.prog 10 #[.slice A l.length cap, intV n] w fun e w' => e = .returned (.bool (decide (LightP l n))) ∧ Fr w w' (fun _ => False) := by
  have HL := Lib.hid hl
  have HR := Lib.hid hr
  clear hl hr
  by_cases hgt : n < l.length
  · have h1 : (n : Int) < (l.length : Int) := by omega
    have HN := Lib.hid (show ¬ LightP l n from fun h => by have := h.1; omega)
    clear hgt
    go_enter Tryd.func10, Tryd.ntmps10
    go_wp2_with fail
    go_ret
    exact ⟨by rw [decide_eq_false HN.out]; rfl, Fr.refl _ _⟩
  · have h1 : (l.length : Int) ≤ (n : Int) := by omega
    go_enter Tryd.func10, Tryd.ntmps10
    go_wp2_with fail
    go_loopg [5, 6, 7] l.length (fun k v5 _ _ wr => ∃ i : Nat, i + k = l.length ∧ v5 = intV i ∧ (∀ r ∈ l.take i, OkF r) ∧ Fr w wr (fun _ => False))
    case atStart => exact ⟨0, by simp, rfl, by simp, Fr.refl _ _⟩
    case round =>
      obtain ⟨i, hi, rfl, hp, hf⟩ := hrel
      have HF := Lib.hid hf
      have HP := Lib.hid hp
      by_cases hlt : i < l.length
      · obtain ⟨r, hri⟩ : ∃ r, l[i]? = some r := ⟨l[i], List.getElem?_eq_getElem hlt⟩
        obtain ⟨b, off, hA, hc⟩ := (HL.out.kept hf).at_ hri
        subst hA
        have hrr := HR.out r (List.mem_of_getElem? hri)
        have hll := hrr.letter
        have i0 : (i : Int) < (l.length : Int) := by omega
        have c1 : wr.cell? ⟨b, off + i * 11 + 1, none⟩ = some (.int .i64 r.fr) := hc 1 (show 1 < 11 by decide)
        have c2 : wr.cell? ⟨b, off + i * 11 + 2, none⟩ = some (.int .i64 r.to) := hc 2 (show 2 < 11 by decide)
        have c7 : wr.cell? ⟨b, off + i * 11 + 7, none⟩ = some (.int .i64 r.at_.s) := hc 7 (show 7 < 11 by decide)
        have c9 : wr.cell? ⟨b, off + i * 11 + 9, none⟩ = some (.int .i64 r.save) := hc 9 (show 9 < 11 by decide)
        have c10 : wr.cell? ⟨b, off + i * 11 + 10, none⟩ = some (strV r.letter) := hc 10 (show 10 < 11 by decide)
        have hsz := S6.str_size r.letter
        by_cases hok : OkF r
        · have HN := Lib.hid (show ∀ x ∈ l.take (i + 1), OkF x by
            rw [List.take_add_one, hri]
            intro x hx
            rcases List.mem_append.1 hx with hx | hx
            · exact HP.out x hx
            · have hx : x = r := by simpa using hx
              rw [hx]; exact hok)
          obtain ⟨k1, k2, k3, k4, k5, k6, k7, k8, k9⟩ := hok
          have k5 : (r.letter.length : Int) ≤ 50 := by omega
          clear hri hf hp hc hrr
          go_wp2_with fail
          go_quiet (fail)
          go_wp2_with fail
          go_roundg (l.length - (i + 1))
          case measure => omega
          case rel => exact ⟨i + 1, by omega, by go_num, HN.out, ff4 HF.out (Fr.drewN _ _ _)⟩
        · have HN := Lib.hid (show ¬ LightP l n from fun h => hok (h.2 r (List.mem_of_getElem? hri)))
          have h9 : r.at_.s < -700000 ∨ (-700000 ≤ r.at_.s ∧ 700000 < r.at_.s) ∨ (-700000 ≤ r.at_.s ∧ r.at_.s ≤ 700000 ∧ r.save < -100000) ∨ (-700000 ≤ r.at_.s ∧ r.at_.s ≤ 700000 ∧ -100000 ≤ r.save ∧ 100000 < r.save) ∨
              (-700000 ≤ r.at_.s ∧ r.at_.s ≤ 700000 ∧ -100000 ≤ r.save ∧ r.save ≤ 100000 ∧ (50 < (r.letter.length : Int) ∨ ((r.letter.length : Int) ≤ 50 ∧ (r.fr < -20000 ∨ (-20000 ≤ r.fr ∧ (20000 < r.fr ∨ (r.fr ≤ 20000 ∧ (r.to < -20000 ∨ (-20000 ≤ r.to ∧ 20000 < r.to))))))))) := by
            unfold OkF at hok; omega
          clear hok hri hf hp hc hrr
          rcases h9 with k1 | ⟨k1, k2⟩ | ⟨k1, k2, k3⟩ | ⟨k1, k2, k3, k4⟩ | ⟨k1, k2, k3, k4, k5 | ⟨k5, k6 | ⟨k6, k7 | ⟨k7, k8 | ⟨k8, k9⟩⟩⟩⟩⟩
          all_goals
            go_wp2_with fail
            go_quiet (fail)
            go_wp2_with fail
            go_ret
            exact ⟨by rw [decide_eq_false HN.out]; rfl, ff4 HF.out (Fr.drewN _ _ _)⟩
      · obtain rfl : i = l.length := by omega
        have HN := Lib.hid (show LightP l n from ⟨by omega, fun r hr => hp r (by rw [List.take_length]; exact hr)⟩)
        clear hf hp
        go_wp2_with fail
        go_ret
        exact ⟨by rw [decide_eq_true HN.out]; rfl, HF.out⟩
end Go.Proofs.YtpjmmnhmhjpkkaaDoor
