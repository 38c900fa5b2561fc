import Derived.Test.YtgcheollgnhdlaaGreatDoorLnv
import Derived.Deep.MidRow
import Derived.Great.BuildSlice
namespace Go.Mem
/-- cells of a row, from a place on, turned into others -/
def setMany : Array Value → Nat → List Value → Array Value
  | cs, _, [] => cs
  | cs, o, v :: vs => setMany (cs.setIfInBounds o v) (o + 1) vs
theorem Blk.many {g : Nat} {t : TypeId} : ∀ (vs : List Value) (o : Nat) (cs : Array Value) (w : World), Blk w g t cs → Blk (w.setCells g o vs) g t (setMany cs o vs)
  | [], _, _, _, h => h
  | v :: vs, o, _, _, h => Blk.many vs (o + 1) _ _ (h.put o v)
theorem Fr.many {g : Nat} : ∀ (vs : List Value) (o : Nat) (w : World), Fr w (w.setCells g o vs) (fun i => i = g)
  | [], _, _ => Fr.refl _ _
  | v :: vs, o, _ => (Fr.set (S := fun i => i = g) (a := ⟨g, o, none⟩) (v := v) rfl).trans (Fr.many vs (o + 1) _) (fun _ _ h => h) (fun _ _ h => h)
section
variable {P : Program} {ops : Array Oper} {rest : List Oper} {o : Oper} {a : Act} {w : World} {Q : Exit → Act → World → Prop}
theorem run_loadVar_blk (w : World) (g off : Nat) (ty t : TypeId) (old cs : Array Value) (d : TypeDesc) (hg : Blk w g t old) (hu : P.underlying ty = some d) (hd : d.isRow = true) (hi : (P.info? ty).map (·.size) = some cs.size)
    (hc : ∀ j, j < cs.size → old[off + j]? = cs[j]?) : (loadVar ty ⟨g, off, none⟩).run P w = .ok (.agg cs) w := by
  have := run_loadVar_mid (P := P) w g off ty cs.toList d (fun j v hv => by
    have hj : j < cs.size := by have := (List.getElem?_eq_some_iff.1 hv).1; simpa using this
    rw [cell_at hg, hc j hj]
    simpa using hv) hu hd (by rw [hi]; simp)
  simpa using this
/-- a struct is loaded out of a row -/
theorem wpList_load_blk (ty : TypeId) (x : Operand) (g off : Nat) (t : TypeId) (old cs : Array Value) (d : TypeDesc) (hgd : Region.wanted o (yielded ops a.tmps) = true) (ho : o.op = .load ty x) (hx : a.eval x = .pointer (some ⟨g, off, none⟩)) (hg : Blk w g t old)
    (hu : P.underlying ty = some d) (hd : d.isRow = true) (hi : (P.info? ty).map (·.size) = some cs.size) (hc : ∀ j, j < cs.size → old[off + j]? = cs[j]?)
    (h : wpList P ops Q rest (a.put o.dst (.agg cs)) w) : wpList P ops Q (o :: rest) a w :=
  wpList_step fun _ hK => by
    rw [if_pos hgd]
    unfold Oper.wp execOp
    simp only [ho, hx, Instr.loadAt, Instr.sureAddr, Sem.run_bind, Sem.run_pure, Result.andThen_ok, run_loadVar_blk w g off ty t old cs d hg hu hd hi hc]
    exact hK _ _ h
/-- .. in a region that draws its order -/
theorem yields_blk {S : World → Prop} (ty : TypeId) (x : Operand) (g off : Nat) (t : TypeId) (old cs : Array Value) (d : TypeDesc) (hgd : Region.wanted o (yielded ops a.tmps) = true) (ho : o.op = .load ty x) (hx : a.eval x = .pointer (some ⟨g, off, none⟩)) (hg : ∀ w, S w → Blk w g t old)
    (hu : P.underlying ty = some d) (hd : d.isRow = true) (hi : (P.info? ty).map (·.size) = some cs.size) (hc : ∀ j, j < cs.size → old[off + j]? = cs[j]?) : YieldsIf P ops S o (.agg cs) a :=
  .inl ⟨hgd, fun w hw' => by
    unfold execOp
    simp only [ho, hx, Instr.loadAt, Instr.sureAddr, Sem.run_bind, Sem.run_pure, Result.andThen_ok, run_loadVar_blk w g off ty t old cs d (hg w hw') hu hd hi hc]⟩
/-- a struct is stored into a row: the world behind it is opaque -/
theorem wpList_store_blk (ty : TypeId) (x y : Operand) (g off : Nat) (t : TypeId) (old cells new : Array Value) (hgd : Region.wanted o (yielded ops a.tmps) = true) (ho : o.op = .store ty x y) (hd : o.dst = none) (hx : a.eval x = .pointer (some ⟨g, off, none⟩)) (hy : a.eval y = .agg cells)
    (hg : Blk w g t old) (hi : (P.info? ty).map (·.size) = some cells.size) (h1 : cells.all (·.oneCell') = true) (hfit : off + cells.size ≤ old.size) (hnew : setMany old off cells.toList = new)
    (h : ∀ W, Fr w W (fun i => i = g) → Blk W g t new → wpList P ops Q rest a W) : wpList P ops Q (o :: rest) a w :=
  wpList_step fun _ hK => by
    rw [if_pos hgd]
    have ht : w.there g off cells.size := fun j hj => ⟨by rw [cell_at hg, Array.getElem?_eq_getElem (by omega)]; rfl, free_at hg _⟩
    unfold Oper.wp execOp
    simp only [ho, hx, hy, run_storeAt_mid w g off ty cells ht hi h1, Sem.run_bind, Sem.run_pure, Result.andThen_ok]
    have := hK a _ (h _ (Fr.many cells.toList off w) (by have := Blk.many cells.toList off old w hg; rw [hnew] at this; exact this))
    simpa only [Oper.upon, hd, Act.put] using this
theorem run_storeVar_cell (w : World) (g off : Nat) (t ty : TypeId) (old : Array Value) (v : Value) (hg : Blk w g t old) (hi : (P.info? ty).map (·.size) = some 1) (h1 : v.oneCell' = true) (hfit : off < old.size) : (storeVar ty ⟨g, off, none⟩ v).run P w = .ok () (w.setCell ⟨g, off, none⟩ v) := by
  have hc : v.cells = #[v] := by cases v <;> first | rfl | cases h1
  have hst : (storeCells ⟨g, off, none⟩ [v] 0).run P w = .ok () (w.setCells g (off + 0) [v]) := run_storeCells_cells (P := P) g off [v] 0 w (fun j hj => by
    have : j = 0 := by simpa using hj
    subst this
    rw [cell_at hg, Array.getElem?_eq_getElem (by omega)]; rfl) (fun j _ => free_at hg _) (fun x hx => by simp at hx; subst hx; exact h1)
  cases hq : P.info? ty with
  | none => simp [hq] at hi
  | some i =>
    have hs : i.size = 1 := by simpa [hq] using hi
    simp [storeVar, sizeOf, typeInfo, hq, hc, hs, hst, World.setCells]
/-- a value of one cell is stored into a row: the world behind it is opaque -/
theorem wpList_store_cell (ty : TypeId) (x y : Operand) (g off : Nat) (t : TypeId) (old new : Array Value) (v : Value) (hgd : Region.wanted o (yielded ops a.tmps) = true) (ho : o.op = .store ty x y) (hd : o.dst = none) (hx : a.eval x = .pointer (some ⟨g, off, none⟩)) (hy : a.eval y = v)
    (hg : Blk w g t old) (hi : (P.info? ty).map (·.size) = some 1) (h1 : v.oneCell' = true) (hfit : off < old.size) (hnew : old.setIfInBounds off v = new)
    (h : ∀ W, Fr w W (fun i => i = g) → Blk W g t new → wpList P ops Q rest a W) : wpList P ops Q (o :: rest) a w :=
  wpList_step fun _ hK => by
    rw [if_pos hgd]
    unfold Oper.wp execOp
    simp only [ho, hx, hy, Instr.storeAt, Instr.sureAddr, Sem.run_bind, Sem.run_pure, Result.andThen_ok, run_storeVar_cell w g off t ty old v hg hi h1 hfit]
    have := hK a _ (h _ (Fr.set (S := fun i => i = g) rfl) (hg.put' off v hnew))
    simpa only [Oper.upon, hd, Act.put] using this
end
end Go.Mem
