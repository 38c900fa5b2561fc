import Derived.Test.YtlfjknndkjgciaaGreatDoorYd11
import Derived.Deep.MidRow
import Derived.Great.BuildSlice
import Derived.Test.YtlfjknndkjgciaaGreatDoorYd07
import Derived.Laws.OwnMore
import Derived.OwnWalk
import Derived.Lib.Hide
import Derived.LoopTactic
import Derived.IntWalk
import Derived.Deep.RegionHeld
set_option maxRecDepth 100000
set_option maxHeartbeats 800000
namespace Go.Mem
/-- cells of a row,from a place on,turned into others -/
def Qbx : Array Value → Nat → List Value → Array Value
 | cs,_,[] => cs
 | cs,o,v :: vs => Qbx (cs.setIfInBounds o v) (o + 1) vs
theorem Blk.many {g : Nat} {t : TypeId} : ∀ (vs : List Value) (o : Nat) (cs : Array Value) (w : World),Blk w g t cs → Blk (w.setCells g o vs) g t (Qbx cs o vs)
 | [],_,_,_,h => h
 | v :: vs,o,_,_,h => Blk.many vs (o + 1) _ _ (h.put o v)
theorem Fr.many {g : Nat} : ∀ (vs : List Value) (o : Nat) (w : World),Fr w (w.setCells g o vs) (fun i => i = g)
 | [],_,_ => Fr.refl _ _
 | v :: vs,o,_ => (Fr.set (S := fun i => i = g) (a := ⟨g,o,none⟩) (v := v) rfl).trans (Fr.many vs (o + 1) _) (fun _ _ h => h) (fun _ _ h => h)
section
variable {P : Program} {ops : Array Oper} {rest : List Oper} {o : Oper} {a : Act} {w : World} {Q : Exit → Act → World → Prop}
theorem QeL (w : World) (g off : Nat) (ty t : TypeId) (old cs : Array Value) (d : TypeDesc) (hg : Blk w g t old) (hu : P.underlying ty = some d) (hd : d.isRow = true) (hi : (P.info? ty).map (·.size) = some cs.size)
  (hc : ∀ j,j < cs.size → old[off + j]? = cs[j]?) : (loadVar ty ⟨g,off,none⟩).run P w = .ok (.agg cs) w := by
 have := run_loadVar_mid (P := P) w g off ty cs.toList d (fun j v hv => by
  have hj : j < cs.size := by have := (List.getElem?_eq_some_iff.1 hv).1; simpa using this
  rw [Qaa hg,hc j hj];simpa using hv) hu hd (by rw [hi]; simp)
 simpa using this
/-- a struct is loaded out of a row -/
theorem Qb2 (ty : TypeId) (x : Operand) (g off : Nat) (t : TypeId) (old cs : Array Value) (d : TypeDesc) (hgd : Region.wanted o (yielded ops a.tmps) = true) (ho : o.op = .load ty x) (hx : a.eval x = .pointer (some ⟨g,off,none⟩)) (hg : Blk w g t old)
  (hu : P.underlying ty = some d) (hd : d.isRow = true) (hi : (P.info? ty).map (·.size) = some cs.size) (hc : ∀ j,j < cs.size → old[off + j]? = cs[j]?)
  (h : wpList P ops Q rest (a.put o.dst (.agg cs)) w) : wpList P ops Q (o :: rest) a w :=
 wpList_step fun _ hK => by
  rw [if_pos hgd];unfold Oper.wp execOp;simp only [ho,hx,Instr.loadAt,Instr.sureAddr,Sem.run_bind,Sem.run_pure,Result.andThen_ok,QeL w g off ty t old cs d hg hu hd hi hc];exact hK _ _ h
/-- .. in a region that draws its order -/
theorem Qe2 {S : World → Prop} (ty : TypeId) (x : Operand) (g off : Nat) (t : TypeId) (old cs : Array Value) (d : TypeDesc) (hgd : Region.wanted o (yielded ops a.tmps) = true) (ho : o.op = .load ty x) (hx : a.eval x = .pointer (some ⟨g,off,none⟩)) (hg : ∀ w,S w → Blk w g t old)
  (hu : P.underlying ty = some d) (hd : d.isRow = true) (hi : (P.info? ty).map (·.size) = some cs.size) (hc : ∀ j,j < cs.size → old[off + j]? = cs[j]?) : YieldsIf P ops S o (.agg cs) a :=
 .inl ⟨hgd,fun w hw' => by
  unfold execOp;simp only [ho,hx,Instr.loadAt,Instr.sureAddr,Sem.run_bind,Sem.run_pure,Result.andThen_ok,QeL w g off ty t old cs d (hg w hw') hu hd hi hc]⟩
/-- a struct is stored into a row: the world behind it is opaque -/
theorem Qbg (ty : TypeId) (x y : Operand) (g off : Nat) (t : TypeId) (old cells new : Array Value) (hgd : Region.wanted o (yielded ops a.tmps) = true) (ho : o.op = .store ty x y) (hd : o.dst = none) (hx : a.eval x = .pointer (some ⟨g,off,none⟩)) (hy : a.eval y = .agg cells)
  (hg : Blk w g t old) (hi : (P.info? ty).map (·.size) = some cells.size) (h1 : cells.all (·.oneCell') = true) (hfit : off + cells.size ≤ old.size) (hnew : Qbx old off cells.toList = new)
  (h : ∀ W,Fr w W (fun i => i = g) → Blk W g t new → wpList P ops Q rest a W) : wpList P ops Q (o :: rest) a w :=
 wpList_step fun _ hK => by
  rw [if_pos hgd];have ht : w.there g off cells.size := fun j hj => ⟨by rw [Qaa hg,Array.getElem?_eq_getElem (by omega)]; rfl,Qac hg _⟩;unfold Oper.wp execOp;simp only [ho,hx,hy,run_storeAt_mid w g off ty cells ht hi h1,Sem.run_bind,Sem.run_pure,Result.andThen_ok];have := hK a _ (h _ (Fr.many cells.toList off w) (by have := Blk.many cells.toList off old w hg; rw [hnew] at this; exact this));simpa only [Oper.upon,hd,Act.put] using this
theorem QdX (w : World) (g off : Nat) (t ty : TypeId) (old : Array Value) (v : Value) (hg : Blk w g t old) (hi : (P.info? ty).map (·.size) = some 1) (h1 : v.oneCell' = true) (hfit : off < old.size) : (storeVar ty ⟨g,off,none⟩ v).run P w = .ok () (w.setCell ⟨g,off,none⟩ v) := by
 have hc : v.cells = #[v] := by cases v <;> first | rfl | cases h1
 have hst : (storeCells ⟨g,off,none⟩ [v] 0).run P w = .ok () (w.setCells g (off + 0) [v]) := run_storeCells_cells (P := P) g off [v] 0 w (fun j hj => by
  have : j = 0 := by simpa using hj
  subst this;rw [Qaa hg,Array.getElem?_eq_getElem (by omega)]; rfl) (fun j _ => Qac hg _) (fun x hx => by simp at hx; subst hx; exact h1)
 cases hq : P.info? ty with
 | none => simp [hq] at hi
 | some i =>
  have hs : i.size = 1 := by simpa [hq] using hi
  simp [storeVar,sizeOf,typeInfo,hq,hc,hs,hst,World.setCells]
/-- a value of one cell is stored into a row: the world behind it is opaque -/
theorem QcO (ty : TypeId) (x y : Operand) (g off : Nat) (t : TypeId) (old new : Array Value) (v : Value) (hgd : Region.wanted o (yielded ops a.tmps) = true) (ho : o.op = .store ty x y) (hd : o.dst = none) (hx : a.eval x = .pointer (some ⟨g,off,none⟩)) (hy : a.eval y = v)
  (hg : Blk w g t old) (hi : (P.info? ty).map (·.size) = some 1) (h1 : v.oneCell' = true) (hfit : off < old.size) (hnew : old.setIfInBounds off v = new)
  (h : ∀ W,Fr w W (fun i => i = g) → Blk W g t new → wpList P ops Q rest a W) : wpList P ops Q (o :: rest) a w :=
 wpList_step fun _ hK => by
  rw [if_pos hgd];unfold Oper.wp execOp;simp only [ho,hx,hy,Instr.storeAt,Instr.sureAddr,Sem.run_bind,Sem.run_pure,Result.andThen_ok,QdX w g off t ty old v hg hi h1 hfit];have := hK a _ (h _ (Fr.set (S := fun i => i = g) rfl) (hg.put' off v hnew));simpa only [Oper.upon,hd,Act.put] using this
end
end Go.Mem
namespace Go
open Go.RowKit Go.Mem
section
variable {P : Program} {ops : Array Oper} {rest : List Oper} {o : Oper} {a : Act} {w : World} {Q : Exit → Act → World → Prop}
theorem Xl (ty : TypeId) {x : Operand} (g off : Nat) (t : TypeId) (old cs : Array Value) {d : TypeDesc} (hg : Blk w g t old) (hu : P.underlying ty = some d) (hi : (P.info? ty).map (·.size) = some cs.size) (hc : ∀ j,j < cs.size → old[off + j]? = cs[j]?) (h : wpList P ops Q rest (a.put o.dst (.agg cs)) w) (hgd : Region.wanted o (yielded ops a.tmps) = true := by rfl) (ho : o.op = .load ty x := by exact rfl) (hx : a.eval x = .pointer (some ⟨g,off,none⟩) := by exact rfl) (hd : d.isRow = true := by exact rfl) : wpList P ops Q (o :: rest) a w :=
 Go.Mem.Qb2 ty x g off t old cs d hgd ho hx hg hu hd hi hc h
theorem Xs (ty : TypeId) {x y : Operand} (g off : Nat) (t : TypeId) (old cells new : Array Value) (hg : Blk w g t old) (hi : (P.info? ty).map (·.size) = some cells.size) (h1 : cells.all (·.oneCell') = true) (hnew : Qbx old off cells.toList = new) (h : ∀ W,Fr w W (fun i => i = g) → Blk W g t new → wpList P ops Q rest a W) (hgd : Region.wanted o (yielded ops a.tmps) = true := by rfl) (ho : o.op = .store ty x y := by exact rfl) (hd : o.dst = none := by exact rfl) (hx : a.eval x = .pointer (some ⟨g,off,none⟩) := by exact rfl) (hy : a.eval y = .agg cells := by exact rfl) (hfit : off + cells.size ≤ old.size := by exact of_decide_eq_true rfl) : wpList P ops Q (o :: rest) a w :=
 Go.Mem.Qbg ty x y g off t old cells new hgd ho hd hx hy hg hi h1 hfit hnew h
theorem Xc (ty : TypeId) {x y : Operand} (g off : Nat) (t : TypeId) (old new : Array Value) (v : Value) (hg : Blk w g t old) (hi : (P.info? ty).map (·.size) = some 1) (hnew : old.setIfInBounds off v = new) (h : ∀ W,Fr w W (fun i => i = g) → Blk W g t new → wpList P ops Q rest a W) (hgd : Region.wanted o (yielded ops a.tmps) = true := by rfl) (ho : o.op = .store ty x y := by exact rfl) (hd : o.dst = none := by exact rfl) (hx : a.eval x = .pointer (some ⟨g,off,none⟩) := by exact rfl) (hy : a.eval y = v := by exact rfl) (h1 : v.oneCell' = true := by rfl) (hfit : off < old.size := by exact of_decide_eq_true rfl) : wpList P ops Q (o :: rest) a w :=
 Go.Mem.QcO ty x y g off t old new v hgd ho hd hx hy hg hi h1 hfit hnew h
end
end Go

namespace Go.Proofs.YtlfjknndkjgciaaGreatDoor
open Go.RowKit Go.Mem Go.Lin

theorem Qaj (l : LineL) : (Qad l).all (·.oneCell') = true := by simp [Qad,Value.oneCell']
theorem QaL (l : LineL) : (Tryz.prog.info? 58).map (·.size) = some (Qad l).size := show _ = some 29 by kernel_rfl
/- a line's QkW in its cells -/
theorem Qmy {P : Nat → Prop} (h : P 0 ∧ P 1 ∧ P 2 ∧ P 3 ∧ P 4 ∧ P 5 ∧ P 6 ∧ P 7 ∧ P 8 ∧ P 9 ∧ P 10) : ∀ j,j < 11 → P j := by
 obtain ⟨h0,h1,h2,h3,h4,h5,h6,h7,h8,h9,h10⟩ := h;intro j hj
 match j,hj with
 | 0,_ => exact h0
 | 1,_ => exact h1
 | 2,_ => exact h2
 | 3,_ => exact h3
 | 4,_ => exact h4
 | 5,_ => exact h5
 | 6,_ => exact h6
 | 7,_ => exact h7
 | 8,_ => exact h8
 | 9,_ => exact h9
 | 10,_ => exact h10
theorem below_13 {P : Nat → Prop} (h : ∀ j,j < 11 → P j) (h11 : P 11) (h12 : P 12) : ∀ j,j < 13 → P j := by
 intro j hj;by_cases h1 : j < 11
 ·exact h j h1
 ·by_cases h2 : j = 11
  ·rw [h2]; exact h11
  ·rw [show j = 12 by omega]; exact h12
theorem Qho (l : LineL) : ∀ j,j < (Qam l.rule).size → (Qad l)[1 + j]? = (Qam l.rule)[j]? := Qmy (P := fun j => (Qad l)[1 + j]? = (Qam l.rule)[j]?) ⟨rfl,rfl,rfl,rfl,rfl,rfl,rfl,rfl,rfl,rfl,rfl⟩
theorem QfX (l : LineL) : ∀ j,j < (eraC l.era).size → (Qad l)[14 + j]? = (eraC l.era)[j]? := below_13 (P := fun j => (Qad l)[14 + j]? = (eraC l.era)[j]?) (Qmy ⟨rfl,rfl,rfl,rfl,rfl,rfl,rfl,rfl,rfl,rfl,rfl⟩) rfl rfl
theorem QeN (l : LineL) : ∀ j,j < (Qad l).size → (Qad l)[0 + j]? = (Qad l)[j]? := fun j _ => by rw [Nat.zero_add]
theorem QbF (r : RuleL) : (Qam r).all (·.oneCell') = true := by simp [Qam,Value.oneCell']
theorem Qax (e : EraL) : (eraC e).all (·.oneCell') = true := by simp [eraC,Value.oneCell']
theorem Qcg (r : RuleL) : (Tryz.prog.info? 51).map (·.size) = some (Qam r).size := show _ = some 11 by kernel_rfl
theorem QaO (e : EraL) : (Tryz.prog.info? 55).map (·.size) = some (eraC e).size := show _ = some 13 by kernel_rfl
theorem QaX : (Tryz.prog.info? 9).map (·.size) = some 1 := by kernel_rfl
theorem QaG : (Tryz.prog.info? 3).map (·.size) = some 1 := by kernel_rfl
theorem QfZ : ∀ (vs : List Value) (o : Nat) (cs : Array Value),o + vs.length ≤ cs.size → (Qbx cs o vs).toList = cs.toList.take o ++ (vs ++ cs.toList.drop (o + vs.length))
 | [],o,cs,_ => by simp [Qbx]
 | v :: vs,o,cs,h => by
  have h : o + (vs.length + 1) ≤ cs.size := h;rw [Qbx,QfZ vs (o + 1) _ (by simp; omega)];simp only [Array.toList_setIfInBounds,List.length_cons];have e1 : (cs.toList.set o v).take (o + 1) = cs.toList.take o ++ [v] := by
   rw [List.take_set,List.take_succ_eq_append_getElem (by simp; omega),List.set_append_right _ _ (by simp; omega)];simp;rw [Nat.min_eq_left (by omega)];simp
  have e2 : (cs.toList.set o v).drop (o + 1 + vs.length) = cs.toList.drop (o + (vs.length + 1)) := by
   rw [List.drop_set_of_lt (by omega)];congr 1;omega
  rw [e1,e2,List.append_assoc];rfl
theorem QdP {vs : List Value} {o : Nat} {cs new : Array Value} (h : o + vs.length ≤ cs.size) (hn : cs.toList.take o ++ (vs ++ cs.toList.drop (o + vs.length)) = new.toList) : Qbx cs o vs = new :=
 Array.toList_inj.1 ((QfZ vs o cs h).trans hn)
theorem Qao (l m : LineL) : Qbx (Qad l) 0 (Qad m).toList = Qad m := QdP (Nat.le_refl 29) rfl
theorem QiW (l : LineL) (r : RuleL) : Qbx (Qad l) 1 (Qam r).toList = Qad { l with rule := r } := QdP (show 1 + 11 ≤ 29 by decide) rfl
theorem Qgh (l : LineL) (e : EraL) : Qbx (Qad l) 14 (eraC e).toList = Qad { l with era := e } := QdP (show 14 + 13 ≤ 29 by decide) rfl
/- a rule's,an until's,an era's QkW in their cells -/
def dayC (d : DayL) : Array Value := #[intV d.k,intV d.d,intV d.w]
def atC (t : AtL) : Array Value := #[intV t.s,intV t.k]
theorem QaA (u : UntilL) : (tilC u).all (·.oneCell') = true := by simp [tilC,Value.oneCell']
theorem QbJ (d : DayL) : (dayC d).all (·.oneCell') = true := by simp [dayC,Value.oneCell']
theorem QcX (t : AtL) : (atC t).all (·.oneCell') = true := by simp [atC,Value.oneCell']
theorem Qa3 (u : UntilL) : (Tryz.prog.info? 53).map (·.size) = some (tilC u).size := show _ = some 8 by kernel_rfl
theorem Qcs (d : DayL) : (Tryz.prog.info? 47).map (·.size) = some (dayC d).size := show _ = some 3 by kernel_rfl
theorem QeR (t : AtL) : (Tryz.prog.info? 49).map (·.size) = some (atC t).size := show _ = some 2 by kernel_rfl
theorem QfA : (Tryz.prog.info? 91).map (·.size) = some 1 := by kernel_rfl
theorem Qaf (cs : Array Value) : ∀ j,j < cs.size → cs[0 + j]? = cs[j]? := fun j _ => by rw [Nat.zero_add]
theorem QaK {cs ds : Array Value} (h : cs.size = ds.size) : Qbx cs 0 ds.toList = ds := QdP (by simp [h]) (by simp [h])
theorem Qd0 (r s : RuleL) : Qbx (Qam r) 0 (Qam s).toList = Qam s := QaK rfl
theorem QbL (r s : EraL) : Qbx (eraC r) 0 (eraC s).toList = eraC s := QaK rfl
theorem Qcf (r s : UntilL) : Qbx (tilC r) 0 (tilC s).toList = tilC s := QaK rfl
theorem put_r0 (r : RuleL) (v : Bs) : (Qam r).setIfInBounds 0 (strV v) = Qam { r with name := v } := rfl
theorem put_r1 (r : RuleL) (v : Int) : (Qam r).setIfInBounds 1 (intV v) = Qam { r with fr := v } := rfl
theorem QoU (r : RuleL) (v : Int) : (Qam r).setIfInBounds 2 (intV v) = Qam ⟨r.name,r.fr,v,r.month,r.on,r.at_,r.save,r.letter⟩ := rfl
theorem QoT (r : RuleL) (v : Int) : (Qam r).setIfInBounds 3 (intV v) = Qam { r with month := v } := rfl
theorem put_r4 (r : RuleL) (v : DayL) : Qbx (Qam r) 4 (dayC v).toList = Qam { r with on := v } := QdP (show 4 + 3 ≤ 11 by decide) rfl
theorem QoS (r : RuleL) (v : AtL) : Qbx (Qam r) 7 (atC v).toList = Qam { r with at_ := v } := QdP (show 7 + 2 ≤ 11 by decide) rfl
theorem QoR (r : RuleL) (v : Int) : (Qam r).setIfInBounds 9 (intV v) = Qam { r with save := v } := rfl
theorem QkT (r : RuleL) (v : Bs) : (Qam r).setIfInBounds 10 (strV v) = Qam { r with letter := v } := rfl
theorem QoV (e : EraL) (v : Int) : (eraC e).setIfInBounds 0 (intV v) = eraC { e with off := v } := rfl
theorem Qd1 (e : EraL) (v : Bs) : (eraC e).setIfInBounds 4 (strV v) = eraC { e with format := v } := rfl
theorem Qhn (e : EraL) (v : UntilL) : Qbx (eraC e) 5 (tilC v).toList = eraC { e with til := v } := QdP (show 5 + 8 ≤ 13 by decide) rfl
theorem QjN (u : UntilL) (v : Int) : (tilC u).setIfInBounds 1 (intV v) = tilC { u with year := v } := rfl
theorem Qhm (u : UntilL) (v : Int) : (tilC u).setIfInBounds 2 (intV v) = tilC { u with month := v } := rfl
theorem Ql1 (u : UntilL) (v : DayL) : Qbx (tilC u) 3 (dayC v).toList = tilC { u with on := v } := QdP (show 3 + 3 ≤ 8 by decide) rfl
theorem QoQ (u : UntilL) (v : AtL) : Qbx (tilC u) 6 (atC v).toList = tilC { u with at_ := v } := QdP (show 6 + 2 ≤ 8 by decide) rfl
theorem Qij (l : LineL) (v : Bs) : (Qad l).setIfInBounds 12 (strV v) = Qad { l with name := v } := rfl
theorem Ql2 (l : LineL) (v : Bs) : (Qad l).setIfInBounds 13 (strV v) = Qad { l with target := v } := rfl
theorem below_3 {P : Nat → Prop} (h0 : P 0) (h1 : P 1) (h2 : P 2) : ∀ j,j < 3 → P j := by
 intro j hj
 match j,hj with
 | 0,_ => exact h0
 | 1,_ => exact h1
 | 2,_ => exact h2
end Go.Proofs.YtlfjknndkjgciaaGreatDoor
namespace Go.Mem
/- rows of structs -/
theorem QdJ {X : Type} (f : X → List Value) (k : Nat) (hf : ∀ x,(f x).length = k) : ∀ {l : List X} {i : Nat} {x : X},l[i]? = some x → ∀ j,j < k → (l.flatMap f)[i * k + j]? = (f x)[j]?
 | [],i,x,h,_,_ => by simp at h
 | y :: l,0,x,h,j,hj => by
  have h : y = x := by simpa using h
  subst h;rw [List.flatMap_cons,Nat.zero_mul,Nat.zero_add,List.getElem?_append_left (by rw [hf]; exact hj)]
 | y :: l,i + 1,x,h,j,hj => by
  have ih := QdJ f k hf (l := l) (i := i) (x := x) (by simpa using h) j hj;rw [List.flatMap_cons,show (i + 1) * k + j = (f y).length + (i * k + j) by rw [hf,Nat.add_mul]; omega,List.getElem?_append_right (by omega),Nat.add_sub_cancel_left];exact ih
theorem Qdj {X : Type} (f : X → List Value) (k : Nat) (hf : ∀ x,(f x).length = k) : ∀ l : List X,(l.flatMap f).length = l.length * k
 | [] => by simp
 | y :: l => by rw [List.flatMap_cons,List.length_append,Qdj f k hf l,hf,List.length_cons,Nat.add_mul]; omega
/-- an element of a slice of structs -/
theorem Qhh {X : Type} {f : X → List Value} {k : Nat} (hf : ∀ x,(f x).length = k) {w : World} {A : Option Addr} {l : List X} (h : Rd w k A l.length (l.flatMap f)) {i : Nat} {x : X} (hx : l[i]? = some x) :
  ∃ b off,A = some ⟨b,off,none⟩ ∧ ∀ j,j < k → w.cell? ⟨b,off + i * k + j,none⟩ = (f x)[j]? := by
 have hi := (List.getElem?_eq_some_iff.1 hx).1;obtain ⟨b,off,e,hc⟩ := h.2 (by omega);refine ⟨b,off,e,fun j hj => ?_⟩;have hg := QdJ f k hf hx j hj;have hj' : j < (f x).length := by rw [hf]; exact hj
 rw [List.getElem?_eq_getElem hj'] at hg ⊢;have := hc _ _ hg;rw [← Nat.add_assoc] at this;exact this
section
variable {P : Program} {ops : Array Oper} {rest : List Oper} {o : Oper} {a : Act} {w : World} {Q : Exit → Act → World → Prop}
theorem Qfk (w : World) (g off : Nat) (ty : TypeId) (cs : Array Value) (d : TypeDesc) (hc : ∀ j,j < cs.size → w.cell? ⟨g,off + j,none⟩ = cs[j]?) (hu : P.underlying ty = some d) (hd : d.isRow = true) (hi : (P.info? ty).map (·.size) = some cs.size) :
  (loadVar ty ⟨g,off,none⟩).run P w = .ok (.agg cs) w := by
 have := run_loadVar_mid (P := P) w g off ty cs.toList d (fun j v hv => by
  have hj : j < cs.size := by have := (List.getElem?_eq_some_iff.1 hv).1; simpa using this
  rw [hc j hj];simpa using hv) hu hd (by rw [hi]; simp)
 simpa using this
/-- a struct is loaded out of a slice -/
theorem QaP (ty : TypeId) (x : Operand) (g off : Nat) (cs : Array Value) (d : TypeDesc) (hgd : Region.wanted o (yielded ops a.tmps) = true) (ho : o.op = .load ty x) (hx : a.eval x = .pointer (some ⟨g,off,none⟩)) (hc : ∀ j,j < cs.size → w.cell? ⟨g,off + j,none⟩ = cs[j]?)
  (hu : P.underlying ty = some d) (hd : d.isRow = true) (hi : (P.info? ty).map (·.size) = some cs.size)
  (h : wpList P ops Q rest (a.put o.dst (.agg cs)) w) : wpList P ops Q (o :: rest) a w :=
 wpList_step fun _ hK => by
  rw [if_pos hgd];unfold Oper.wp execOp;simp only [ho,hx,Instr.loadAt,Instr.sureAddr,Sem.run_bind,Sem.run_pure,Result.andThen_ok,Qfk w g off ty cs d hc hu hd hi];exact hK _ _ h
theorem Qch {S : World → Prop} (ty : TypeId) (x : Operand) (g off : Nat) (cs : Array Value) (d : TypeDesc) (hgd : Region.wanted o (yielded ops a.tmps) = true) (ho : o.op = .load ty x) (hx : a.eval x = .pointer (some ⟨g,off,none⟩)) (hc : ∀ w,S w → ∀ j,j < cs.size → w.cell? ⟨g,off + j,none⟩ = cs[j]?)
  (hu : P.underlying ty = some d) (hd : d.isRow = true) (hi : (P.info? ty).map (·.size) = some cs.size) : YieldsIf P ops S o (.agg cs) a :=
 .inl ⟨hgd,fun w hw' => by
  unfold execOp;simp only [ho,hx,Instr.loadAt,Instr.sureAddr,Sem.run_bind,Sem.run_pure,Result.andThen_ok,Qfk w g off ty cs d (hc w hw') hu hd hi]⟩
end
theorem blkc {w : World} {g : Nat} {t : TypeId} {cs : Array Value} (h : Blk w g t cs) (i : Nat) (v : Value) (hv : cs[i]? = some v) : w.cell? ⟨g,i,none⟩ = some v := (Qaa h i).trans hv
theorem QaF {w W : World} {S : Nat → Prop} (hf : Fr w W S) {b i : Nat} {v : Value} (h : w.cell? ⟨b,i,none⟩ = some v) (hs : ¬ S b) : W.cell? ⟨b,i,none⟩ = some v := by
 rw [World.cell?_of_block (w := w) (hf.block b (World.block_lt_of_cell? w _ h) hs)];exact h
theorem QbA {w W : World} {S : Nat → Prop} (hf : Fr w W S) {b : Nat} {off k : Nat} {cs : Array Value} (h : ∀ j,j < k → w.cell? ⟨b,off + j,none⟩ = cs[j]?) (hk : k ≤ cs.size) (hs : ¬ S b) : ∀ j,j < k → W.cell? ⟨b,off + j,none⟩ = cs[j]? := by
 intro j hj;have := h j hj;rw [Array.getElem?_eq_getElem (by omega)] at this ⊢;exact QaF hf this hs
end Go.Mem
namespace Go.Proofs.YtlfjknndkjgciaaGreatDoor
open Go.RowKit Go.Mem Go.Lin Go.Dcm

/- a document's QkW in their cells -/
def Qen (x : LineL) : List Value := (Qad x).toList
def Qbu (r : RuleL × Int) : List Value := (Qam r.1).toList ++ [intV r.2]
def Qcp (x : LinkL) : List Value := [strV x.target,strV x.name,intV x.line]
def QcM (x : DiagL) : List Value := [strV [],intV x.line,intV x.col,intV x.k]
def eraL (e : EraL) : List Value := (eraC e).toList
def intL (n : Int) : List Value := [intV n]
/-- a zone,its eras and its lines -/
abbrev ZV := ZoneL × Value × Value
def Qa1 (z : ZV) : List Value := [strV z.1.name,z.2.1,z.2.2]
theorem Qd5 (x : LineL) : (Qen x).length = 29 := rfl
theorem Qhd (r : RuleL × Int) : (Qbu r).length = 12 := rfl
theorem Qhz (x : LinkL) : (Qcp x).length = 3 := rfl
theorem Qj8 (x : DiagL) : (QcM x).length = 4 := rfl
theorem Qmn (x : EraL) : (eraL x).length = 13 := rfl
theorem Qi5 (x : Int) : (intL x).length = 1 := rfl
theorem QcF (x : ZV) : (Qa1 x).length = 3 := rfl
/-- v owns a row of structs -/
def Own {X : Type} (w : World) (base : Nat) (e : TypeId) (k : Nat) (f : X → List Value) (v : Value) (l : List X) : Prop := w.ownsRow base e k v l.length (l.flatMap f)
theorem Own.fr {X : Type} {w w' : World} {S : Nat → Prop} {base : Nat} {e : TypeId} {k : Nat} {f : X → List Value} {v : Value} {l : List X} (h : Own w base e k f v l) (hf : Fr w w' S) (hg : ∀ g,v.ownBlock = some g → ¬ S g) : Own w' base e k f v l := hf.own h hg
theorem Own.kept {X : Type} {w w' : World} {base : Nat} {e : TypeId} {k : Nat} {f : X → List Value} {v : Value} {l : List X} (h : Own w base e k f v l) (hf : Fr w w' (fun _ => False)) : Own w' base e k f v l := hf.own h (fun _ _ h => h)
theorem Own.slice {X : Type} {w : World} {base : Nat} {e : TypeId} {k : Nat} {f : X → List Value} {v : Value} {l : List X} (h : Own w base e k f v l) : ∃ A c,v = .slice A l.length c := QaJ h
theorem Own.rd {X : Type} {w : World} {base : Nat} {e : TypeId} {k : Nat} {f : X → List Value} {v : Value} {l : List X} (h : Own w base e k f v l) : ∃ A c,v = .slice A l.length c ∧ l.length ≤ c ∧ c ≤ maxLen ∧ Rd w k A l.length (l.flatMap f) := by
 obtain ⟨A,c,h1,h2,h3,h4,-⟩ := Qex h;exact ⟨A,c,h1,h2,h3,h4⟩
/-- the rows of a zone -/
structure ZAt (w : World) (base : Nat) (z : ZV) : Prop where
 e : Own w base 55 13 eraL z.2.1 z.1.eras
 l : Own w base 3 1 intL z.2.2 z.1.lines
theorem ZAt.kept {w w' : World} {base : Nat} {z : ZV} (h : ZAt w base z) (hf : Fr w w' (fun _ => False)) : ZAt w' base z := ⟨h.e.kept hf,h.l.kept hf⟩
/-- four slices that hold a document (its types of a rule,a zone,a link) -/
structure DocAt (tr tz tl : TypeId) (w : World) (base : Nat) (vr vz vl vd : Value) (d : DocL) : Prop where
 r : Own w base tr 12 Qbu vr d.rules
 z : ∃ zv : List ZV,zv.map (·.1) = d.zones ∧ Own w base tz 3 Qa1 vz zv ∧ ∀ x ∈ zv,ZAt w base x
 l : Own w base tl 3 Qcp vl d.links
 g : Own w base 65 4 QcM vd d.diags
theorem DocAt.kept {tr tz tl : TypeId} {w w' : World} {base : Nat} {vr vz vl vd : Value} {d : DocL} (h : DocAt tr tz tl w base vr vz vl vd d) (hf : Fr w w' (fun _ => False)) : DocAt tr tz tl w' base vr vz vl vd d := by
 obtain ⟨zv,h1,h2,h3⟩ := h.z;exact ⟨h.r.kept hf,⟨zv,h1,h2.kept hf,fun x hx => (h3 x hx).kept hf⟩,h.l.kept hf,h.g.kept hf⟩
end Go.Proofs.YtlfjknndkjgciaaGreatDoor
namespace Go.Proofs.YtlfjknndkjgciaaGreatDoor
open Go.RowKit Go.Mem Go.Lin Go.Dcm

theorem Qdi : (Tryz.prog.info? 65).map (fun i => (i.zero,i.size,i.bytes)) = some (some (.agg #[strV [],intV 0,intV 0,intV 0]),4,40) := by kernel_rfl
theorem Qpt : (Tryz.prog.info? 72).map (fun i => (i.zero,i.size,i.bytes)) = some (some (.agg (Qbu (QdO,0)).toArray),12,112) := by kernel_rfl
theorem Qpu : (Tryz.prog.info? 78).map (fun i => (i.zero,i.size,i.bytes)) = some (some (.agg #[strV [],strV [],intV 0]),3,40) := by kernel_rfl
theorem Qps : (Tryz.prog.info? 71).map (fun i => (i.zero,i.size,i.bytes)) = some (some (.agg #[strV [],.slice none 0 0,.slice none 0 0]),3,64) := by kernel_rfl
theorem QhE : (Tryz.prog.info? 61).map (fun i => (i.zero,i.size,i.bytes)) = some (some (.agg (Qbu (QdO,0)).toArray),12,112) := by kernel_rfl
theorem QhF : (Tryz.prog.info? 63).map (fun i => (i.zero,i.size,i.bytes)) = some (some (.agg #[strV [],strV [],intV 0]),3,40) := by kernel_rfl
theorem QhD : (Tryz.prog.info? 69).map (fun i => (i.zero,i.size,i.bytes)) = some (some (.agg #[strV [],.slice none 0 0,.slice none 0 0]),3,64) := by kernel_rfl
theorem Qpr : (Tryz.prog.info? 55).map (fun i => (i.zero,i.size,i.bytes)) = some (some (.agg (eraC eraZ)),13,120) := by kernel_rfl
theorem Qpq : (Tryz.prog.info? 3).map (fun i => (i.zero,i.size,i.bytes)) = some (some (intV 0),1,8) := by kernel_rfl
/-- a row of one element,just made -/
theorem Qb5 (w : World) (t : TypeId) (cs : Array Value) : Rd (w.alloc (.cells cs t)) cs.size (some ⟨w.heap.size,0,none⟩) 1 cs.toList := by
 refine ⟨by simp,fun _ => ⟨w.heap.size,0,rfl,fun j u hu => ?_⟩⟩;have := Qaa (Blk.made w t cs) j;rw [Nat.zero_add,this];simpa using hu
theorem QaZ {cs : Array Value} (h : cs.all (·.oneCell') = true) : ∀ u ∈ cs.toList,u.oneCell' = true := by
 intro u hu;have := (Array.all_eq_true' ).1 h u (by simpa using hu);exact this
/-- a row with one element more -/
theorem Qbw {X : Type} {w : World} {base : Nat} {e : TypeId} {k : Nat} {f : X → List Value} {v : Value} {l : List X} {x : X} {cs : List Value} (h : w.ownsRow base e k v (l.length + 1) (l.flatMap f ++ cs)) (hc : cs = f x) : Own w base e k f v (l ++ [x]) := by
 subst hc;show w.ownsRow base e k v (l ++ [x]).length ((l ++ [x]).flatMap f);simpa using h
theorem Qca {X : Type} (w : World) (base : Nat) (e : TypeId) (k : Nat) (f : X → List Value) : Own w base e k f (.slice none 0 0) ([] : List X) := World.ownsRow_nil _ _ _ _
/-- a row of one element,just made,as a row of the call's own -/
theorem QcZ {X : Type} {w : World} {base : Nat} {e : TypeId} {k : Nat} {f : X → List Value} {x : X} {cs : Array Value} (hb : base ≤ w.heap.size) (hc : cs.toList = f x) (hk : cs.size = k) : Own (w.alloc (.cells cs e)) base e k f (.slice (some ⟨w.heap.size,0,none⟩) 1 1) [x] := by
 have hl : cs.toList.length = k := by simpa using hk
 refine ⟨by simp [← hc,hl],.inr ⟨w.heap.size,1,cs,rfl,hb,Blk.made w e cs,Nat.le_refl _,by unfold maxLen; omega,by omega,?_⟩⟩;show cs.toList.take _ = [x].flatMap f;rw [show [x].length * k = cs.toList.length by simp [hl],List.take_length];simp [hc]
theorem QaU {X : Type} {w : World} {a b : Nat} {e : TypeId} {k : Nat} {f : X → List Value} {v : Value} {l : List X} (h : Own w b e k f v l) (hb : a ≤ b) : Own w a e k f v l := by
 refine ⟨h.1,?_⟩;rcases h.2 with h2 | ⟨g,cap,cur,hv,hg,r⟩
 ·exact .inl h2
 ·exact .inr ⟨g,cap,cur,hv,by omega,r⟩
theorem Qar {X : Type} {w : World} {b : Nat} {e : TypeId} {k : Nat} {f : X → List Value} {v : Value} {l : List X} (h : Own w b e k f v l) {g : Nat} (hg : v.ownBlock = some g) : b ≤ g ∧ g < w.heap.size ∧ ∃ cs,Blk w g e cs := by
 obtain ⟨h1,h2⟩ := h.lt g hg;refine ⟨h1,h2,?_⟩;rcases h.2 with ⟨rfl,_⟩ | ⟨g',cap,cur,rfl,_,hh,_⟩
 ·simp [Value.ownBlock] at hg
 ·have : g' = g := by simpa [Value.ownBlock] using hg
  subst this;exact ⟨cur,hh⟩
theorem Qal {w : World} {g : Nat} {t t' : TypeId} {cs cs' : Array Value} (h : Blk w g t cs) (h' : Blk w g t' cs') : t = t' := by
 unfold Blk at h h';rw [h] at h';injection h' with h';injection h' with _ ht
/- zones -/
def QlE (M : Nat) (x : ZV) : Prop := (∀ k,x.2.1.ownBlock = some k → k < M) ∧ ∀ k,x.2.2.ownBlock = some k → k < M
/-- v owns a row of zones,the last one's rows behind all others' -/
def ZsAt (w : World) (base : Nat) (v : Value) (zs : List ZoneL) : Prop := ∃ (zv : List ZV) (M : Nat),zv.map (·.1) = zs ∧ Own w base 71 3 Qa1 v zv ∧ (∀ x ∈ zv,ZAt w base x) ∧ base ≤ M ∧ M ≤ w.heap.size ∧
 ∀ a x,zv = a ++ [x] → ZAt w M x ∧ ∀ y ∈ a,QlE M y
/-- what a method of the gatherer may turn: itself,and rows (no line) -/
def Gx (g B : Nat) (w : World) (k : Nat) : Prop := k = g ∨ (B ≤ k ∧ ∃ e cs,Blk w k e cs ∧ e ≠ 58)
theorem Qau {g B : Nat} {a b c : World} (h : Fr a b (Gx g B a)) (k : Fr b c (Gx g B b)) : Fr a c (Gx g B a) := by
 refine ⟨k.os.trans h.os,k.tape.trans h.tape,k.output.trans h.output,Nat.le_trans h.size k.size,fun i hi hn => ?_⟩;have e1 := h.block i hi hn;refine (k.block i (Nat.lt_of_lt_of_le hi h.size) (fun hx => hn ?_)).trans e1;rcases hx with hx | ⟨hx,e,cs,hb,he⟩
 ·exact .inl hx
 ·exact .inr ⟨hx,e,cs,by unfold Blk at hb ⊢; rw [← e1]; exact hb,he⟩
theorem Qbl {g B : Nat} {a b : World} (h : Fr a b (fun _ => False)) : Fr a b (Gx g B a) := h.mono (fun _ _ h => h.elim)
theorem QcT {g B : Nat} {w : World} {q : Nat} {cs cs' : Array Value} (hg : Blk w g 81 cs') (h : Blk w q 58 cs) : ¬ Gx g B w q := by
 rintro (rfl | ⟨-,e,cs2,hb,he⟩)
 ·exact absurd (Qal hg h) (by decide)
 ·exact he (Qal hb h)
theorem gx_low {g B : Nat} {w : World} {q : Nat} (hg : g < B) (h : q < g) : ¬ Gx g B w q := by
 rintro (rfl | ⟨hx,-⟩)
 ·omega
 ·omega
/-- the gatherer at g holds the state s; i: the line that is gathered -/
structure GAt (w : World) (g B : Nat) (i : Int) (s : StL) : Prop where
 lt : g < B
 ex : ∃ vr vz vl vd,Blk w g 81 #[vr,vz,vl,vd,intV i,.bool s.opn] ∧ Own w B 72 12 Qbu vr s.rules ∧ ZsAt w B vz s.zones ∧ Own w B 78 3 Qcp vl s.links ∧ Own w B 65 4 QcM vd s.diags
theorem ZAt.fr {w w' : World} {S : Nat → Prop} {base : Nat} {z : ZV} (h : ZAt w base z) (hf : Fr w w' S) (h1 : ∀ k cs,base ≤ k → Blk w k 55 cs → ¬ S k) (h2 : ∀ k cs,base ≤ k → Blk w k 3 cs → ¬ S k) : ZAt w' base z := by
 refine ⟨h.e.fr hf fun g hg => ?_,h.l.fr hf fun g hg => ?_⟩
 ·obtain ⟨hb,-,cs,hk⟩ := Qar h.e hg;exact h1 g cs hb hk
 ·obtain ⟨hb,-,cs,hk⟩ := Qar h.l hg;exact h2 g cs hb hk
theorem ZsAt.fr {w w' : World} {S : Nat → Prop} {base : Nat} {v : Value} {zs : List ZoneL} (h : ZsAt w base v zs) (hf : Fr w w' S) (h0 : ∀ k cs,base ≤ k → Blk w k 71 cs → ¬ S k) (h1 : ∀ k cs,base ≤ k → Blk w k 55 cs → ¬ S k) (h2 : ∀ k cs,base ≤ k → Blk w k 3 cs → ¬ S k) : ZsAt w' base v zs := by
 obtain ⟨zv,M,e,ho,hz,hb,hM,hl⟩ := h;refine ⟨zv,M,e,ho.fr hf fun g hg => ?_,fun x hx => (hz x hx).fr hf h1 h2,hb,Nat.le_trans hM hf.size,fun a x ex => ?_⟩
 ·obtain ⟨hb,-,cs,hk⟩ := Qar ho hg;exact h0 g cs hb hk
 ·obtain ⟨k1,k2⟩ := hl a x ex;exact ⟨k1.fr hf (fun k cs hk => h1 k cs (by omega)) (fun k cs hk => h2 k cs (by omega)),k2⟩
/-- a row stays where only blocks of another type,or blocks below,turn -/
theorem Qel {X : Type} {w w' : World} {S : Nat → Prop} {base : Nat} {e : TypeId} {k : Nat} {f : X → List Value} {v : Value} {l : List X} (h : Own w base e k f v l) (hf : Fr w w' S) (hs : ∀ i cs,base ≤ i → Blk w i e cs → ¬ S i) : Own w' base e k f v l :=
 h.fr hf fun g hg => by
  obtain ⟨hb,-,cs,hk⟩ := Qar h hg;exact hs g cs hb hk
end Go.Proofs.YtlfjknndkjgciaaGreatDoor
namespace Go.Proofs.YtlfjknndkjgciaaGreatDoor
open _root_.Go.Proofs.Tryz
open Go.RowKit Go.Mem Go.Lin Go.Dcm

abbrev gP (g : Nat) : Value := .pointer (some ⟨g,0,none⟩)
/-- what a method of the gatherer leaves -/
def Qf7 (w : World) (g B : Nat) (i : Int) (s : StL) (e : Ending) (w' : World) : Prop := e = .returned (.tuple #[]) ∧ GAt w' g B i s ∧ Fr w w' (Gx g B w)
/-- rows of the type e -/
def TB (B : Nat) (e : TypeId) (w : World) (i : Nat) : Prop := B ≤ i ∧ ∃ cs,Blk w i e cs
theorem Qbn {X : Type} {w w' : World} {B : Nat} {e : TypeId} {k : Nat} {f : X → List Value} {v : Value} {l : List X} (h : Own w B e k f v l) (hf : Fr w w' (fun i => some i = v.ownBlock)) : Fr w w' (TB B e w) :=
 hf.mono fun i _ hi => by
  obtain ⟨h1,-,h2⟩ := Qar h hi.symm;exact ⟨h1,h2⟩
theorem Qew {B : Nat} {e : TypeId} {w wa w' : World} (hn : Fr w wa (fun _ => False)) (hf : Fr wa w' (TB B e wa)) : Fr w w' (TB B e w) := by
 refine ⟨hf.os.trans hn.os,hf.tape.trans hn.tape,hf.output.trans hn.output,Nat.le_trans hn.size hf.size,fun i hi hx => ?_⟩;have e1 := hn.block i hi (fun h => h);refine (hf.block i (Nat.lt_of_lt_of_le hi hn.size) (fun h => hx ⟨h.1,?_⟩)).trans e1;obtain ⟨cs,hb⟩ := h.2;exact ⟨cs,by unfold Blk at hb ⊢; rw [← e1]; exact hb⟩
theorem Qcu {g B : Nat} {e : TypeId} {w w' : World} (hf : Fr w w' (TB B e w)) (he : e ≠ 58) : Fr w w' (Gx g B w) :=
 hf.mono fun _ _ h => .inr ⟨h.1,e,h.2.choose,h.2.choose_spec,he⟩
theorem Qas {X : Type} {w w' : World} {B B' : Nat} {e e' : TypeId} {k : Nat} {f : X → List Value} {v : Value} {l : List X} (h : Own w B' e k f v l) (hf : Fr w w' (TB B e' w)) (hne : e ≠ e') : Own w' B' e k f v l :=
 Qel h hf fun _ _ _ hb hx => hne (Qal hb hx.2.choose_spec)
theorem QiD {w w' : World} {B : Nat} {e : TypeId} {v : Value} {zs : List ZoneL} (h : ZsAt w B v zs) (hf : Fr w w' (TB B e w)) (h0 : 71 ≠ e) (h1 : 55 ≠ e) (h2 : 3 ≠ e) : ZsAt w' B v zs :=
 h.fr hf (fun _ _ _ hb hx => h0 (Qal hb hx.2.choose_spec)) (fun _ _ _ hb hx => h1 (Qal hb hx.2.choose_spec)) (fun _ _ _ hb hx => h2 (Qal hb hx.2.choose_spec))
theorem QfE {X : Type} {w w' : World} {g B : Nat} {e : TypeId} {k : Nat} {f : X → List Value} {v : Value} {l : List X} (h : Own w B e k f v l) (hf : Fr w w' (fun i => i = g)) (hg : g < B) : Own w' B e k f v l :=
 Qel h hf fun _ _ hi _ hx => by omega
theorem zs_g {w w' : World} {g B : Nat} {v : Value} {zs : List ZoneL} (h : ZsAt w B v zs) (hf : Fr w w' (fun i => i = g)) (hg : g < B) : ZsAt w' B v zs :=
 h.fr hf (fun _ _ hi _ hx => by omega) (fun _ _ hi _ hx => by omega) (fun _ _ hi _ hx => by omega)
/-- the rows of a state -/
structure GR (w : World) (B : Nat) (vr vz vl vd : Value) (s : StL) : Prop where
 r : Own w B 72 12 Qbu vr s.rules
 z : ZsAt w B vz s.zones
 l : Own w B 78 3 Qcp vl s.links
 d : Own w B 65 4 QcM vd s.diags
theorem GR.kept {w w' : World} {B : Nat} {vr vz vl vd : Value} {s : StL} (h : GR w B vr vz vl vd s) (hf : Fr w w' (fun _ => False)) : GR w' B vr vz vl vd s :=
 ⟨h.r.kept hf,h.z.fr hf (fun _ _ _ _ h => h) (fun _ _ _ _ h => h) (fun _ _ _ _ h => h),h.l.kept hf,h.d.kept hf⟩
theorem GR.g {w w' : World} {g B : Nat} {vr vz vl vd : Value} {s : StL} (h : GR w B vr vz vl vd s) (hf : Fr w w' (fun i => i = g)) (hg : g < B) : GR w' B vr vz vl vd s :=
 ⟨QfE h.r hf hg,zs_g h.z hf hg,QfE h.l hf hg,QfE h.d hf hg⟩
theorem GR.base {w : World} {B : Nat} {vr vz vl vd : Value} {s : StL} (h : GR w B vr vz vl vd s) : B ≤ w.heap.size := by
 obtain ⟨zv,M,-,-,-,h1,h2,-⟩ := h.z;omega
theorem GAt.open_ {w : World} {g B : Nat} {i : Int} {s : StL} (h : GAt w g B i s) : ∃ vr vz vl vd,Blk w g 81 #[vr,vz,vl,vd,intV i,.bool s.opn] ∧ GR w B vr vz vl vd s := by
 obtain ⟨-,vr,vz,vl,vd,hb,hr,hz,hl,hd⟩ := h;exact ⟨vr,vz,vl,vd,hb,hr,hz,hl,hd⟩
theorem Qgx {w : World} {g B : Nat} {i : Int} {s : StL} {vr vz vl vd : Value} (hg : g < B) (hb : Blk w g 81 #[vr,vz,vl,vd,intV i,.bool s.opn]) (h : GR w B vr vz vl vd s) : GAt w g B i s := ⟨hg,vr,vz,vl,vd,hb,h.r,h.z,h.l,h.d⟩
theorem Qct {w : World} {g B : Nat} {i : Int} {s : StL} {vr vz vl vd v : Value} {j : Nat} {C : Array Value} (hg : g < B) (hb : Blk w g 81 C) (hc : C.setIfInBounds j v = #[vr,vz,vl,vd,intV i,.bool s.opn]) (h : GR w B vr vz vl vd s) : GAt (w.setCell ⟨g,j,none⟩ v) g B i s :=
 Qgx hg (hb.put' j v hc) (h.g (Fr.set (S := fun i => i = g) rfl) hg)
theorem Qcc {w w' : World} {g B : Nat} {j : Nat} {v : Value} (h : Fr w w' (Gx g B w)) : Fr w (w'.setCell ⟨g,j,none⟩ v) (Gx g B w) :=
 h.trans (Fr.set (S := fun i => i = g) rfl) (fun _ _ h => h) (fun _ _ h => .inl h)
theorem GAt.kept {w w' : World} {g B : Nat} {i : Int} {s : StL} (h : GAt w g B i s) (hf : Fr w w' (fun _ => False)) : GAt w' g B i s := by
 obtain ⟨vr,vz,vl,vd,hb,hr⟩ := h.open_;exact Qgx h.lt (hf.blk hb (fun h => h)) (hr.kept hf)
theorem Qcw {w wa w' : World} {g B : Nat} (hn : Fr w wa (fun _ => False)) (h : Fr wa w' (Gx g B wa)) : Fr w w' (Gx g B w) := Qau (Qbl hn) h
theorem diag_one (a c k : Int) : ∀ u ∈ [strV [],intV a,intV c,intV k],u.oneCell' = true := QaZ (cs := #[strV [],intV a,intV c,intV k]) (by simp [Value.oneCell'])
theorem QfM (w : World) (g B : Nat) (i : Int) (s : StL) (h : GAt w g B i s) (hs : s.diags.length ≤ 100000) (a c k : Int) : Calls Tryz.prog 39 #[gP g,intV a,intV c,intV k] w (Qf7 w g B i (tell s a c k)) := by
 obtain ⟨vr,vz,vl,vd,hb,hr⟩ := h.open_;have hlt := h.lt;obtain ⟨A,cap,rfl⟩ := hr.d.slice;have c3 := blkc hb 3 _ rfl;have hn := Fr.new w (.cells #[strV [],intV a,intV c,intV k] 65) (fun _ => False);have HR := Xi (hr.kept hn);have HB2 := Xi (hn.blk hb (fun h => h));have HX := Xi (Qb5 w 65 #[strV [],intV a,intV c,intV k]);have H1 := Xi (diag_one a c k);have HN := Xi hn;obtain ⟨i0,hi0,hz0,hz1,hz2⟩ := info_parts Qdi;have hBs : B ≤ w.heap.size + 1 := Nat.le_succ_of_le hr.base;clear hn hb hr h;go_enter func39,ntmps39;go_wp2_with (at_builtin; refine Qa6 _ rfl (.tmp 13) (.tmp 18) 29 rfl B 65 i0 _ 4 40 underlying29 hi0 hz0 hz1 hz2 rfl (by decide) _ s.diags.length _ rfl HR.out.d _ 1 1 [strV [],intV a,intV c,intV k] rfl HX.out H1.out (by simp only [maxLen]; omega) (by omega) (by simpa using hBs) ?_; intro v7 w7 hown7 hg7 _; obtain ⟨A7,cap7,rfl⟩ := QaJ hown7; have hf7 := Qbn HR.out.d (Fr.ofGrown hg7); have hb7 := (Qcu (g := g) hf7 (by decide)).block g HB2.out.lt; have hb7 := (Fr.ofGrown hg7).blk HB2.out (fun e => by have := (Qar HR.out.d e.symm).1; omega); have c7 := blkc hb7 3 _ rfl; have f7 := Qac hb7 3; have HB7 := Xi hb7; have HF7 := Xi hf7; have HO7 := Xi (Qbw (x := DiagL.mk a c k) hown7 rfl); clear hb7 hf7 hg7 hown7)
 go_end0
 exact ⟨rfl,Qct hlt HB7.out rfl ⟨Qas HR.out.r HF7.out (by decide),QiD HR.out.z HF7.out (by decide) (by decide) (by decide),Qas HR.out.l HF7.out (by decide),HO7.out⟩,Qcc (Qcu (Qew HN.out HF7.out) (by decide))⟩
theorem QhQ (w : World) (g B : Nat) (i : Int) (s : StL) (h : GAt w g B i s) (hs : s.diags.length ≤ 100000) : Calls Tryz.prog 51 #[gP g] w (Qf7 w g B i (brk s i)) := by
 obtain ⟨vr,vz,vl,vd,hb,hr⟩ := h.open_;have hlt := h.lt;have c5 := blkc hb 5 _ rfl;have f5 := Qac hb 5;cases ho : s.opn with
 | false =>
  rw [ho] at c5;have HE : brk s i = s := by unfold brk; rw [ho]; rfl
  rw [HE];have HB := Xi hb;have HR := Xi hr;clear h hb hr HE;go_enter func51,ntmps51;go_wp2_with fail
  go_end0
  exact ⟨rfl,Qct hlt HB.out (by rw [ho]; rfl) HR.out,Qcc (Qbl (Fr.refl _ _))⟩
 | true =>
  rw [ho] at c5;have c4 := blkc hb 4 _ rfl;have HE : brk s i = { tell s i 0 21 with opn := false } := by unfold brk; rw [ho]; rfl
  rw [HE];have HT := Xi (QfM w g B i s h hs i 0 21);clear h hb hr HE;go_enter func51,ntmps51;go_wp2_with fail;refine HT.out.mono ?_;rintro e w2 ⟨rfl,hg2,hf2⟩;obtain ⟨vr2,vz2,vl2,vd2,hb2,hr2⟩ := hg2.open_;have c52 := blkc hb2 5 _ rfl;have f52 := Qac hb2 5;have HB := Xi hb2;have HR := Xi hr2;have HF := Xi hf2;clear hb2 hr2 hg2 hf2;go_wp2_with fail
  go_end0
  exact ⟨rfl,Qct hlt HB.out rfl ⟨HR.out.r,HR.out.z,HR.out.l,HR.out.d⟩,Qcc HF.out⟩
theorem pass_any (w : World) (g B : Nat) (i : Int) (s : StL) (h : GAt w g B i s) (x : LineL) : Calls Tryz.prog 37 #[gP g,QdQ x] w (Qf7 w g B i s) := by
 have hn := Fr.new w (.cells (Qad x) 58) (fun _ => False);have H := Xi (h.kept hn);have HN := Xi hn;clear h hn;go_enter func37,ntmps37;go_wp2_with fail
 go_end0
 exact ⟨rfl,H.out,Qbl HN.out⟩
end Go.Proofs.YtlfjknndkjgciaaGreatDoor
