import Derived.Test.YtodcnbejnchmhaaGreatDoorYc10
import Derived.Laws.CopyOwn
namespace Go.Mem
open Go.RowKit
/- copy of elements of several cells -/
section
variable {P : Program}
theorem Qiu (w : World) (dT sT ty elem : TypeId) (k n : Nat) (g o dLen dCap : Nat) (a : Addr) (sLen sCap : Nat) (cur : Array Value) (t : TypeId) (cs : List Value)
  (hu : P.underlying dT = some (.slice elem)) (hs : (P.info? elem).map (·.size) = some k)
  (hg : Blk w g t cur) (hn : n = Nat.min sLen dLen) (hcs : cs.length = n * k)
  (hsrc : ∀ j v,cs[j]? = some v → w.cell? (a.add j) = some v) (hfit : o + cs.length ≤ cur.size) (h1 : ∀ v ∈ cs,v.oneCell' = true) :
  (Builtin.copy_ #[dT,sT] ty #[.slice (some ⟨g,o,none⟩) dLen dCap,.slice (some a) sLen sCap]).run P w =
   .ok (goInt n) (w.setRow g (cur.toList.take o ++ cs ++ cur.toList.drop (o + cs.length)).toArray) := by
 have hl := run_loadCells_list (P := P) w a cs hsrc;have hst := run_storeCells_at P g o t cs 0 cur w hg (by simpa using hfit) h1;cases hq : P.info? elem with
 | none => simp [hq] at hs
 | some i =>
  have hi : i.size = k := by simpa [hq] using hs
  rw [hcs] at hl;simp [Builtin.copy_,run_underlying hu,Builtin.lenOf,Builtin.firstCells,sizeOf,typeInfo,hq,hi,← hn,hl,hst]
theorem Qit (w : World) (dT sT ty elem : TypeId) (k : Nat) (d a : Option Addr) (dLen dCap sLen sCap : Nat) (hu : P.underlying dT = some (.slice elem)) (hs : (P.info? elem).map (·.size) = some k) (hn : 0 = Nat.min sLen dLen) :
  (Builtin.copy_ #[dT,sT] ty #[.slice d dLen dCap,.slice a sLen sCap]).run P w = .ok (goInt 0) w := by
 cases hq : P.info? elem with
 | none => simp [hq] at hs
 | some i =>
  have hl : ∀ (x : Addr),(loadCells x 0).run P w = .ok #[] w := fun x => by simpa using run_loadCells_list (P := P) w x [] (by simp)
  cases d <;> cases a <;> simp [Builtin.copy_,run_underlying hu,Builtin.lenOf,Builtin.firstCells,sizeOf,typeInfo,hq,← hn,storeCells,hl]
theorem fr_row (w : World) (g : Nat) (t : TypeId) (cur cs : Array Value) (h : Blk w g t cur) : Fr w (w.setRow g cs) (· = g) ∧ Blk (w.setRow g cs) g t cs :=
 ⟨⟨rfl,rfl,rfl,by simp [World.setRow],fun k _ hk => setRow_other w g k cs (fun e => hk e)⟩,setRow_heap w g cur cs t (0,0) h⟩
/-- n elements of k cells go over into the block g,from the cell off on -/
theorem Qj2 (w : World) (dT sT ty elem : TypeId) (k n : Nat) (hu : P.underlying dT = some (.slice elem)) (hs : (P.info? elem).map (·.size) = some k)
  (dp sp : Option Addr) (dLen dCap sLen sCap : Nat) (g off : Nat) (cur : List Value) (t : TypeId) (hg : Blk w g t cur.toArray) (hn : n = Nat.min sLen dLen) (cs : List Value)
  (hpos : 0 < n → dp = some ⟨g,off,none⟩) (hr : Rd w k sp n cs) (hfit : off + cs.length ≤ cur.length) (h1 : ∀ v ∈ cs,v.oneCell' = true) :
  ∃ w',(Builtin.copy_ #[dT,sT] ty #[.slice dp dLen dCap,.slice sp sLen sCap]).run P w = .ok (goInt n) w' ∧ Fr w w' (· = g) ∧ Blk w' g t (splice cur off cs).toArray := by
 by_cases h0 : n = 0
 ·subst h0;have e : cs = [] := List.eq_nil_of_length_eq_zero (by have := hr.1; simpa using this);subst e;exact ⟨w,Qit w dT sT ty elem k dp sp dLen dCap sLen sCap hu hs hn,Fr.refl _ _,by simpa [splice] using hg⟩
 ·obtain rfl := hpos (by omega);obtain ⟨b,o,rfl,hc⟩ := hr.2 (by omega);have hf := fr_row w g t cur.toArray (cur.toArray.toList.take off ++ cs ++ cur.toArray.toList.drop (off + cs.length)).toArray hg;refine ⟨_,Qiu w dT sT ty elem k n g off dLen dCap ⟨b,o,none⟩ sLen sCap cur.toArray t cs hu hs hg hn hr.1 (fun j v hj => ?_) (by simpa using hfit) h1,hf.1,?_⟩
  ·have := hc j v hj;have hadd : (⟨b,o,none⟩ : Addr).add j = ⟨b,o + j,none⟩ := by unfold Addr.add; split <;> simp_all
   rw [hadd];exact this
  ·have := hf.2;simpa [splice] using this
theorem QdW {w : World} {ops : Array Oper} {rest : List Oper} {o : Oper} {a : Act} {Q : Exit → Act → World → Prop} (hgd : o.guard = none) (d s : Operand) (dT sT : TypeId)
  (ho : o.op = .call { callee := .builtin .copy,args := #[d,s],argTypes := #[dT,sT] }) (elem : TypeId) (k n : Nat) (hu : P.underlying dT = some (.slice elem)) (hs : (P.info? elem).map (·.size) = some k)
  (dp sp : Option Addr) (dLen dCap sLen sCap : Nat) (hd : a.eval d = .slice dp dLen dCap) (hx : a.eval s = .slice sp sLen sCap) (g off : Nat) (cur : List Value) (t : TypeId) (hg : Blk w g t cur.toArray) (hn : n = Nat.min sLen dLen) (cs : List Value)
  (hpos : 0 < n → dp = some ⟨g,off,none⟩) (hr : Rd w k sp n cs) (hfit : off + cs.length ≤ cur.length) (h1 : ∀ v ∈ cs,v.oneCell' = true) (cur' : List Value) (hc : splice cur off cs = cur')
  (h : ∀ w',Fr w w' (· = g) → Blk w' g t cur'.toArray → wpList P ops Q rest (a.put o.dst (goInt n)) w') : wpList P ops Q (o :: rest) a w := by
 subst hc;obtain ⟨w',hrun,hf,hb⟩ := Qj2 (P := P) w dT sT o.type elem k n hu hs dp sp dLen dCap sLen sCap g off cur t hg hn cs hpos hr hfit h1;refine wpList_plain hgd fun K hK => ?_;unfold Oper.wp;simp [execOp,ho,resolve,invoke,builtin,hd,hx,hrun,Result.andThen];exact hK _ _ (h w' hf hb)
end
end Go.Mem
