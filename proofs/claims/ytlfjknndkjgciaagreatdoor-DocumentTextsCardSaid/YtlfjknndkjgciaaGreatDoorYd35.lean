import Derived.Test.YtlfjknndkjgciaaGreatDoorYd23
import Derived.Test.YtlfjknndkjgciaaGreatDoorYd34
import Derived.Test.YtlfjknndkjgciaaGreatDoorYd27
set_option maxRecDepth 100000
set_option maxHeartbeats 3200000
namespace Go.Mem
open Go.RowKit
section
variable {P : Program} {ops : Array Oper} {rest : List Oper} {a : Act} {w : World} {Q : Exit → Act → World → Prop}
/- the next operation's kind,seen at once ('with_reducible refine Qah T ?_' ahead of a law): a law that does not fit is not tried -/
theorem Qah {d : Option Tmp} {x : Operand} {ty : TypeId} {pos : String} {af : Array Edge} {g : Option (Nat × Bool)} (t : TypeId) (h : wpList P ops Q (⟨d,.load t x,ty,pos,af,g⟩ :: rest) a w) : wpList P ops Q (⟨d,.load t x,ty,pos,af,g⟩ :: rest) a w := h
theorem Qab {d : Option Tmp} {x y : Operand} {ty : TypeId} {pos : String} {af : Array Edge} {g : Option (Nat × Bool)} (t : TypeId) (h : wpList P ops Q (⟨d,.store t x y,ty,pos,af,g⟩ :: rest) a w) : wpList P ops Q (⟨d,.store t x y,ty,pos,af,g⟩ :: rest) a w := h
theorem QbC {d : Option Tmp} {y : Operand} {ty : TypeId} {pos : String} {af : Array Edge} {g : Option (Nat × Bool)} (t : TypeId) (h : wpList P ops Q (⟨d,.buildSlice t 1 #[(0,y)],ty,pos,af,g⟩ :: rest) a w) : wpList P ops Q (⟨d,.buildSlice t 1 #[(0,y)],ty,pos,af,g⟩ :: rest) a w := h
theorem Qfh {d : Option Tmp} {QkW : Array (Nat × Operand)} {ty : TypeId} {pos : String} {af : Array Edge} {g : Option (Nat × Bool)} (t : TypeId) (h : wpList P ops Q (⟨d,.build t QkW,ty,pos,af,g⟩ :: rest) a w) : wpList P ops Q (⟨d,.build t QkW,ty,pos,af,g⟩ :: rest) a w := h
theorem QbI {d : Option Tmp} {t : TypeId} {ty : TypeId} {pos : String} {af : Array Edge} {g : Option (Nat × Bool)} (s x : Operand) (h : wpList P ops Q (⟨d,.call { callee := .builtin .append,args := #[s,x],argTypes := #[t,t] },ty,pos,af,g⟩ :: rest) a w) : wpList P ops Q (⟨d,.call { callee := .builtin .append,args := #[s,x],argTypes := #[t,t] },ty,pos,af,g⟩ :: rest) a w := h
end
end Go.Mem
namespace Go.Proofs.YtlfjknndkjgciaaGreatDoor
open Go.RowKit Go.Mem Go.Lin Go.Dcm
/-- what is turned by x.f = append(x.f,y): the block of x,and rows of that type -/
def PB (D B : Nat) (e : TypeId) (w : World) (i : Nat) : Prop := i = D ∨ TB B e w i
section
variable {P : Program} {ops : Array Oper} {Q : Exit → Act → World → Prop} {md : Region.Mode} {S : World → Prop}
/-- x.f = append(x.f,y) in a region that draws its order: what is left of it once all that only reads is taken: the load of x.f,the slice of one element,append,the store -/
theorem Qec {X : Type} {f : X → List Value} {l : List X} {fuel : Nat} {listed : Array Bool} {a : Act} {w : World} (i j k : Nat) (oi oj ok : Oper)
  (hi : ops[i]? = some oi) (hj : ops[j]? = some oj) (hk : ops[k]? = some ok)
  (hr0 : Region.ready md ops listed = [i,j]) (hr1 : Region.ready md ops (listed.setIfInBounds i true) = [j]) (hr2 : Region.ready md ops (listed.setIfInBounds j true) = [i])
  (hr3 : Region.ready md ops ((listed.setIfInBounds i true).setIfInBounds j true) = [k]) (hij : i ≠ j)
  (gi : oi.guard = none) (gj : oj.guard = none) (gk : ok.guard = none)
  {ts e : TypeId} {xi yj sk xk : Operand} {di dj : Nat}
  (ho : oi.op = .load ts xi) (hdi : oi.dst = some di) (hoj : oj.op = .buildSlice ts 1 #[(0,yj)]) (hdj : oj.dst = some dj) (hdd : di ≠ dj)
  (hok : ok.op = .call { callee := .builtin .append,args := #[sk,xk],argTypes := #[ts,ts] })
  (D J B : Nat) (t : TypeId) (C : Array Value) (n c : Nat) (A : Option Addr) (cs : Array Value) (v : Value) (x : X)
  (hD : D < B) (hb : Blk w D t C) (hC : C[J]? = some (.slice A n c)) (hn : n = l.length) (hxi : a.eval xi = .pointer (some ⟨D,J,none⟩)) (hxj : (a.put (some dj) (.slice (some ⟨w.heap.size,0,none⟩) 1 1)).eval xi = .pointer (some ⟨D,J,none⟩))
  (hyj : a.eval yj = v) (hyi : (a.put (some di) (.slice A n c)).eval yj = v) (hrun : ∀ w,(Instr.buildSlice ts 1 #[(0,v)]).run P w = .ok (.slice (some ⟨w.heap.size,0,none⟩) 1 1) (w.alloc (.cells cs e)))
  (hcs : cs.toList = f x) (h1 : cs.all (·.oneCell') = true)
  (hsk : ((a.put (some di) (.slice A n c)).put (some dj) (.slice (some ⟨w.heap.size,0,none⟩) 1 1)).eval sk = .slice A n c)
  (hxk : ((a.put (some di) (.slice A n c)).put (some dj) (.slice (some ⟨w.heap.size,0,none⟩) 1 1)).eval xk = .slice (some ⟨w.heap.size,0,none⟩) 1 1)
  (z : Value) (size bytes : Nat) (ht : P.underlying ts = some (.slice e)) (hinf : (P.info? e).map (fun i => (i.zero,i.size,i.bytes)) = some (some z,size,bytes))
  (hzs : z.cells.size = size) (hsz : 0 < size) (hcz : cs.size = size) (hown : Own w B e size f (.slice A n c) l) (h63 : n ≤ 100000) (hby : bytes ≤ 1000) (hbase : B ≤ w.heap.size)
  (hS : ∀ W,Fr w W (TB B e w) → S W)
  (h : ∀ A9 c9 W,S W → Own W B e size f (.slice A9 (n + 1) c9) (l ++ [x]) → Blk W D t C → Fr w W (TB B e w) →
   wpAnyH P md ops Q S fuel (((listed.setIfInBounds i true).setIfInBounds j true).setIfInBounds k true) (((a.put (some di) (.slice A n c)).put (some dj) (.slice (some ⟨w.heap.size,0,none⟩) 1 1)).put ok.dst (.slice A9 (n + 1) c9)) W) :
  wpAnyH P md ops Q S (fuel + 3) listed a w := by
 subst hn;have hnew := Fr.new w (.cells cs e) (fun _ => False);have hp0 : Fr w w (TB B e w) := Fr.refl _ _;have hpn : Fr w (w.alloc (.cells cs e)) (TB B e w) := hnew.mono (fun _ _ h => h.elim);have hw : ∀ (o : Oper) (y : Nat → Option Bool) (hg : o.guard = none),Region.wanted o y = true := fun o y hg => by simp only [Region.wanted,hg]
 have hui : ∀ (a : Act) (w : World) (K : Act → World → Prop),Blk w D t C → a.eval xi = .pointer (some ⟨D,J,none⟩) → K (a.put oi.dst (.slice A l.length c)) w → oi.wp P a w K Q := by
  intro a w K hb hx hK;exact QbP ho hx (blkc hb J _ hC) ht rfl hK
 -- what follows behind both
 have last : wpAnyH P md ops Q S (fuel + 1) ((listed.setIfInBounds i true).setIfInBounds j true) ((a.put (some di) (.slice A l.length c)).put (some dj) (.slice (some ⟨w.heap.size,0,none⟩) 1 1)) (w.alloc (.cells cs e)) := by
  refine wpAnyH_ready hr3 (by simp) (AllReadyH.cons hk (fun K hK => ?_) AllReadyH.nil);rw [if_pos (hw _ _ gk)];obtain ⟨i0,hi0,hz0,hz1,hz2⟩ := info_parts hinf;have hownA := hown.kept hnew;have hbA := hnew.blk hb (fun h => h);have hx := Qb5 w e cs;rw [hcz] at hx;have hbe : B ≤ (w.alloc (.cells cs e)).heap.size := Nat.le_trans hbase hnew.size;refine QaH _ sk xk ts hok B e i0 z size bytes ht hi0 hz0 hz1 hz2 hzs hsz _ _ _ hsk hownA _ 1 1 cs.toList hxk hx (QaZ h1) (by simp only [maxLen]; omega) ?_ hbe ?_
  ·have : (l.length + 1) * bytes ≤ 100001 * 1000 := Nat.mul_le_mul (by omega) hby
   omega
  ·intro v9 w9 hown9 hg9 _;obtain ⟨A9,c9,rfl⟩ := Go.Mem.QaJ hown9;have hf9 := Qbn hownA (Fr.ofGrown hg9);have hb9 : Blk w9 D t C := (Fr.ofGrown hg9).blk hbA (fun e => by have := (Qar hownA e.symm).1; omega);have hown9 := Qbw (x := x) hown9 hcs;have hend := Qew hnew hf9;exact hK.out _ _ (hS _ hend) (fun hs => h A9 c9 w9 hs hown9 hb9 hend)
 refine wpAnyH_ready hr0 (by simp) (AllReadyH.cons hi (fun K hK => ?_) (AllReadyH.cons hj (fun K hK => ?_) AllReadyH.nil))
 ·rw [if_pos (hw _ _ gi)];refine hui a w K hb hxi (hK.out _ _ (hS _ hp0) (fun _ => ?_));refine wpAnyH_ready hr1 (by simp) (AllReadyH.cons hj (fun K2 hK2 => ?_) AllReadyH.nil);rw [if_pos (hw _ _ gj)];rw [hdi];refine QaT hoj hyi hrun (hK2.out _ _ (hS _ hpn) (fun _ => ?_));rw [hdj];exact last
 ·rw [if_pos (hw _ _ gj)];refine QaT hoj hyj hrun (hK.out _ _ (hS _ hpn) (fun _ => ?_));refine wpAnyH_ready hr2 (by simp) (AllReadyH.cons hi (fun K2 hK2 => ?_) AllReadyH.nil);rw [if_pos (hw _ _ gi),hdj];refine hui _ _ K2 (hnew.blk hb (fun h => h)) hxj (hK2.out _ _ (hS _ hpn) (fun _ => ?_));rw [hdi,← Act.put_comm a _ _ (by intro d hd e; injection hd with hd; injection e with e; omega),Array.setIfInBounds_comm _ _ hij.symm];exact last
/-- the last store of a region that draws its order: one cell of the block D -/
theorem Qe3 {fuel : Nat} {listed : Array Bool} {a : Act} {w : World} (m : Nat) (om : Oper) (hm : ops[m]? = some om) (hr4 : Region.ready md ops listed = [m]) (hr5 : Region.ready md ops (listed.setIfInBounds m true) = []) (gm : om.guard = none)
  {ts : TypeId} {xm ym : Operand} (hom : om.op = .store ts xm ym) (hdm : om.dst = none) (D J : Nat) (t : TypeId) (C : Array Value) (v : Value) (hb : Blk w D t C) (hJ : J < C.size) (hxm : a.eval xm = .pointer (some ⟨D,J,none⟩)) (hym : a.eval ym = v) (h1 : v.oneCell' = true)
  (hits : (P.info? ts).map (·.size) = some 1) (hS : ∀ W,Fr w W (fun i => i = D) → S W) (h : ∀ W,Fr w W (fun i => i = D) → Blk W D t (C.setIfInBounds J v) → Q .normal a W) : wpAnyH P md ops Q S (fuel + 1) listed a w := by
 have hw : ∀ (o : Oper) (y : Nat → Option Bool) (hg : o.guard = none),Region.wanted o y = true := fun o y hg => by simp only [Region.wanted,hg]
 refine wpAnyH_ready hr4 (by simp) (AllReadyH.cons hm (fun K2 hK2 => ?_) AllReadyH.nil);rw [if_pos (hw _ _ gm)];refine Qbj hom hdm hxm hym hb hits h1 hJ ?_;have hs9 := Fr.set (w := w) (a := ⟨D,J,none⟩) (v := v) (S := fun i => i = D) rfl;exact hK2.out _ _ (hS _ hs9) (fun _ => wpAnyH_done hr5 (h _ hs9 (hb.put' J _ rfl)) _)
end
section
variable {P : Program} {ops : Array Oper} {Q : Exit → Act → World → Prop} {md : Region.Mode} {S : World → Prop}
/-- a struct is stored into a row: the world behind it is opaque -/
theorem Qgo {o : Oper} {a : Act} {w : World} {K : Act → World → Prop} (ty : TypeId) (x y : Operand) (g off : Nat) (t : TypeId) (old cells new : Array Value) (ho : o.op = .store ty x y) (hd : o.dst = none) (hx : a.eval x = .pointer (some ⟨g,off,none⟩)) (hy : a.eval y = .agg cells)
  (hg : Blk w g t old) (hi : (P.info? ty).map (·.size) = some cells.size) (h1 : cells.all (·.oneCell') = true) (hfit : off + cells.size ≤ old.size) (hnew : Qbx old off cells.toList = new)
  (h : ∀ W,Fr w W (fun i => i = g) → Blk W g t new → K a W) : o.wp P a w K Q := by
 have ht : w.there g off cells.size := fun j hj => ⟨by rw [Qaa hg,Array.getElem?_eq_getElem (by omega)]; rfl,Qac hg _⟩;unfold Oper.wp execOp;simp only [ho,hx,hy,run_storeAt_mid w g off ty cells ht hi h1,Sem.run_bind,Sem.run_pure,Result.andThen_ok];have := h _ (Fr.many cells.toList off w) (by have := Blk.many cells.toList off old w hg; rw [hnew] at this; exact this);simpa only [Oper.upon,hd,Act.put] using this
theorem QfJ {o : Oper} {a : Act} {w : World} {K : Act → World → Prop} {e : TypeId} {zs : Array Value} (ho : o.op = .alloc e) (hrun : ∀ w,(Instr.alloc e true (.tuple #[])).run P w = .ok (.pointer (some ⟨w.heap.size,0,none⟩)) (w.alloc (.cells zs e)))
  (h : K (a.put o.dst (.pointer (some ⟨w.heap.size,0,none⟩))) (w.alloc (.cells zs e))) : o.wp P a w K Q := by
 unfold Oper.wp execOp;simp only [ho,hrun,Sem.run_bind,Sem.run_pure,Result.andThen_ok];exact h
/-- x,y := two structs,in a region that draws its order: what is left of it once all that only reads is taken: two variables are made,and stored into -/
theorem Qkg {fuel : Nat} {listed : Array Bool} {a : Act} {w : World} (i j k m : Nat) (oi oj ok om : Oper)
  (hi : ops[i]? = some oi) (hj : ops[j]? = some oj) (hk : ops[k]? = some ok) (hm : ops[m]? = some om)
  (hr0 : Region.ready md ops listed = [i,j]) (hr1 : Region.ready md ops (listed.setIfInBounds i true) = [j]) (hr2 : Region.ready md ops (listed.setIfInBounds j true) = [i])
  (hr3 : Region.ready md ops ((listed.setIfInBounds i true).setIfInBounds j true) = [k]) (hr4 : Region.ready md ops (((listed.setIfInBounds i true).setIfInBounds j true).setIfInBounds k true) = [m])
  (hr5 : Region.ready md ops ((((listed.setIfInBounds i true).setIfInBounds j true).setIfInBounds k true).setIfInBounds m true) = []) (hij : i ≠ j)
  (gi : oi.guard = none) (gj : oj.guard = none) (gk : ok.guard = none) (gm : om.guard = none)
  {e : TypeId} {xk yk xm ym : Operand} {di dj : Nat}
  (hoi : oi.op = .alloc e) (hdi : oi.dst = some di) (hoj : oj.op = .alloc e) (hdj : oj.dst = some dj) (hdd : di ≠ dj)
  (hok : ok.op = .store e xk yk) (hdk : ok.dst = none) (hom : om.op = .store e xm ym) (hdm : om.dst = none)
  (zs cs ds : Array Value) (hrun : ∀ w,(Instr.alloc e true (.tuple #[])).run P w = .ok (.pointer (some ⟨w.heap.size,0,none⟩)) (w.alloc (.cells zs e)))
  (hic : (P.info? e).map (·.size) = some cs.size) (hid : (P.info? e).map (·.size) = some ds.size) (hzc : zs.size = cs.size) (hzd : zs.size = ds.size) (h1c : cs.all (·.oneCell') = true) (h1d : ds.all (·.oneCell') = true)
  (hxk : ∀ p q,((a.put (some di) (.pointer (some ⟨p,0,none⟩))).put (some dj) (.pointer (some ⟨q,0,none⟩))).eval xk = .pointer (some ⟨p,0,none⟩))
  (hyk : ∀ p q,((a.put (some di) (.pointer (some ⟨p,0,none⟩))).put (some dj) (.pointer (some ⟨q,0,none⟩))).eval yk = .agg cs)
  (hxm : ∀ p q,((a.put (some di) (.pointer (some ⟨p,0,none⟩))).put (some dj) (.pointer (some ⟨q,0,none⟩))).eval xm = .pointer (some ⟨q,0,none⟩))
  (hym : ∀ p q,((a.put (some di) (.pointer (some ⟨p,0,none⟩))).put (some dj) (.pointer (some ⟨q,0,none⟩))).eval ym = .agg ds)
  (hS : ∀ W,Fr w W (fun _ => False) → S W)
  (h : ∀ p q W,p ≠ q → w.heap.size ≤ p → w.heap.size ≤ q → Blk W p e cs → Blk W q e ds → Fr w W (fun _ => False) → Q .normal ((a.put (some di) (.pointer (some ⟨p,0,none⟩))).put (some dj) (.pointer (some ⟨q,0,none⟩))) W) :
  wpAnyH P md ops Q S (fuel + 4) listed a w := by
 have hw : ∀ (o : Oper) (y : Nat → Option Bool) (hg : o.guard = none),Region.wanted o y = true := fun o y hg => by simp only [Region.wanted,hg]
 have n1 := Fr.new w (.cells zs e) (fun _ => False);have n2 := Fr.new (w.alloc (.cells zs e)) (.cells zs e) (fun _ => False);have s1 : (w.alloc (.cells zs e)).heap.size = w.heap.size + 1 := by simp
 have hf2 := n1.trans n2 (fun _ _ h => h) (fun _ _ h => h);have b1 : Blk ((w.alloc (.cells zs e)).alloc (.cells zs e)) w.heap.size e zs := n2.blk (Blk.made w e zs) (fun h => h);have b2 := Blk.made (w.alloc (.cells zs e)) e zs;rw [s1] at b2;have last : ∀ p q,p ≠ q → w.heap.size ≤ p → w.heap.size ≤ q → Blk ((w.alloc (.cells zs e)).alloc (.cells zs e)) p e zs → Blk ((w.alloc (.cells zs e)).alloc (.cells zs e)) q e zs →
   wpAnyH P md ops Q S (fuel + 2) ((listed.setIfInBounds i true).setIfInBounds j true) ((a.put (some di) (.pointer (some ⟨p,0,none⟩))).put (some dj) (.pointer (some ⟨q,0,none⟩))) ((w.alloc (.cells zs e)).alloc (.cells zs e)) := by
  intro p q hpq hp hq bp bq;refine wpAnyH_ready hr3 (by simp) (AllReadyH.cons hk (fun K hK => ?_) AllReadyH.nil);rw [if_pos (hw _ _ gk)];refine Qgo e xk yk p 0 e zs cs cs hok hdk (hxk p q) (hyk p q) bp hic h1c (by omega) (QaK hzc) ?_;intro W3 f3 bp3;have hf3 : Fr w W3 (fun _ => False) := hf2.fresh f3 (fun i e => by subst e; exact hp);have bq3 := f3.blk bq (Ne.symm hpq);refine hK.out _ _ (hS _ hf3) (fun _ => ?_);refine wpAnyH_ready hr4 (by simp) (AllReadyH.cons hm (fun K2 hK2 => ?_) AllReadyH.nil);rw [if_pos (hw _ _ gm)];refine Qgo e xm ym q 0 e zs ds ds hom hdm (hxm p q) (hym p q) bq3 hid h1d (by omega) (QaK hzd) ?_;intro W4 f4 bq4;have hf4 : Fr w W4 (fun _ => False) := hf3.fresh f4 (fun i e => by subst e; exact hq);refine hK2.out _ _ (hS _ hf4) (fun _ => ?_);exact wpAnyH_done hr5 (h p q W4 hpq hp hq (f4.blk bp3 hpq) bq4 hf4) _
 refine wpAnyH_ready hr0 (by simp) (AllReadyH.cons hi (fun K hK => ?_) (AllReadyH.cons hj (fun K hK => ?_) AllReadyH.nil))
 ·rw [if_pos (hw _ _ gi)];refine QfJ hoi hrun (hK.out _ _ (hS _ n1) (fun _ => ?_));refine wpAnyH_ready hr1 (by simp) (AllReadyH.cons hj (fun K2 hK2 => ?_) AllReadyH.nil);rw [if_pos (hw _ _ gj)];refine QfJ hoj hrun (hK2.out _ _ (hS _ hf2) (fun _ => ?_));rw [hdi,hdj,s1];exact last _ _ (by omega) (Nat.le_refl _) (by omega) b1 b2
 ·rw [if_pos (hw _ _ gj)];refine QfJ hoj hrun (hK.out _ _ (hS _ n1) (fun _ => ?_));refine wpAnyH_ready hr2 (by simp) (AllReadyH.cons hi (fun K2 hK2 => ?_) AllReadyH.nil);rw [if_pos (hw _ _ gi)];refine QfJ hoi hrun (hK2.out _ _ (hS _ hf2) (fun _ => ?_));rw [hdi,hdj,s1,← Act.put_comm a _ _ (by intro d hd e; injection hd with hd; injection e with e; omega),Array.setIfInBounds_comm _ _ hij.symm];exact last _ _ (by omega) (by omega) (Nat.le_refl _) b2 b1
end
end Go.Proofs.YtlfjknndkjgciaaGreatDoor
namespace Go.Proofs.YtlfjknndkjgciaaGreatDoor
open _root_.Go.Proofs.Tryz
open Go.RowKit Go.Mem Go.Lin Go.Dcm
open Go.Rope hiding Bs

theorem infoS3 : (Tryz.prog.info? 9).map (fun i => (i.zero,i.size,i.bytes)) = some (some (.string ⟨#[]⟩),1,16) := by kernel_rfl
theorem QiH (l : Bs) (a b : Nat) : (⟨l.toArray⟩ : ByteArray).extract a b = ⟨(cut l a b).toArray⟩ := S5.QiI l a b
theorem Qmf {w : World} {base : Nat} {e : TypeId} {size n : Nat} {v : Value} {xs : List Value} (h : w.ownsRow base e size v n xs) (o : Obj) : (w.alloc o).ownsRow base e size v n xs := (Fr.new w o (fun _ => False)).own h (fun _ _ h => h)
/-- the slice v is the call's own and holds these texts -/
def Strs3 (w : World) (base : Nat) (v : Value) (vs : List Bs) : Prop := w.ownsRow base 9 1 v vs.length (vs.map strV)
theorem QmR {l : Bs} {f i : Nat} {done : List Bs} (h1 : f ≤ i) (h2 : l[i]? = some 10) (hd : Qbf l = done ++ Qbf (l.drop f)) (h0 : Qes (cut l f i) = 0) :
  Qbf l = (done ++ [cut l f i]) ++ Qbf (l.drop (i + 1)) ∧ Qes (cut l (i + 1) (i + 1)) = 0 := by
 obtain ⟨h3,h4⟩ := List.getElem?_eq_some_iff.1 h2;have e : l.drop f = cut l f i ++ 10 :: l.drop (i + 1) := by
  have e1 := List.take_append_drop (i - f) (l.drop f);rw [List.drop_drop,show f + (i - f) = i by omega,← Go.Rope.QgA,List.drop_eq_getElem_cons h3,h4] at e1;exact e1.symm
 refine ⟨?_,by simp [Go.Rope.QgA,Qes]⟩;rw [hd,e,Qpe h0];simp
theorem QmQ {l : Bs} {f i : Nat} {c : UInt8} (h1 : f ≤ i) (h2 : l[i]? = some c) (hc : c ≠ 10) (h0 : Qes (cut l f i) = 0) : Qes (cut l f (i + 1)) = 0 := by
 obtain ⟨h3,h4⟩ := List.getElem?_eq_some_iff.1 h2;have e : cut l f (i + 1) = cut l f i ++ [c] := by
  rw [cut,List.take_succ_eq_append_getElem h3,h4,List.drop_append_of_le_length (by rw [List.length_take]; omega)];rfl
 rw [e,QpO,h0];simp [Qes,hc]
def Qjj (w : World) (l : Bs) (e : Ending) (w' : World) : Prop := ∃ b c,e = .returned (.slice (some ⟨b,0,none⟩) (Qbf l).length c) ∧ w.heap.size ≤ b ∧ Own w' w.heap.size 9 1 strL (.slice (some ⟨b,0,none⟩) (Qbf l).length c) (Qbf l) ∧ Fr w w' (fun _ => False)
theorem Qpg {w w' : World} {l : Bs} {v : Value} (h : w'.ownsRow w.heap.size 9 1 v (Qbf l).length ((Qbf l).map strV)) (hf : Fr w w' (fun _ => False)) : Qjj w l (.returned v) w' := by
 obtain ⟨A,c,rfl,-,-,-,hA,hA2⟩ := Qex h;cases A with
 | none =>
  have h0 := (hA rfl).1;exact absurd (List.eq_nil_of_length_eq_zero h0) (Qma l)
 | some A =>
  obtain ⟨b,rfl,-,hb,-⟩ := hA2 A rfl;exact ⟨b,c,rfl,hb,(by show World.ownsRow _ _ _ _ _ _ _; rw [Qfd]; exact h),hf⟩
def LInv3 (w : World) (l : Bs) (v3 v4 v5 : Value) (wr : World) : Prop := ∃ (i f : Nat) (done : List Bs),f ≤ i ∧ i ≤ l.length ∧ v5 = .int .i64 (i : Int) ∧ v4 = .int .i64 (f : Int) ∧ Strs3 wr w.heap.size v3 done ∧
 Qbf l = done ++ Qbf (l.drop f) ∧ Qes (cut l f i) = 0 ∧ done.length ≤ i ∧ Fr w wr (fun _ => False)
theorem QkP (l : Bs) (w : World) (hl : l.length ≤ 20000) : Calls Tryz.prog 29 #[strV l] w (Qjj w l) := by
 have hz := Qaw l;go_enter func29,ntmps29;go_wp2_with fail
 go_loopw [3,4,5] (fun v3 v4 v5 wr => LInv3 w l v3 v4 v5 wr) (fun _ _ v5 _ => l.length - (intOf v5).toNat)
 case atStart => exact ⟨0,0,[],Nat.le_refl _,Nat.zero_le _,rfl,rfl,⟨rfl,.inr ⟨w.heap.size,0,#[],rfl,Nat.le_refl _,heap_alloc_new w _,Nat.le_refl _,by unfold maxLen; omega,rfl,rfl⟩⟩,by simp,by simp [cut,Qes],by simp,Fr.new _ _ _⟩
 case round =>
  obtain ⟨i,f,done,hfi,hil,rfl,rfl,hown,hd,h0,hdl,hf⟩ := hrel;obtain ⟨i0,hi0,hz0,hz1,hz2⟩ := info_parts infoS3;have HO := Xi hown;have HF := Xi hf;have HD := Xi hd;have H0 := Xi h0;have hws := hf.size;obtain ⟨A3,c3,rfl⟩ := QaJ hown;clear hown hd h0 hf;have b0 : (0 : Int) ≤ (f : Int) := by omega
  have b1 : (f : Int) ≤ (i : Int) := by omega
  have b2 : (i : Int) ≤ (l.length : Int) := by omega
  by_cases hlt : i < l.length
  ·have hlt' : i < (⟨l.toArray⟩ : ByteArray).size := by rw [hz]; exact hlt
   have hget : (⟨l.toArray⟩ : ByteArray)[i]'hlt' = l[i]'hlt := rfl;have hget? : l[i]? = some (l[i]'hlt) := List.getElem?_eq_getElem hlt;obtain ⟨c,hc⟩ : ∃ c,l[i]'hlt = c := ⟨_,rfl⟩;rw [hc] at hget hget?;by_cases hc10 : c = 10
   ·subst hc10;have e10 : (((((⟨l.toArray⟩ : ByteArray)[i]'hlt').toNat : Nat) : Int) == 10) = true := by rw [hget]; rfl
    have HS := Xi (QmR hfi hget? HD.out H0.out);have HS5 := Xi (Qmf HO.out (.cells #[.string ((⟨l.toArray⟩ : ByteArray).extract f i)] 9));have HCE := Xi (show Value.string ((⟨l.toArray⟩ : ByteArray).extract f i) = strV (cut l f i) by rw [QiH]);clear hget hget? hc;go_wp2_with (at_builtin; refine Qa6 _ rfl (.tmp 17) (.tmp 22) 41 rfl w.heap.size 9 i0 _ 1 16 underlying41 hi0 hz0 hz1 hz2 rfl (by decide) _ _ _ rfl HS5.out _ 1 1 [.string ((⟨l.toArray⟩ : ByteArray).extract f i)] rfl (QdZ wr 9 (0,0) [.string ((⟨l.toArray⟩ : ByteArray).extract f i)]) (by intro u hu; simp at hu; subst hu; rfl) (by simp only [maxLen]; omega) (by omega) (by simp; omega) ?_; intro v6 w6 hown6 hg6 _);have hf6 := ((Fr.new wr (.cells #[.string ((⟨l.toArray⟩ : ByteArray).extract f i)] 9) (fun _ => False))).trans (Fr.ofGrown hg6) (U := fun k => w.heap.size ≤ k) (fun _ _ h => h.elim) (fun k _ e => (HS5.out.lt k e.symm).1);have HF6 := Xi (HF.out.fresh hf6 (fun k hk => hk));have HO6 := Xi hown6;clear hf6 hown6 hg6;go_wp2_with fail
    go_roundw
    case measure => simp [intOf]; omega
    case rel =>
     refine ⟨i + 1,i + 1,done ++ [cut l f i],Nat.le_refl _,by omega,by go_num,by go_num,?_,HS.out.1,HS.out.2,by simp; omega,HF6.out⟩;have := HO6.out;rw [HCE.out] at this;show World.ownsRow _ _ _ _ _ _ _;simpa using this
   ·have e10 : (((((⟨l.toArray⟩ : ByteArray)[i]'hlt').toNat : Nat) : Int) == 10) = false := by
     rw [hget,beq_eq_false_iff_ne];intro e;exact hc10 (UInt8.toNat_inj.1 (by have : (10 : UInt8).toNat = 10 := rfl; omega))
    have HS := Xi (QmQ hfi hget? hc10 H0.out);clear hget hget? hc;go_wp2_with fail
    go_roundw
    case measure => simp [intOf]; omega
    case rel => exact ⟨i + 1,f,done,by omega,by omega,by go_num,rfl,HO.out,HD.out,HS.out,by omega,HF.out⟩
  ·have hil' : i = l.length := by omega
   have HS := Xi (show Qbf l = done ++ [l.drop f] by
    rw [HD.out,Qpd (x := l.drop f)];have := H0.out;rw [hil',Go.Rope.QgA] at this
    rwa [List.take_of_length_le (by rw [List.length_drop]; omega)] at this)
   have HS5 := Xi (Qmf HO.out (.cells #[.string ((⟨l.toArray⟩ : ByteArray).extract f l.length)] 9));have HCE := Xi (show Value.string ((⟨l.toArray⟩ : ByteArray).extract f l.length) = strV (l.drop f) by rw [QiH,Go.Rope.QgA,List.take_of_length_le (by rw [List.length_drop]; omega)]);go_wp2_with (at_builtin; refine Qa6 _ rfl (.tmp 26) (.tmp 30) 41 rfl w.heap.size 9 i0 _ 1 16 underlying41 hi0 hz0 hz1 hz2 rfl (by decide) _ _ _ rfl HS5.out _ 1 1 [.string ((⟨l.toArray⟩ : ByteArray).extract f l.length)] rfl (QdZ wr 9 (0,0) [.string ((⟨l.toArray⟩ : ByteArray).extract f l.length)]) (by intro u hu; simp at hu; subst hu; rfl) (by simp only [maxLen]; omega) (by omega) (by simp; omega) ?_; intro v6 w6 hown6 hg6 _);have hf6 := ((Fr.new wr (.cells #[.string ((⟨l.toArray⟩ : ByteArray).extract f l.length)] 9) (fun _ => False))).trans (Fr.ofGrown hg6) (U := fun k => w.heap.size ≤ k) (fun _ _ h => h.elim) (fun k _ e => (HS5.out.lt k e.symm).1);have HF6 := Xi (HF.out.fresh hf6 (fun k hk => hk));have HO6 := Xi hown6;clear hf6 hown6 hg6;go_wp2_with fail;go_ret;refine Qpg ?_ HF6.out;have := HO6.out;rw [HCE.out] at this;show World.ownsRow _ _ _ _ _ _ _;rw [HS.out];simpa using this
end Go.Proofs.YtlfjknndkjgciaaGreatDoor
namespace Go.Proofs.YtlfjknndkjgciaaGreatDoor
open _root_.Go.Proofs.Tryz
open Go.RowKit Go.Mem Go.Lin Go.Dcm

def LI4 (w : World) (L : List Bs) (H c : Nat) (k : Nat) (v : Value) (wr : World) : Prop := ∃ i : Nat,i + k = L.length ∧ v = intV (i : Int) ∧ Own wr w.heap.size 9 1 strL (.slice (some ⟨H,0,none⟩) L.length c) (upD L i) ∧ Fr w wr (fun _ => False)
theorem Qoe (a : Bs) : Qdu (a ++ [13]) = a := by unfold Qdu; simp
theorem strip_no (a : Bs) (c : UInt8) (h : c ≠ 13) : Qdu (a ++ [c]) = a ++ [c] := by unfold Qdu; simp [h]
theorem up_same (L : List Bs) (i : Nat) (h : i < L.length) (hs : Qdu L[i] = L[i]) : upD L (i + 1) = upD L i := by
 have h1 := Qn3 L i h;have h2 := up_at L i h;have hl : i < (upD L i).length := by rw [QfK]; exact h
 rw [List.getElem?_eq_getElem hl] at h2;injection h2 with h2;rw [← h1,hs,← h2];exact List.set_getElem_self hl
theorem Qgu (l : Bs) (w : World) (hl : l.length ≤ 19000) : Calls Tryz.prog 17 #[strV l] w (TPost (Qda l) w) := by
 have HS := Xi (QkP l w (by omega));obtain ⟨L,hL⟩ : ∃ L,Go.Rope.Qbf l = L := ⟨_,rfl⟩;have hle := Qf0 l;unfold Qjj at HS;rw [hL] at HS hle;have HD := Xi (show Qda l = upD L L.length by rw [up_all,← hL]; rfl);have HLE := Xi (show ∀ x ∈ L,x.length ≤ 20000 from fun x hx => by have := hle.2 x hx; omega);have hn : L.length ≤ 20001 := by omega
 rw [HD.out];clear hL hle hl;go_enter func17,ntmps17;go_wp2_with fail;refine HS.out.mono ?_;rintro e w2 ⟨H,c,rfl,hHb,ho,hf⟩;have HI := Xi (show LI4 w L H c L.length (intV 0) w2 from ⟨0,by simp,rfl,by simpa [upD] using ho,hf⟩);clear ho hf;go_wp2_with fail
 go_loopg [4,5] L.length (fun k v4 _ wr => LI4 w L H c k v4 wr)
 case atStart => exact HI.out
 case round =>
  obtain ⟨i,hik,rfl,ho,hf⟩ := hrel;by_cases hlt : i < L.length
  ·obtain ⟨c1,f1⟩ := QlU ho (QfK L i).symm (up_at L i hlt);have HU := Xi (Qn3 L i hlt);have HSA := Xi (up_same L i hlt);have HO := Xi ho;have HF := Xi hf;have hi1 : (i : Int) < (L.length : Int) := by omega
   have hi0 : (0 : Int) ≤ (i : Int) := by omega
   have hxl := HLE.out L[i] (List.getElem_mem hlt);obtain ⟨x,hx⟩ : ∃ x,L[i] = x := ⟨_,rfl⟩;rw [hx] at c1 HU HSA hxl;clear ho hf hx;rcases List.eq_nil_or_concat x with rfl | ⟨a,b,rfl⟩
   ·have HE := Xi (HSA.out rfl);have c1 : wr.cell? ⟨H,i,none⟩ = some (.string ⟨#[]⟩) := c1;clear HSA HU hxl;go_wp2_with fail
    go_roundg (gk - 1)
    case measure => omega
    case rel => exact ⟨i + 1,by omega,by go_num,by rw [HE.out]; exact HO.out,HF.out⟩
   ·rw [List.concat_eq_append] at c1 HU HSA hxl;obtain ⟨s,hs⟩ : ∃ s : ByteArray,(⟨(a ++ [b]).toArray⟩ : ByteArray) = s := ⟨_,rfl⟩;have hsz : s.size = a.length + 1 := by rw [← hs,Qaw]; simp
    have hp : a.length < s.size := by omega
    have hget : s[a.length] = b := by subst hs; show (a ++ [b])[a.length]'_ = b; simp
    have hcut : s.extract 0 a.length = ⟨a.toArray⟩ := by
     rw [← hs,QiH];simp [Go.Rope.cut]
    have c2 : wr.cell? ⟨H,i,none⟩ = some (.string s) := by rw [← hs]; exact c1
    clear c1;have m1 : (s.size : Int) - 1 = (a.length : Int) := by omega
    have m0 : (0 : Int) < (s.size : Int) := by omega
    have m2 : (a.length : Int) < (s.size : Int) := by omega
    have m3 : (0 : Int) ≤ (a.length : Int) := by omega
    have m4 : (a.length : Int) ≤ (s.size : Int) := by omega
    have m5 : (s.size : Int) ≤ 20000 := by rw [hsz]; simp at hxl; omega
    clear hs hsz hxl;by_cases hb : b = 13
    ·subst hb;have e13 : ((s[a.length].toNat : Int) == 13) = true := by rw [hget]; rfl
     have hy := Qoe a;rw [hy] at HU;have HV := Xi (show Value.string (s.extract 0 a.length) = strV a by rw [hcut]);clear hget hcut HSA hy;go_wp2_with fail
     go_roundg (gk - 1)
     case measure => omega
     case rel =>
      refine ⟨i + 1,by omega,by go_num,?_,HF.out.fresh (Fr.set (S := fun k => k = H) rfl) (fun j e => by omega)⟩;have := Qof HO.out (QfK L i).symm i a;rw [HU.out] at this;rw [HV.out];exact this
    ·have e13 : ((s[a.length].toNat : Int) == 13) = false := by
      rw [hget,show ((b.toNat : Int) == 13) = (b == 13) from (S8.QbV b 13).symm];simpa using hb
     have HE := Xi (HSA.out (strip_no a b hb));clear hget hcut HSA HU;go_wp2_with fail
     go_roundg (gk - 1)
     case measure => omega
     case rel => exact ⟨i + 1,by omega,by go_num,by rw [HE.out]; exact HO.out,HF.out⟩
  ·obtain rfl : i = L.length := by omega
   have HO := Xi ho;have HF := Xi hf;have hi1 : (L.length : Int) ≤ (L.length : Int) := Int.le_refl _;clear ho hf;go_wp2_with fail;go_ret;refine ⟨H,c,?_,hHb,?_,HF.out⟩
   ·rw [QfK]; rfl
   ·rw [QfK]; exact HO.out
end Go.Proofs.YtlfjknndkjgciaaGreatDoor
