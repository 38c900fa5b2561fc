import Derived.Test.YtodcnbejnchmhaaGreatDoorYb32
import Derived.Test.YtodcnbejnchmhaaGreatDoorYb09
import Derived.Test.YtodcnbejnchmhaaGreatDoorYb30
namespace Go.Mem
open Go.RowKit
section
variable {P : Program} {ops : Array Oper} {rest : List Oper} {a : Act} {w : World} {Q : Exit → Act → World → Prop}
/- the next operation's kind, seen at once ('with_reducible refine at_load T ?_' ahead of a law): a law that does not fit is not tried -/
end
end Go.Mem
namespace Go.Proofs.YtodcnbejnchmhaaGreatDoor
open Go.RowKit Go.Mem Go.Lin Go.Dcm
/-- what is turned by x.f = append(x.f, y): the block of x, and rows of that type -/
def PB (D B : Nat) (e : TypeId) (w : World) (i : Nat) : Prop := i = D ∨ TB B e w i
section
variable {P : Program} {ops : Array Oper} {Q : Exit → Act → World → Prop} {md : Region.Mode} {S : World → Prop}
/-- x.f = append(x.f, y) in a region that draws its order: what is left of it once all that only reads is taken: the load of x.f, the slice of one element, append, the store -/
theorem wpAnyH_push {X : Type} {f : X → List Value} {l : List X} {fuel : Nat} {listed : Array Bool} {a : Act} {w : World} (i j k : Nat) (oi oj ok : Oper)
    (hi : ops[i]? = some oi) (hj : ops[j]? = some oj) (hk : ops[k]? = some ok)
    (hr0 : Region.ready md ops listed = [i, j]) (hr1 : Region.ready md ops (listed.setIfInBounds i true) = [j]) (hr2 : Region.ready md ops (listed.setIfInBounds j true) = [i])
    (hr3 : Region.ready md ops ((listed.setIfInBounds i true).setIfInBounds j true) = [k]) (hij : i ≠ j)
    (gi : oi.guard = none) (gj : oj.guard = none) (gk : ok.guard = none)
    {ts e : TypeId} {xi yj sk xk : Operand} {di dj : Nat}
    (ho : oi.op = .load ts xi) (hdi : oi.dst = some di) (hoj : oj.op = .buildSlice ts 1 #[(0, yj)]) (hdj : oj.dst = some dj) (hdd : di ≠ dj)
    (hok : ok.op = .call { callee := .builtin .append, args := #[sk, xk], argTypes := #[ts, ts] })
    (D J B : Nat) (t : TypeId) (C : Array Value) (n c : Nat) (A : Option Addr) (cs : Array Value) (v : Value) (x : X)
    (hD : D < B) (hb : Blk w D t C) (hC : C[J]? = some (.slice A n c)) (hn : n = l.length) (hxi : a.eval xi = .pointer (some ⟨D, J, none⟩)) (hxj : (a.put (some dj) (.slice (some ⟨w.heap.size, 0, none⟩) 1 1)).eval xi = .pointer (some ⟨D, J, none⟩))
    (hyj : a.eval yj = v) (hyi : (a.put (some di) (.slice A n c)).eval yj = v) (hrun : ∀ w, (Instr.buildSlice ts 1 #[(0, v)]).run P w = .ok (.slice (some ⟨w.heap.size, 0, none⟩) 1 1) (w.alloc (.cells cs e)))
    (hcs : cs.toList = f x) (h1 : cs.all (·.oneCell') = true)
    (hsk : ((a.put (some di) (.slice A n c)).put (some dj) (.slice (some ⟨w.heap.size, 0, none⟩) 1 1)).eval sk = .slice A n c)
    (hxk : ((a.put (some di) (.slice A n c)).put (some dj) (.slice (some ⟨w.heap.size, 0, none⟩) 1 1)).eval xk = .slice (some ⟨w.heap.size, 0, none⟩) 1 1)
    (z : Value) (size bytes : Nat) (ht : P.underlying ts = some (.slice e)) (hinf : (P.info? e).map (fun i => (i.zero, i.size, i.bytes)) = some (some z, size, bytes))
    (hzs : z.cells.size = size) (hsz : 0 < size) (hcz : cs.size = size) (hown : Own w B e size f (.slice A n c) l) (h63 : n ≤ 100000) (hby : bytes ≤ 1000) (hbase : B ≤ w.heap.size)
    (hS : ∀ W, Fr w W (TB B e w) → S W)
    (h : ∀ A9 c9 W, S W → Own W B e size f (.slice A9 (n + 1) c9) (l ++ [x]) → Blk W D t C → Fr w W (TB B e w) →
      wpAnyH P md ops Q S fuel (((listed.setIfInBounds i true).setIfInBounds j true).setIfInBounds k true) (((a.put (some di) (.slice A n c)).put (some dj) (.slice (some ⟨w.heap.size, 0, none⟩) 1 1)).put ok.dst (.slice A9 (n + 1) c9)) W) :
    wpAnyH P md ops Q S (fuel + 3) listed a w := by
  subst hn
  have hnew := Fr.new w (.cells cs e) (fun _ => False)
  have hp0 : Fr w w (TB B e w) := Fr.refl _ _
  have hpn : Fr w (w.alloc (.cells cs e)) (TB B e w) := hnew.mono (fun _ _ h => h.elim)
  have hw : ∀ (o : Oper) (y : Nat → Option Bool) (hg : o.guard = none), Region.wanted o y = true := fun o y hg => by simp only [Region.wanted, hg]
  have hui : ∀ (a : Act) (w : World) (K : Act → World → Prop), Blk w D t C → a.eval xi = .pointer (some ⟨D, J, none⟩) → K (a.put oi.dst (.slice A l.length c)) w → oi.wp P a w K Q := by
    intro a w K hb hx hK
    exact wp_load1 ho hx (blkc hb J _ hC) ht rfl hK
  -- what follows behind both
  have last : wpAnyH P md ops Q S (fuel + 1) ((listed.setIfInBounds i true).setIfInBounds j true) ((a.put (some di) (.slice A l.length c)).put (some dj) (.slice (some ⟨w.heap.size, 0, none⟩) 1 1)) (w.alloc (.cells cs e)) := by
    refine wpAnyH_ready hr3 (by simp) (AllReadyH.cons hk (fun K hK => ?_) AllReadyH.nil)
    rw [if_pos (hw _ _ gk)]
    obtain ⟨i0, hi0, hz0, hz1, hz2⟩ := info_parts hinf
    have hownA := hown.kept hnew
    have hbA := hnew.blk hb (fun h => h)
    have hx := rd_made w e cs
    rw [hcz] at hx
    have hbe : B ≤ (w.alloc (.cells cs e)).heap.size := Nat.le_trans hbase hnew.size
    refine wp_append_rd _ sk xk ts hok B e i0 z size bytes ht hi0 hz0 hz1 hz2 hzs hsz _ _ _ hsk hownA _ 1 1 cs.toList hxk hx (one_made h1) (by simp only [maxLen]; omega) ?_ hbe ?_
    · have : (l.length + 1) * bytes ≤ 100001 * 1000 := Nat.mul_le_mul (by omega) hby
      omega
    · intro v9 w9 hown9 hg9 _
      obtain ⟨A9, c9, rfl⟩ := Go.Mem.own_slice hown9
      have hf9 := tb_own hownA (Fr.ofGrown hg9)
      have hb9 : Blk w9 D t C := (Fr.ofGrown hg9).blk hbA (fun e => by have := (own_block hownA e.symm).1; omega)
      have hown9 := own_more (x := x) hown9 hcs
      have hend := tb_new hnew hf9
      exact hK.out _ _ (hS _ hend) (fun hs => h A9 c9 w9 hs hown9 hb9 hend)
  refine wpAnyH_ready hr0 (by simp) (AllReadyH.cons hi (fun K hK => ?_) (AllReadyH.cons hj (fun K hK => ?_) AllReadyH.nil))
  · rw [if_pos (hw _ _ gi)]
    refine hui a w K hb hxi (hK.out _ _ (hS _ hp0) (fun _ => ?_))
    refine wpAnyH_ready hr1 (by simp) (AllReadyH.cons hj (fun K2 hK2 => ?_) AllReadyH.nil)
    rw [if_pos (hw _ _ gj)]
    rw [hdi]
    refine wp_built hoj hyi hrun (hK2.out _ _ (hS _ hpn) (fun _ => ?_))
    rw [hdj]
    exact last
  · rw [if_pos (hw _ _ gj)]
    refine wp_built hoj hyj hrun (hK.out _ _ (hS _ hpn) (fun _ => ?_))
    refine wpAnyH_ready hr2 (by simp) (AllReadyH.cons hi (fun K2 hK2 => ?_) AllReadyH.nil)
    rw [if_pos (hw _ _ gi), hdj]
    refine hui _ _ K2 (hnew.blk hb (fun h => h)) hxj (hK2.out _ _ (hS _ hpn) (fun _ => ?_))
    rw [hdi, ← Act.put_comm a _ _ (by intro d hd e; injection hd with hd; injection e with e; omega), Array.setIfInBounds_comm _ _ hij.symm]
    exact last
/-- the last store of a region that draws its order: one cell of the block D -/
theorem wpAnyH_put {fuel : Nat} {listed : Array Bool} {a : Act} {w : World} (m : Nat) (om : Oper) (hm : ops[m]? = some om) (hr4 : Region.ready md ops listed = [m]) (hr5 : Region.ready md ops (listed.setIfInBounds m true) = []) (gm : om.guard = none)
    {ts : TypeId} {xm ym : Operand} (hom : om.op = .store ts xm ym) (hdm : om.dst = none) (D J : Nat) (t : TypeId) (C : Array Value) (v : Value) (hb : Blk w D t C) (hJ : J < C.size) (hxm : a.eval xm = .pointer (some ⟨D, J, none⟩)) (hym : a.eval ym = v) (h1 : v.oneCell' = true)
    (hits : (P.info? ts).map (·.size) = some 1) (hS : ∀ W, Fr w W (fun i => i = D) → S W) (h : ∀ W, Fr w W (fun i => i = D) → Blk W D t (C.setIfInBounds J v) → Q .normal a W) : wpAnyH P md ops Q S (fuel + 1) listed a w := by
  have hw : ∀ (o : Oper) (y : Nat → Option Bool) (hg : o.guard = none), Region.wanted o y = true := fun o y hg => by simp only [Region.wanted, hg]
  refine wpAnyH_ready hr4 (by simp) (AllReadyH.cons hm (fun K2 hK2 => ?_) AllReadyH.nil)
  rw [if_pos (hw _ _ gm)]
  refine wp_store1 hom hdm hxm hym hb hits h1 hJ ?_
  have hs9 := Fr.set (w := w) (a := ⟨D, J, none⟩) (v := v) (S := fun i => i = D) rfl
  exact hK2.out _ _ (hS _ hs9) (fun _ => wpAnyH_done hr5 (h _ hs9 (hb.put' J _ rfl)) _)
end
section
variable {P : Program} {ops : Array Oper} {Q : Exit → Act → World → Prop} {md : Region.Mode} {S : World → Prop}
/-- a struct is stored into a row: the world behind it is opaque -/
theorem wp_store_blk {o : Oper} {a : Act} {w : World} {K : Act → World → Prop} (ty : TypeId) (x y : Operand) (g off : Nat) (t : TypeId) (old cells new : Array Value) (ho : o.op = .store ty x y) (hd : o.dst = none) (hx : a.eval x = .pointer (some ⟨g, off, none⟩)) (hy : a.eval y = .agg cells)
    (hg : Blk w g t old) (hi : (P.info? ty).map (·.size) = some cells.size) (h1 : cells.all (·.oneCell') = true) (hfit : off + cells.size ≤ old.size) (hnew : setMany old off cells.toList = new)
    (h : ∀ W, Fr w W (fun i => i = g) → Blk W g t new → K a W) : o.wp P a w K Q := by
  have ht : w.there g off cells.size := fun j hj => ⟨by rw [cell_at hg, Array.getElem?_eq_getElem (by omega)]; rfl, free_at hg _⟩
  unfold Oper.wp execOp
  simp only [ho, hx, hy, run_storeAt_mid w g off ty cells ht hi h1, Sem.run_bind, Sem.run_pure, Result.andThen_ok]
  have := h _ (Fr.many cells.toList off w) (by have := Blk.many cells.toList off old w hg; rw [hnew] at this; exact this)
  simpa only [Oper.upon, hd, Act.put] using this
theorem wp_alloc1 {o : Oper} {a : Act} {w : World} {K : Act → World → Prop} {e : TypeId} {zs : Array Value} (ho : o.op = .alloc e) (hrun : ∀ w, (Instr.alloc e true (.tuple #[])).run P w = .ok (.pointer (some ⟨w.heap.size, 0, none⟩)) (w.alloc (.cells zs e)))
    (h : K (a.put o.dst (.pointer (some ⟨w.heap.size, 0, none⟩))) (w.alloc (.cells zs e))) : o.wp P a w K Q := by
  unfold Oper.wp execOp
  simp only [ho, hrun, Sem.run_bind, Sem.run_pure, Result.andThen_ok]
  exact h
/-- x, y := two structs, in a region that draws its order: what is left of it once all that only reads is taken: two variables are made, and stored into -/
theorem wpAnyH_pair {fuel : Nat} {listed : Array Bool} {a : Act} {w : World} (i j k m : Nat) (oi oj ok om : Oper)
    (hi : ops[i]? = some oi) (hj : ops[j]? = some oj) (hk : ops[k]? = some ok) (hm : ops[m]? = some om)
    (hr0 : Region.ready md ops listed = [i, j]) (hr1 : Region.ready md ops (listed.setIfInBounds i true) = [j]) (hr2 : Region.ready md ops (listed.setIfInBounds j true) = [i])
    (hr3 : Region.ready md ops ((listed.setIfInBounds i true).setIfInBounds j true) = [k]) (hr4 : Region.ready md ops (((listed.setIfInBounds i true).setIfInBounds j true).setIfInBounds k true) = [m])
    (hr5 : Region.ready md ops ((((listed.setIfInBounds i true).setIfInBounds j true).setIfInBounds k true).setIfInBounds m true) = []) (hij : i ≠ j)
    (gi : oi.guard = none) (gj : oj.guard = none) (gk : ok.guard = none) (gm : om.guard = none)
    {e : TypeId} {xk yk xm ym : Operand} {di dj : Nat}
    (hoi : oi.op = .alloc e) (hdi : oi.dst = some di) (hoj : oj.op = .alloc e) (hdj : oj.dst = some dj) (hdd : di ≠ dj)
    (hok : ok.op = .store e xk yk) (hdk : ok.dst = none) (hom : om.op = .store e xm ym) (hdm : om.dst = none)
    (zs cs ds : Array Value) (hrun : ∀ w, (Instr.alloc e true (.tuple #[])).run P w = .ok (.pointer (some ⟨w.heap.size, 0, none⟩)) (w.alloc (.cells zs e)))
    (hic : (P.info? e).map (·.size) = some cs.size) (hid : (P.info? e).map (·.size) = some ds.size) (hzc : zs.size = cs.size) (hzd : zs.size = ds.size) (h1c : cs.all (·.oneCell') = true) (h1d : ds.all (·.oneCell') = true)
    (hxk : ∀ p q, ((a.put (some di) (.pointer (some ⟨p, 0, none⟩))).put (some dj) (.pointer (some ⟨q, 0, none⟩))).eval xk = .pointer (some ⟨p, 0, none⟩))
    (hyk : ∀ p q, ((a.put (some di) (.pointer (some ⟨p, 0, none⟩))).put (some dj) (.pointer (some ⟨q, 0, none⟩))).eval yk = .agg cs)
    (hxm : ∀ p q, ((a.put (some di) (.pointer (some ⟨p, 0, none⟩))).put (some dj) (.pointer (some ⟨q, 0, none⟩))).eval xm = .pointer (some ⟨q, 0, none⟩))
    (hym : ∀ p q, ((a.put (some di) (.pointer (some ⟨p, 0, none⟩))).put (some dj) (.pointer (some ⟨q, 0, none⟩))).eval ym = .agg ds)
    (hS : ∀ W, Fr w W (fun _ => False) → S W)
    (h : ∀ p q W, p ≠ q → w.heap.size ≤ p → w.heap.size ≤ q → Blk W p e cs → Blk W q e ds → Fr w W (fun _ => False) → Q .normal ((a.put (some di) (.pointer (some ⟨p, 0, none⟩))).put (some dj) (.pointer (some ⟨q, 0, none⟩))) W) :
    wpAnyH P md ops Q S (fuel + 4) listed a w := by
  have hw : ∀ (o : Oper) (y : Nat → Option Bool) (hg : o.guard = none), Region.wanted o y = true := fun o y hg => by simp only [Region.wanted, hg]
  have n1 := Fr.new w (.cells zs e) (fun _ => False)
  have n2 := Fr.new (w.alloc (.cells zs e)) (.cells zs e) (fun _ => False)
  have s1 : (w.alloc (.cells zs e)).heap.size = w.heap.size + 1 := by simp
  have hf2 := n1.trans n2 (fun _ _ h => h) (fun _ _ h => h)
  have b1 : Blk ((w.alloc (.cells zs e)).alloc (.cells zs e)) w.heap.size e zs := n2.blk (Blk.made w e zs) (fun h => h)
  have b2 := Blk.made (w.alloc (.cells zs e)) e zs
  rw [s1] at b2
  have last : ∀ p q, p ≠ q → w.heap.size ≤ p → w.heap.size ≤ q → Blk ((w.alloc (.cells zs e)).alloc (.cells zs e)) p e zs → Blk ((w.alloc (.cells zs e)).alloc (.cells zs e)) q e zs →
      wpAnyH P md ops Q S (fuel + 2) ((listed.setIfInBounds i true).setIfInBounds j true) ((a.put (some di) (.pointer (some ⟨p, 0, none⟩))).put (some dj) (.pointer (some ⟨q, 0, none⟩))) ((w.alloc (.cells zs e)).alloc (.cells zs e)) := by
    intro p q hpq hp hq bp bq
    refine wpAnyH_ready hr3 (by simp) (AllReadyH.cons hk (fun K hK => ?_) AllReadyH.nil)
    rw [if_pos (hw _ _ gk)]
    refine wp_store_blk e xk yk p 0 e zs cs cs hok hdk (hxk p q) (hyk p q) bp hic h1c (by omega) (put_all hzc) ?_
    intro W3 f3 bp3
    have hf3 : Fr w W3 (fun _ => False) := hf2.fresh f3 (fun i e => by subst e; exact hp)
    have bq3 := f3.blk bq (Ne.symm hpq)
    refine hK.out _ _ (hS _ hf3) (fun _ => ?_)
    refine wpAnyH_ready hr4 (by simp) (AllReadyH.cons hm (fun K2 hK2 => ?_) AllReadyH.nil)
    rw [if_pos (hw _ _ gm)]
    refine wp_store_blk e xm ym q 0 e zs ds ds hom hdm (hxm p q) (hym p q) bq3 hid h1d (by omega) (put_all hzd) ?_
    intro W4 f4 bq4
    have hf4 : Fr w W4 (fun _ => False) := hf3.fresh f4 (fun i e => by subst e; exact hq)
    refine hK2.out _ _ (hS _ hf4) (fun _ => ?_)
    exact wpAnyH_done hr5 (h p q W4 hpq hp hq (f4.blk bp3 hpq) bq4 hf4) _
  refine wpAnyH_ready hr0 (by simp) (AllReadyH.cons hi (fun K hK => ?_) (AllReadyH.cons hj (fun K hK => ?_) AllReadyH.nil))
  · rw [if_pos (hw _ _ gi)]
    refine wp_alloc1 hoi hrun (hK.out _ _ (hS _ n1) (fun _ => ?_))
    refine wpAnyH_ready hr1 (by simp) (AllReadyH.cons hj (fun K2 hK2 => ?_) AllReadyH.nil)
    rw [if_pos (hw _ _ gj)]
    refine wp_alloc1 hoj hrun (hK2.out _ _ (hS _ hf2) (fun _ => ?_))
    rw [hdi, hdj, s1]
    exact last _ _ (by omega) (Nat.le_refl _) (by omega) b1 b2
  · rw [if_pos (hw _ _ gj)]
    refine wp_alloc1 hoj hrun (hK.out _ _ (hS _ n1) (fun _ => ?_))
    refine wpAnyH_ready hr2 (by simp) (AllReadyH.cons hi (fun K2 hK2 => ?_) AllReadyH.nil)
    rw [if_pos (hw _ _ gi)]
    refine wp_alloc1 hoi hrun (hK2.out _ _ (hS _ hf2) (fun _ => ?_))
    rw [hdi, hdj, s1, ← Act.put_comm a _ _ (by intro d hd e; injection hd with hd; injection e with e; omega), Array.setIfInBounds_comm _ _ hij.symm]
    exact last _ _ (by omega) (by omega) (Nat.le_refl _) b2 b1
end
end Go.Proofs.YtodcnbejnchmhaaGreatDoor
namespace Go.Proofs.YtodcnbejnchmhaaGreatDoor
open Go.RowKit Go.Mem Go.Lin Go.Dcm

theorem infoDiag1 : (Tryz.prog.info? 125).map (·.size) = some 4 := by kernel_rfl
theorem infoRR1 : (Tryz.prog.info? 91).map (·.size) = some 12 := by kernel_rfl
theorem infoRL1 : (Tryz.prog.info? 99).map (·.size) = some 3 := by kernel_rfl
theorem infoRZ1 : (Tryz.prog.info? 95).map (·.size) = some 3 := by kernel_rfl
theorem int_at {w : World} {A : Option Addr} {l : List Int} (h : Rd w 1 A l.length (l.flatMap intL)) {i : Nat} (hi : i < l.length) : ∃ b off, A = some ⟨b, off, none⟩ ∧ w.cell? ⟨b, off + i, none⟩ = some (intV l[i]) := int_cell h hi
set_option maxRecDepth 100000 in
set_option maxHeartbeats 1600000 in
theorem Diags_any (l : List DiagL) (A B : Option Addr) (ca cb : Nat) (w : World) (h1 : Rd w 4 A l.length (l.flatMap diagL)) (h2 : Rd w 4 B l.length (l.flatMap diagL)) (hm : l.length ≤ 1000000) : Calls Tryz.prog 38 #[.slice A l.length ca, .slice B l.length cb] w (TrueR w) := by
  have H1 := Lib.hid h1
  have H2 := Lib.hid h2
  clear h1 h2
  go_enter Tryz.func38, Tryz.ntmps38
  go_wp2_with fail
  go_loopg [5] l.length (fun k v5 wr => ∃ i : Nat, i + k = l.length ∧ v5 = intV (i : Int) ∧ Fr w wr (fun _ => False))
  case atStart => exact ⟨0, by simp, rfl, Fr.refl _ _⟩
  case round =>
    obtain ⟨i, hik, rfl, hf⟩ := hrel
    by_cases hlt : i < l.length
    · have hi1 : (i : Int) < (l.length : Int) := by omega
      obtain ⟨b1, o1, rfl, c1⟩ := elem_at diagL_len (Rd.fr H1.out hf (fun _ _ _ _ h => h)) hlt
      obtain ⟨b2, o2, rfl, c2⟩ := elem_at diagL_len (Rd.fr H2.out hf (fun _ _ _ _ h => h)) hlt
      obtain ⟨x, hx⟩ : ∃ x, l[i] = x := ⟨_, rfl⟩
      rw [hx] at c1 c2
      have HF := Lib.hid hf
      have C1 := Lib.hid c1
      have C2 := Lib.hid c2
      clear c1 c2
      clear hx hf
      go_wp2_with fail
      refine wp_region_held_drew (S := fun w' => Fr wr w' (fun _ => False)) (by kernel_rfl) (Fr.drew wr _) (fun hHeld => ?_)
      refine wpAnyH_take (i := 0) (v := ?_) rfl (by kernel_rfl) (by kernel_rfl) (by kernel_rfl) (fun _ _ _ h => h) (Or.inl ⟨by rfl, ?_⟩) (by assumption) ?_
      rotate_left
      · intro w' hSw
        skip
        go_simp
        try with_reducible rfl
      try simp only [Act.put, List.setIfInBounds_toArray, List.set_cons_zero, List.set_cons_succ, List.getElem_toArray, List.getElem_cons_zero]
      refine wpAnyH_take (i := 1) (v := ?_) rfl (by kernel_rfl) (by kernel_rfl) (by kernel_rfl) (fun _ _ _ h => h) (Or.inl ⟨by rfl, ?_⟩) (by assumption) ?_
      rotate_left
      · intro w' hSw
        skip
        go_simp
        try with_reducible rfl
      try simp only [Act.put, List.setIfInBounds_toArray, List.set_cons_zero, List.set_cons_succ, List.getElem_toArray, List.getElem_cons_succ, List.getElem_cons_zero]
      refine wpAnyH_take (i := 2) (v := ?_) rfl (by kernel_rfl) (by kernel_rfl) (by kernel_rfl) (fun _ _ _ h => h) (Or.inl ⟨by rfl, ?_⟩) (by assumption) ?_
      rotate_left
      · intro w' hSw
        skip
        go_simp
        try with_reducible rfl
      try simp only [Act.put, List.setIfInBounds_toArray, List.set_cons_zero, List.set_cons_succ, List.getElem_toArray, List.getElem_cons_succ, List.getElem_cons_zero]
      refine wpAnyH_take (i := 3) (v := _) rfl (by kernel_rfl) (by kernel_rfl) (by kernel_rfl) (fun _ _ _ h => h) (yields_at 125 _ b1 (o1 + i * 4) (diagL x).toArray _ (by rfl) rfl (by rfl) (fun w' h => cells_far h C1.out (Nat.le_refl _) (fun h => h)) Tryz.underlying125 rfl infoDiag1) (by assumption) ?_
      try simp only [Act.put, List.setIfInBounds_toArray, List.set_cons_zero, List.set_cons_succ, List.getElem_toArray, List.getElem_cons_succ, List.getElem_cons_zero]
      refine wpAnyH_take (i := 4) (v := ?_) rfl (by kernel_rfl) (by kernel_rfl) (by kernel_rfl) (fun _ _ _ h => h) (Or.inl ⟨by rfl, ?_⟩) (by assumption) ?_
      rotate_left
      · intro w' hSw
        skip
        go_simp
        try with_reducible rfl
      try simp only [Act.put, List.setIfInBounds_toArray, List.set_cons_zero, List.set_cons_succ, List.getElem_toArray, List.getElem_cons_succ, List.getElem_cons_zero]
      refine wpAnyH_take (i := 5) (v := ?_) rfl (by kernel_rfl) (by kernel_rfl) (by kernel_rfl) (fun _ _ _ h => h) (Or.inl ⟨by rfl, ?_⟩) (by assumption) ?_
      rotate_left
      · intro w' hSw
        skip
        go_simp
        try with_reducible rfl
      try simp only [Act.put, List.setIfInBounds_toArray, List.set_cons_zero, List.set_cons_succ, List.getElem_toArray, List.getElem_cons_succ, List.getElem_cons_zero]
      refine wpAnyH_take (i := 6) (v := ?_) rfl (by kernel_rfl) (by kernel_rfl) (by kernel_rfl) (fun _ _ _ h => h) (Or.inl ⟨by rfl, ?_⟩) (by assumption) ?_
      rotate_left
      · intro w' hSw
        skip
        go_simp
        try with_reducible rfl
      try simp only [Act.put, List.setIfInBounds_toArray, List.set_cons_zero, List.set_cons_succ, List.getElem_toArray, List.getElem_cons_succ, List.getElem_cons_zero]
      refine wpAnyH_take (i := 7) (v := _) rfl (by kernel_rfl) (by kernel_rfl) (by kernel_rfl) (fun _ _ _ h => h) (yields_at 125 _ b2 (o2 + i * 4) (diagL x).toArray _ (by rfl) rfl (by rfl) (fun w' h => cells_far h C2.out (Nat.le_refl _) (fun h => h)) Tryz.underlying125 rfl infoDiag1) (by assumption) ?_
      try simp only [Act.put, List.setIfInBounds_toArray, List.set_cons_zero, List.set_cons_succ, List.getElem_toArray, List.getElem_cons_succ, List.getElem_cons_zero]
      refine wpAnyH_take (i := 8) (v := _) rfl (by kernel_rfl) (by kernel_rfl) (by kernel_rfl) (fun _ _ _ h => h) (yields_neq (by rfl) rfl (by rfl) (by rfl) (guard_diag _ _ _ _) (same_diag x)) (by assumption) ?_
      try simp only [Act.put, List.setIfInBounds_toArray, List.set_cons_zero, List.set_cons_succ, List.getElem_toArray, List.getElem_cons_succ, List.getElem_cons_zero]
      refine wpAnyH_done (by kernel_rfl) ?_ _
      clear hHeld
      have HD := Lib.hid (ff0 HF.out (Fr.drew wr (fun _ => False)))
      go_wp2_with fail
      go_roundg (l.length - (i + 1))
      case measure => omega
      case rel => exact ⟨i + 1, by omega, by go_num, HD.out⟩
    · obtain rfl : i = l.length := by omega
      have hi1 : (l.length : Int) ≤ (l.length : Int) := Int.le_refl _
      have HF := Lib.hid hf
      clear hf
      go_wp2_with fail
      go_ret
      exact ⟨rfl, HF.out⟩
set_option maxRecDepth 100000 in
set_option maxHeartbeats 1600000 in
theorem Eras_any (l : List EraL) (A B : Option Addr) (ca cb : Nat) (w : World) (h1 : Rd w 13 A l.length (l.flatMap eraL)) (h2 : Rd w 13 B l.length (l.flatMap eraL)) (hm : l.length ≤ 1000000) : Calls Tryz.prog 39 #[.slice A l.length ca, .slice B l.length cb] w (TrueR w) := by
  have H1 := Lib.hid h1
  have H2 := Lib.hid h2
  clear h1 h2
  go_enter Tryz.func39, Tryz.ntmps39
  go_wp2_with fail
  go_loopg [5] l.length (fun k v5 wr => ∃ i : Nat, i + k = l.length ∧ v5 = intV (i : Int) ∧ Fr w wr (fun _ => False))
  case atStart => exact ⟨0, by simp, rfl, Fr.refl _ _⟩
  case round =>
    obtain ⟨i, hik, rfl, hf⟩ := hrel
    by_cases hlt : i < l.length
    · have hi1 : (i : Int) < (l.length : Int) := by omega
      obtain ⟨b1, o1, rfl, c1⟩ := elem_at eraL_len (Rd.fr H1.out hf (fun _ _ _ _ h => h)) hlt
      obtain ⟨b2, o2, rfl, c2⟩ := elem_at eraL_len (Rd.fr H2.out hf (fun _ _ _ _ h => h)) hlt
      obtain ⟨x, hx⟩ : ∃ x, l[i] = x := ⟨_, rfl⟩
      rw [hx] at c1 c2
      have HF := Lib.hid hf
      have C1 := Lib.hid c1
      have C2 := Lib.hid c2
      clear c1 c2
      clear hx hf
      go_wp2_with fail
      refine wp_region_held_drew (S := fun w' => Fr wr w' (fun _ => False)) (by kernel_rfl) (Fr.drew wr _) (fun hHeld => ?_)
      refine wpAnyH_take (i := 0) (v := ?_) rfl (by kernel_rfl) (by kernel_rfl) (by kernel_rfl) (fun _ _ _ h => h) (Or.inl ⟨by rfl, ?_⟩) (by assumption) ?_
      rotate_left
      · intro w' hSw
        skip
        go_simp
        try with_reducible rfl
      try simp only [Act.put, List.setIfInBounds_toArray, List.set_cons_zero, List.set_cons_succ, List.getElem_toArray, List.getElem_cons_zero]
      refine wpAnyH_take (i := 1) (v := ?_) rfl (by kernel_rfl) (by kernel_rfl) (by kernel_rfl) (fun _ _ _ h => h) (Or.inl ⟨by rfl, ?_⟩) (by assumption) ?_
      rotate_left
      · intro w' hSw
        skip
        go_simp
        try with_reducible rfl
      try simp only [Act.put, List.setIfInBounds_toArray, List.set_cons_zero, List.set_cons_succ, List.getElem_toArray, List.getElem_cons_succ, List.getElem_cons_zero]
      refine wpAnyH_take (i := 2) (v := ?_) rfl (by kernel_rfl) (by kernel_rfl) (by kernel_rfl) (fun _ _ _ h => h) (Or.inl ⟨by rfl, ?_⟩) (by assumption) ?_
      rotate_left
      · intro w' hSw
        skip
        go_simp
        try with_reducible rfl
      try simp only [Act.put, List.setIfInBounds_toArray, List.set_cons_zero, List.set_cons_succ, List.getElem_toArray, List.getElem_cons_succ, List.getElem_cons_zero]
      refine wpAnyH_take (i := 3) (v := _) rfl (by kernel_rfl) (by kernel_rfl) (by kernel_rfl) (fun _ _ _ h => h) (yields_at 69 _ b1 (o1 + i * 13) (eraL x).toArray _ (by rfl) rfl (by rfl) (fun w' h => cells_far h C1.out (Nat.le_refl _) (fun h => h)) Tryz.underlying69 rfl (show _ = some 13 by kernel_rfl)) (by assumption) ?_
      try simp only [Act.put, List.setIfInBounds_toArray, List.set_cons_zero, List.set_cons_succ, List.getElem_toArray, List.getElem_cons_succ, List.getElem_cons_zero]
      refine wpAnyH_take (i := 4) (v := ?_) rfl (by kernel_rfl) (by kernel_rfl) (by kernel_rfl) (fun _ _ _ h => h) (Or.inl ⟨by rfl, ?_⟩) (by assumption) ?_
      rotate_left
      · intro w' hSw
        skip
        go_simp
        try with_reducible rfl
      try simp only [Act.put, List.setIfInBounds_toArray, List.set_cons_zero, List.set_cons_succ, List.getElem_toArray, List.getElem_cons_succ, List.getElem_cons_zero]
      refine wpAnyH_take (i := 5) (v := ?_) rfl (by kernel_rfl) (by kernel_rfl) (by kernel_rfl) (fun _ _ _ h => h) (Or.inl ⟨by rfl, ?_⟩) (by assumption) ?_
      rotate_left
      · intro w' hSw
        skip
        go_simp
        try with_reducible rfl
      try simp only [Act.put, List.setIfInBounds_toArray, List.set_cons_zero, List.set_cons_succ, List.getElem_toArray, List.getElem_cons_succ, List.getElem_cons_zero]
      refine wpAnyH_take (i := 6) (v := ?_) rfl (by kernel_rfl) (by kernel_rfl) (by kernel_rfl) (fun _ _ _ h => h) (Or.inl ⟨by rfl, ?_⟩) (by assumption) ?_
      rotate_left
      · intro w' hSw
        skip
        go_simp
        try with_reducible rfl
      try simp only [Act.put, List.setIfInBounds_toArray, List.set_cons_zero, List.set_cons_succ, List.getElem_toArray, List.getElem_cons_succ, List.getElem_cons_zero]
      refine wpAnyH_take (i := 7) (v := _) rfl (by kernel_rfl) (by kernel_rfl) (by kernel_rfl) (fun _ _ _ h => h) (yields_at 69 _ b2 (o2 + i * 13) (eraL x).toArray _ (by rfl) rfl (by rfl) (fun w' h => cells_far h C2.out (Nat.le_refl _) (fun h => h)) Tryz.underlying69 rfl (show _ = some 13 by kernel_rfl)) (by assumption) ?_
      try simp only [Act.put, List.setIfInBounds_toArray, List.set_cons_zero, List.set_cons_succ, List.getElem_toArray, List.getElem_cons_succ, List.getElem_cons_zero]
      refine wpAnyH_take (i := 8) (v := _) rfl (by kernel_rfl) (by kernel_rfl) (by kernel_rfl) (fun _ _ _ h => h) (yields_neq (by rfl) rfl (by rfl) (by rfl) (guard_era _ _ _ _) (show ∀ w, (binOp .neq 69 (.agg (eraL x).toArray) (.agg (eraL x).toArray)).run Tryz.prog w = .ok (.bool false) w from same_era x)) (by assumption) ?_
      try simp only [Act.put, List.setIfInBounds_toArray, List.set_cons_zero, List.set_cons_succ, List.getElem_toArray, List.getElem_cons_succ, List.getElem_cons_zero]
      refine wpAnyH_done (by kernel_rfl) ?_ _
      clear hHeld
      have HD := Lib.hid (ff0 HF.out (Fr.drew wr (fun _ => False)))
      go_wp2_with fail
      go_roundg (l.length - (i + 1))
      case measure => omega
      case rel => exact ⟨i + 1, by omega, by go_num, HD.out⟩
    · obtain rfl : i = l.length := by omega
      have hi1 : (l.length : Int) ≤ (l.length : Int) := Int.le_refl _
      have HF := Lib.hid hf
      clear hf
      go_wp2_with fail
      go_ret
      exact ⟨rfl, HF.out⟩
set_option maxRecDepth 100000 in
set_option maxHeartbeats 1600000 in
theorem Ints_any (l : List Int) (A B : Option Addr) (ca cb : Nat) (w : World) (h1 : Rd w 1 A l.length (l.flatMap intL)) (h2 : Rd w 1 B l.length (l.flatMap intL)) (hm : l.length ≤ 1000000) : Calls Tryz.prog 40 #[.slice A l.length ca, .slice B l.length cb] w (TrueR w) := by
  have H1 := Lib.hid h1
  have H2 := Lib.hid h2
  clear h1 h2
  go_enter Tryz.func40, Tryz.ntmps40
  go_wp2_with fail
  go_loopg [5] l.length (fun k v5 wr => ∃ i : Nat, i + k = l.length ∧ v5 = intV (i : Int) ∧ Fr w wr (fun _ => False))
  case atStart => exact ⟨0, by simp, rfl, Fr.refl _ _⟩
  case round =>
    obtain ⟨i, hik, rfl, hf⟩ := hrel
    by_cases hlt : i < l.length
    · have hi1 : (i : Int) < (l.length : Int) := by omega
      obtain ⟨b1, o1, rfl, c1⟩ := int_at (Rd.fr H1.out hf (fun _ _ _ _ h => h)) hlt
      obtain ⟨b2, o2, rfl, c2⟩ := int_at (Rd.fr H2.out hf (fun _ _ _ _ h => h)) hlt
      obtain ⟨x, hx⟩ : ∃ x, l[i] = x := ⟨_, rfl⟩
      rw [hx] at c1 c2
      have HF := Lib.hid hf
      clear hx hf
      go_wp2_with fail
      refine wp_region_held_drew (S := fun w' => Fr wr w' (fun _ => False)) (by kernel_rfl) (Fr.drew wr _) (fun hHeld => ?_)
      refine wpAnyH_take (i := 0) (v := ?_) rfl (by kernel_rfl) (by kernel_rfl) (by kernel_rfl) (fun _ _ _ h => h) (Or.inl ⟨by rfl, ?_⟩) (by assumption) ?_
      rotate_left
      · intro w' hSw
        skip
        go_simp
        try with_reducible rfl
      try simp only [Act.put, List.setIfInBounds_toArray, List.set_cons_zero, List.set_cons_succ, List.getElem_toArray, List.getElem_cons_zero]
      refine wpAnyH_take (i := 1) (v := ?_) rfl (by kernel_rfl) (by kernel_rfl) (by kernel_rfl) (fun _ _ _ h => h) (Or.inl ⟨by rfl, ?_⟩) (by assumption) ?_
      rotate_left
      · intro w' hSw
        skip
        go_simp
        try with_reducible rfl
      try simp only [Act.put, List.setIfInBounds_toArray, List.set_cons_zero, List.set_cons_succ, List.getElem_toArray, List.getElem_cons_succ, List.getElem_cons_zero]
      refine wpAnyH_take (i := 2) (v := ?_) rfl (by kernel_rfl) (by kernel_rfl) (by kernel_rfl) (fun _ _ _ h => h) (Or.inl ⟨by rfl, ?_⟩) (by assumption) ?_
      rotate_left
      · intro w' hSw
        skip
        go_simp
        try with_reducible rfl
      try simp only [Act.put, List.setIfInBounds_toArray, List.set_cons_zero, List.set_cons_succ, List.getElem_toArray, List.getElem_cons_succ, List.getElem_cons_zero]
      refine wpAnyH_take (i := 3) (v := ?_) rfl (by kernel_rfl) (by kernel_rfl) (by kernel_rfl) (fun _ _ _ h => h) (Or.inl ⟨by rfl, ?_⟩) (by assumption) ?_
      rotate_left
      · intro w' hSw
        have k1 := cell_far hSw c1 (fun h => h)
        go_simp
        try with_reducible rfl
      try simp only [Act.put, List.setIfInBounds_toArray, List.set_cons_zero, List.set_cons_succ, List.getElem_toArray, List.getElem_cons_succ, List.getElem_cons_zero]
      refine wpAnyH_take (i := 4) (v := ?_) rfl (by kernel_rfl) (by kernel_rfl) (by kernel_rfl) (fun _ _ _ h => h) (Or.inl ⟨by rfl, ?_⟩) (by assumption) ?_
      rotate_left
      · intro w' hSw
        skip
        go_simp
        try with_reducible rfl
      try simp only [Act.put, List.setIfInBounds_toArray, List.set_cons_zero, List.set_cons_succ, List.getElem_toArray, List.getElem_cons_succ, List.getElem_cons_zero]
      refine wpAnyH_take (i := 5) (v := ?_) rfl (by kernel_rfl) (by kernel_rfl) (by kernel_rfl) (fun _ _ _ h => h) (Or.inl ⟨by rfl, ?_⟩) (by assumption) ?_
      rotate_left
      · intro w' hSw
        skip
        go_simp
        try with_reducible rfl
      try simp only [Act.put, List.setIfInBounds_toArray, List.set_cons_zero, List.set_cons_succ, List.getElem_toArray, List.getElem_cons_succ, List.getElem_cons_zero]
      refine wpAnyH_take (i := 6) (v := ?_) rfl (by kernel_rfl) (by kernel_rfl) (by kernel_rfl) (fun _ _ _ h => h) (Or.inl ⟨by rfl, ?_⟩) (by assumption) ?_
      rotate_left
      · intro w' hSw
        skip
        go_simp
        try with_reducible rfl
      try simp only [Act.put, List.setIfInBounds_toArray, List.set_cons_zero, List.set_cons_succ, List.getElem_toArray, List.getElem_cons_succ, List.getElem_cons_zero]
      refine wpAnyH_take (i := 7) (v := ?_) rfl (by kernel_rfl) (by kernel_rfl) (by kernel_rfl) (fun _ _ _ h => h) (Or.inl ⟨by rfl, ?_⟩) (by assumption) ?_
      rotate_left
      · intro w' hSw
        have k2 := cell_far hSw c2 (fun h => h)
        go_simp
        try with_reducible rfl
      try simp only [Act.put, List.setIfInBounds_toArray, List.set_cons_zero, List.set_cons_succ, List.getElem_toArray, List.getElem_cons_succ, List.getElem_cons_zero]
      refine wpAnyH_take (i := 8) (v := ?_) rfl (by kernel_rfl) (by kernel_rfl) (by kernel_rfl) (fun _ _ _ h => h) (Or.inl ⟨by rfl, ?_⟩) (by assumption) ?_
      rotate_left
      · intro w' hSw
        skip
        go_simp
        try with_reducible rfl
      try simp only [Act.put, List.setIfInBounds_toArray, List.set_cons_zero, List.set_cons_succ, List.getElem_toArray, List.getElem_cons_succ, List.getElem_cons_zero]
      refine wpAnyH_done (by kernel_rfl) ?_ _
      clear hHeld
      have HD := Lib.hid (ff0 HF.out (Fr.drew wr (fun _ => False)))
      go_wp2_with fail
      go_roundg (l.length - (i + 1))
      case measure => omega
      case rel => exact ⟨i + 1, by omega, by go_num, HD.out⟩
    · obtain rfl : i = l.length := by omega
      have hi1 : (l.length : Int) ≤ (l.length : Int) := Int.le_refl _
      have HF := Lib.hid hf
      clear hf
      go_wp2_with fail
      go_ret
      exact ⟨rfl, HF.out⟩
end Go.Proofs.YtodcnbejnchmhaaGreatDoor
namespace Go.Proofs.YtodcnbejnchmhaaGreatDoor
open Go.RowKit Go.Mem Go.Lin Go.Dcm

theorem rule_part (r : RuleL × Int) : ∀ j, j < (ruleC r.1).size → (ruleL r)[j]? = (ruleC r.1)[j]? := by
  intro j hj
  unfold ruleL
  rw [List.getElem?_append_left (by simpa using hj)]
  simp
theorem doc_d {tr tz tl : TypeId} {w : World} {B : Nat} {d : DocL} {vr vz vl : Value} {Ad : Option Addr} {n cd : Nat} (h : DocAt tr tz tl w B vr vz vl (.slice Ad n cd) d) : Rd w 4 Ad d.diags.length (d.diags.flatMap diagL) := by
  obtain ⟨A, c, e, -, -, hr⟩ := h.g.rd
  injection e with e
  subst e
  exact hr
theorem doc_r {tr tz tl : TypeId} {w : World} {B : Nat} {d : DocL} {vd vz vl : Value} {Ad : Option Addr} {n cd : Nat} (h : DocAt tr tz tl w B (.slice Ad n cd) vz vl vd d) : Rd w 12 Ad d.rules.length (d.rules.flatMap ruleL) := by
  obtain ⟨A, c, e, -, -, hr⟩ := h.r.rd
  injection e with e
  subst e
  exact hr
/-- what is known once both texts are parsed -/
structure J2 (w W : World) (p q : Nat) (da db : DocL) (ar az al ad br bz bl bd : Value) : Prop where
  a : DVar 100 101 102 57 W p da ar az al ad
  b : DVar 100 101 102 57 W q db br bz bl bd
  f : Fr w W (fun _ => False)
theorem J2.kept {w W W' : World} {p q : Nat} {da db : DocL} {ar az al ad br bz bl bd : Value} (h : J2 w W p q da db ar az al ad br bz bl bd) (hf : Fr W W' (fun _ => False)) : J2 w W' p q da db ar az al ad br bz bl bd := ⟨h.a.kept hf, h.b.kept hf, ff0 h.f hf⟩
end Go.Proofs.YtodcnbejnchmhaaGreatDoor
