import Derived.Test.YtlfjknndkjgciaaGreatDoorYe28
namespace Go.Proofs.YtlfjknndkjgciaaGreatDoor
open Go.RowKit Go.Mem Go.Lin Go.Dcm
/-- one cell of a row is turned: its block is known behind it -/
theorem own_cell {X : Type} {w W : World} {B : Nat} {e : TypeId} {k : Nat} {f : X → List Value} {b n c J : Nat} {l l' : List X} {C : Array Value} {v : Value} (h : Own w B e k f (.slice (some ⟨b, 0, none⟩) n c) l) (hn : n = l.length) (hb : Blk w b e C) (hW : Blk W b e (C.setIfInBounds J v)) (_hJ : J < (l.flatMap f).length) (he : (l.flatMap f).set J v = l'.flatMap f) (hl : l'.length = l.length) :
    Own W B e k f (.slice (some ⟨b, 0, none⟩) n c) l' := by
  subst hn
  refine ⟨by rw [← he, List.length_set, hl]; exact h.1, ?_⟩
  rcases h.2 with ⟨h', _⟩ | ⟨g', cap', cur, h', hbb, hg, hnc, hcm, hcs, ht⟩
  · simp at h'
  · injection h' with h1 h2 h3
    injection h1 with h1
    injection h1 with h1
    subst h1 h3
    have hg : Blk w b e cur := hg
    have hC : cur = C := by
      unfold Blk at hg hb
      rw [hg] at hb
      injection hb with hb
      injection hb with hb
    subst hC
    refine .inr ⟨b, c, _, by rw [hl], hbb, hW, by rw [hl]; exact hnc, hcm, by simpa using hcs, ?_⟩
    rw [hl, ← he, ← ht, Array.toList_setIfInBounds, List.take_set]
/-- a row of structs, one of them turned in one cell -/
theorem flat_put {X : Type} (f : X → List Value) (k : Nat) (hf : ∀ x, (f x).length = k) (a : List X) (x y : X) (b : List X) (j : Nat) (v : Value) (hj : j < k) (hy : (f x).set j v = f y) : ((a ++ x :: b).flatMap f).set (a.length * k + j) v = (a ++ y :: b).flatMap f := by
  have ha := flat_len f k hf a
  simp only [List.flatMap_append, List.flatMap_cons]
  rw [List.set_append_right _ _ (by rw [ha]; omega), ha, Nat.add_sub_cancel_left, List.set_append_left _ _ (by rw [hf]; exact hj), hy]
section
variable {P : Program} {ops : Array Oper} {Q : Exit → Act → World → Prop} {md : Region.Mode} {S : World → Prop}
/-- append(append(append([]T{}, x...), y), z...) in a region that draws its order: what is left of it once all that only reads is taken -/
theorem wpAnyH_app3 {X : Type} {f : X → List Value} {l1 l2 : List X} {fuel : Nat} {listed : Array Bool} {a : Act} {w : World} (i k j m n : Nat) (oi ok oj om on : Oper)
    (hi : ops[i]? = some oi) (hk : ops[k]? = some ok) (hj : ops[j]? = some oj) (hm : ops[m]? = some om) (hn : ops[n]? = some on)
    (hr0 : Region.ready md ops listed = [i, j]) (hri : Region.ready md ops (listed.setIfInBounds i true) = [k, j]) (hrj : Region.ready md ops (listed.setIfInBounds j true) = [i])
    (hrik : Region.ready md ops ((listed.setIfInBounds i true).setIfInBounds k true) = [j]) (hrij : Region.ready md ops ((listed.setIfInBounds i true).setIfInBounds j true) = [k])
    (hr3 : Region.ready md ops (((listed.setIfInBounds i true).setIfInBounds k true).setIfInBounds j true) = [m]) (hr4 : Region.ready md ops ((((listed.setIfInBounds i true).setIfInBounds k true).setIfInBounds j true).setIfInBounds m true) = [n])
    (hij : i ≠ j) (hkj : k ≠ j) (gi : oi.guard = none) (gk : ok.guard = none) (gj : oj.guard = none) (gm : om.guard = none) (gn : on.guard = none)
    {ts e : TypeId} {yj sk xk sm xm sn xn : Operand} {di dk dj : Nat}
    (hoi : oi.op = .buildSlice ts 0 #[]) (hdi : oi.dst = some di) (hdk : ok.dst = some dk) (hoj : oj.op = .buildSlice ts 1 #[(0, yj)]) (hdj : oj.dst = some dj) (hd1 : di ≠ dj) (hd2 : dk ≠ dj)
    (hok : ok.op = .call { callee := .builtin .append, args := #[sk, xk], argTypes := #[ts, ts] }) (hom : om.op = .call { callee := .builtin .append, args := #[sm, xm], argTypes := #[ts, ts] }) (hon : on.op = .call { callee := .builtin .append, args := #[sn, xn], argTypes := #[ts, ts] })
    (cs : Array Value) (v : Value) (x : X) (A1 A2 : Option Addr) (c1 c2 : Nat)
    (hyj : ∀ u1 u2, (a.put (some di) u1).eval yj = v ∧ ((a.put (some di) u1).put (some dk) u2).eval yj = v) (hyj0 : a.eval yj = v)
    (hrun0 : ∀ w, (Instr.buildSlice ts 0 #[]).run P w = .ok (.slice (some ⟨w.heap.size, 0, none⟩) 0 0) (w.alloc (.cells #[] e))) (hrun : ∀ w, (Instr.buildSlice ts 1 #[(0, v)]).run P w = .ok (.slice (some ⟨w.heap.size, 0, none⟩) 1 1) (w.alloc (.cells cs e)))
    (hcs : cs.toList = f x) (h1 : cs.all (·.oneCell') = true)
    (hsk : ∀ u1 u3, (a.put (some di) u1).eval sk = u1 ∧ ((a.put (some di) u1).put (some dj) u3).eval sk = u1) (hxk : ∀ u1 u3, (a.put (some di) u1).eval xk = .slice A1 l1.length c1 ∧ ((a.put (some di) u1).put (some dj) u3).eval xk = .slice A1 l1.length c1)
    (hsm : ∀ u1 u2 u3, (((a.put (some di) u1).put (some dk) u2).put (some dj) u3).eval sm = u2) (hxm : ∀ u1 u2 u3, (((a.put (some di) u1).put (some dk) u2).put (some dj) u3).eval xm = u3)
    (hsn : ∀ u1 u2 u3 u4, ((((a.put (some di) u1).put (some dk) u2).put (some dj) u3).put om.dst u4).eval sn = u4) (hxn : ∀ u1 u2 u3 u4, ((((a.put (some di) u1).put (some dk) u2).put (some dj) u3).put om.dst u4).eval xn = .slice A2 l2.length c2)
    (z : Value) (size bytes : Nat) (ht : P.underlying ts = some (.slice e)) (hinf : (P.info? e).map (fun i => (i.zero, i.size, i.bytes)) = some (some z, size, bytes))
    (hzs : z.cells.size = size) (hsz : 0 < size) (hcz : cs.size = size) (hf1 : ∀ x, ∀ u ∈ f x, u.oneCell' = true) (hR1 : Rd w size A1 l1.length (l1.flatMap f)) (hR2 : Rd w size A2 l2.length (l2.flatMap f)) (h63 : l1.length + l2.length ≤ 100000) (hby : bytes ≤ 1000)
    (hS : ∀ W, Fr w W (fun _ => False) → S W)
    (h : ∀ u1 u2 u3 u4 A9 c9 W, S W → Own W w.heap.size e size f (.slice A9 (l1.length + 1 + l2.length) c9) (l1 ++ [x] ++ l2) → Fr w W (fun _ => False) →
      wpAnyH P md ops Q S fuel (((((listed.setIfInBounds i true).setIfInBounds k true).setIfInBounds j true).setIfInBounds m true).setIfInBounds n true) (((((a.put (some di) u1).put (some dk) u2).put (some dj) u3).put om.dst u4).put on.dst (.slice A9 (l1.length + 1 + l2.length) c9)) W) :
    wpAnyH P md ops Q S (fuel + 5) listed a w := by
  have hw : ∀ (o : Oper) (y : Nat → Option Bool) (hg : o.guard = none), Region.wanted o y = true := fun o y hg => by simp only [Region.wanted, hg]
  obtain ⟨i0, hi0, hz0, hz1, hz2⟩ := info_parts hinf
  have by1 : ∀ m, m ≤ 100001 → m * bytes ≤ 140737488355328 := fun m hm => by
    have : m * bytes ≤ 100001 * 1000 := Nat.mul_le_mul hm hby
    omega
  have f1 : ∀ (l : List X), ∀ u ∈ l.flatMap f, u.oneCell' = true := fun l u hu => by
    obtain ⟨y, -, hy⟩ := List.mem_flatMap.1 hu
    exact hf1 y u hy
  -- behind all three
  have mid : ∀ u1 A c g W, Own W w.heap.size e size f (.slice A l1.length c) l1 → Blk W g e cs → Fr w W (fun _ => False) →
      wpAnyH P md ops Q S (fuel + 2) (((listed.setIfInBounds i true).setIfInBounds k true).setIfInBounds j true) (((a.put (some di) u1).put (some dk) (.slice A l1.length c)).put (some dj) (.slice (some ⟨g, 0, none⟩) 1 1)) W := by
    intro u1 A c g W hown hg hf
    refine wpAnyH_ready hr3 (by simp) (AllReadyH.cons hm (fun K hK => ?_) AllReadyH.nil)
    rw [if_pos (hw _ _ gm)]
    have hrd : Rd W size (some ⟨g, 0, none⟩) 1 cs.toList := by
      refine ⟨by rw [Array.length_toList, hcz]; omega, fun _ => ⟨g, 0, rfl, fun q u hu => ?_⟩⟩
      rw [Nat.zero_add, cell_at hg q]
      simpa using hu
    refine wp_append_rd _ sm xm ts hom w.heap.size e i0 z size bytes ht hi0 hz0 hz1 hz2 hzs hsz _ _ _ (hsm _ _ _) hown _ 1 1 cs.toList (hxm _ _ _) hrd (one_made h1) (by simp only [maxLen]; omega) (by1 _ (by omega)) hf.size ?_
    intro v9 w9 hown9 hg9 _
    obtain ⟨A9, c9, rfl⟩ := Go.Mem.own_slice hown9
    have hown9 := own_more (x := x) hown9 hcs
    have hf9 : Fr w w9 (fun _ => False) := hf.fresh (tb_own hown (Fr.ofGrown hg9)) (fun i h => h.1)
    refine hK.out _ _ (hS _ hf9) (fun _ => ?_)
    refine wpAnyH_ready hr4 (by simp) (AllReadyH.cons hn (fun K2 hK2 => ?_) AllReadyH.nil)
    rw [if_pos (hw _ _ gn)]
    have hown9' : w9.ownsRow w.heap.size e size (.slice A9 (l1.length + 1) c9) (l1.length + 1) ((l1 ++ [x]).flatMap f) := by
      have h := hown9
      unfold Own at h
      rw [List.length_append] at h
      exact h
    refine wp_append_rd _ sn xn ts hon w.heap.size e i0 z size bytes ht hi0 hz0 hz1 hz2 hzs hsz _ _ _ (hsn _ _ _ _) hown9' A2 l2.length c2 (l2.flatMap f) (hxn _ _ _ _) (Rd.fr hR2 hf9 (fun _ _ _ _ h => h)) (f1 l2) (by simp only [maxLen]; omega) (by1 _ (by omega)) hf9.size ?_
    intro v8 w8 hown8 hg8 _
    obtain ⟨A8, c8, rfl⟩ := Go.Mem.own_slice hown8
    have hf8 : Fr w w8 (fun _ => False) := hf9.fresh (tb_own hown9 (by rw [show (Value.slice A9 (l1.length + 1) c9).ownBlock = (Value.slice A9 (l1.length + 1) c9).ownBlock from rfl]; exact Fr.ofGrown hg8)) (fun i h => h.1)
    refine hK2.out _ _ (hS _ hf8) (fun hs => h u1 _ _ _ A8 c8 w8 hs ?_ hf8)
    unfold Own
    rw [show (l1 ++ [x] ++ l2).length = l1.length + 1 + l2.length by simp; omega, show (l1 ++ [x] ++ l2).flatMap f = (l1 ++ [x]).flatMap f ++ l2.flatMap f by simp]
    exact hown8
  -- append onto the empty slice
  have appk : ∀ (W : World) (a1 : Act) (g : Nat) (K : Act → World → Prop), Fr w W (fun _ => False) → w.heap.size ≤ g → Blk W g e #[] → a1.eval sk = .slice (some ⟨g, 0, none⟩) 0 0 → a1.eval xk = .slice A1 l1.length c1 →
      (∀ A c W2, Own W2 w.heap.size e size f (.slice A l1.length c) l1 → Fr W W2 (TB w.heap.size e W) → (∀ p C, Blk W p e C → p ≠ g → Blk W2 p e C) → Fr w W2 (fun _ => False) → K (a1.put ok.dst (.slice A l1.length c)) W2) → ok.wp P a1 W K Q := by
    intro W a1 g K hf hg hb hs hx hK
    have hown : Own W w.heap.size e size f (.slice (some ⟨g, 0, none⟩) 0 0) ([] : List X) := ⟨by simp, .inr ⟨g, 0, #[], rfl, hg, hb, Nat.le_refl _, Nat.zero_le _, by simp, by simp⟩⟩
    refine wp_append_rd _ sk xk ts hok w.heap.size e i0 z size bytes ht hi0 hz0 hz1 hz2 hzs hsz _ 0 [] hs hown A1 l1.length c1 (l1.flatMap f) hx (Rd.fr hR1 hf (fun _ _ _ _ h => h)) (f1 l1) (by simp only [maxLen]; omega) (by1 _ (by omega)) hf.size ?_
    intro v9 w9 hown9 hg9 _
    rw [Nat.zero_add] at hown9
    obtain ⟨A9, c9, rfl⟩ := Go.Mem.own_slice hown9
    have ht9 := tb_own hown (Fr.ofGrown hg9)
    exact hK A9 c9 w9 hown9 ht9 (fun p C hp hne => (Fr.ofGrown hg9).blk hp (fun e => hne (by simpa [Value.ownBlock] using e))) (hf.fresh ht9 (fun i h => h.1))
  have n1 := Fr.new w (.cells #[] e) (fun _ => False)
  have n2 := Fr.new w (.cells cs e) (fun _ => False)
  have s1 : (w.alloc (.cells #[] e)).heap.size = w.heap.size + 1 := by simp
  have s2 : (w.alloc (.cells cs e)).heap.size = w.heap.size + 1 := by simp
  refine wpAnyH_ready hr0 (by simp) (AllReadyH.cons hi (fun K hK => ?_) (AllReadyH.cons hj (fun K hK => ?_) AllReadyH.nil))
  · rw [if_pos (hw _ _ gi)]
    unfold Oper.wp execOp
    simp only [hoi, Sem.run_bind, List.map_toArray, List.map_nil, hrun0, Result.andThen_ok, Sem.run_pure]
    show K (a.put oi.dst _) _
    rw [hdi]
    refine hK.out _ _ (hS _ n1) (fun _ => ?_)
    refine wpAnyH_ready hri (by simp) (AllReadyH.cons hk (fun K2 hK2 => ?_) (AllReadyH.cons hj (fun K2 hK2 => ?_) AllReadyH.nil))
    · rw [if_pos (hw _ _ gk)]
      refine appk _ _ w.heap.size K2 n1 (Nat.le_refl _) (Blk.made w e #[]) (hsk _ (.bool true)).1 (hxk _ (.bool true)).1 ?_
      intro A c W2 ho hf2 _ hfw
      rw [hdk]
      refine hK2.out _ _ (hS _ hfw) (fun _ => ?_)
      refine wpAnyH_ready hrik (by simp) (AllReadyH.cons hj (fun K3 hK3 => ?_) AllReadyH.nil)
      rw [if_pos (hw _ _ gj)]
      have n3 := Fr.new W2 (.cells cs e) (fun _ => False)
      refine wp_built hoj (hyj _ _).2 hrun (hK3.out _ _ (hS _ (ff0 hfw n3)) (fun _ => ?_))
      rw [hdj]
      exact mid _ A c _ _ (ho.kept n3) (Blk.made W2 e cs) (ff0 hfw n3)
    · rw [if_pos (hw _ _ gj)]
      have n3 := Fr.new (w.alloc (.cells #[] e)) (.cells cs e) (fun _ => False)
      refine wp_built hoj (hyj _ (.bool true)).1 hrun (hK2.out _ _ (hS _ (ff0 n1 n3)) (fun _ => ?_))
      rw [hdj]
      refine wpAnyH_ready hrij (by simp) (AllReadyH.cons hk (fun K3 hK3 => ?_) AllReadyH.nil)
      rw [if_pos (hw _ _ gk)]
      refine appk _ _ w.heap.size K3 (ff0 n1 n3) (Nat.le_refl _) (n3.blk (Blk.made w e #[]) (fun h => h)) (hsk _ _).2 (hxk _ _).2 ?_
      intro A c W2 ho hf2 hfar hfw
      rw [hdk]
      refine hK3.out _ _ (hS _ hfw) (fun _ => ?_)
      have hb2 := hfar _ _ (Blk.made (w.alloc (.cells #[] e)) e cs) (by rw [s1]; omega)
      rw [← Act.put_comm _ _ _ (by intro d hd e; injection hd with hd; injection e with e; omega), Array.setIfInBounds_comm _ _ hkj.symm]
      exact mid _ A c _ _ ho hb2 hfw
  · rw [if_pos (hw _ _ gj)]
    refine wp_built hoj hyj0 hrun (hK.out _ _ (hS _ n2) (fun _ => ?_))
    rw [hdj]
    refine wpAnyH_ready hrj (by simp) (AllReadyH.cons hi (fun K2 hK2 => ?_) AllReadyH.nil)
    rw [if_pos (hw _ _ gi)]
    have n3 := Fr.new (w.alloc (.cells cs e)) (.cells #[] e) (fun _ => False)
    unfold Oper.wp execOp
    simp only [hoi, Sem.run_bind, List.map_toArray, List.map_nil, hrun0, Result.andThen_ok, Sem.run_pure]
    show K2 (Act.put _ oi.dst _) _
    rw [hdi]
    refine hK2.out _ _ (hS _ (ff0 n2 n3)) (fun _ => ?_)
    rw [← Act.put_comm _ _ _ (by intro d hd e; injection hd with hd; injection e with e; omega), Array.setIfInBounds_comm _ _ hij.symm]
    refine wpAnyH_ready hrij (by simp) (AllReadyH.cons hk (fun K3 hK3 => ?_) AllReadyH.nil)
    rw [if_pos (hw _ _ gk)]
    refine appk _ _ (w.alloc (.cells cs e)).heap.size K3 (ff0 n2 n3) (by rw [s2]; omega) (Blk.made (w.alloc (.cells cs e)) e #[]) (hsk _ _).2 (hxk _ _).2 ?_
    intro A c W2 ho hf2 hfar hfw
    rw [hdk]
    refine hK3.out _ _ (hS _ hfw) (fun _ => ?_)
    have hb2 := hfar _ _ (n3.blk (Blk.made w e cs) (fun h => h)) (by rw [s2]; omega)
    rw [← Act.put_comm _ _ _ (by intro d hd e; injection hd with hd; injection e with e; omega), Array.setIfInBounds_comm _ _ hkj.symm]
    exact mid _ A c _ _ ho hb2 hfw
end
end Go.Proofs.YtlfjknndkjgciaaGreatDoor
namespace Go.Proofs.YtlfjknndkjgciaaGreatDoor
open Go.RowKit Go.Mem Go.Lin Go.Dcm
section
variable {P : Program} {ops : Array Oper} {Q : Exit → Act → World → Prop} {md : Region.Mode} {S : World → Prop}
/-- one cell is loaded: nothing else may come up -/
theorem wpAnyH_load {fuel : Nat} {listed : Array Bool} {a : Act} {w : World} (i : Nat) (oi : Oper) (hi : ops[i]? = some oi) (hr : Region.ready md ops listed = [i]) (gi : oi.guard = none) {ty : TypeId} {xi : Operand} (A : Addr) (v : Value) (d : TypeDesc) (ho : oi.op = .load ty xi) (hx : a.eval xi = .pointer (some A)) (hc : w.cell? A = some v)
    (hu : P.underlying ty = some d) (hd : d.isRow = false) (hS : S w) (h : wpAnyH P md ops Q S fuel (listed.setIfInBounds i true) (a.put oi.dst v) w) : wpAnyH P md ops Q S (fuel + 1) listed a w := by
  refine wpAnyH_ready hr (by simp) (AllReadyH.cons hi (fun K hK => ?_) AllReadyH.nil)
  have hw : Region.wanted oi (yielded ops a.tmps) = true := by simp only [Region.wanted, gi]
  rw [if_pos hw]
  exact wp_load1 ho hx hc hu hd (hK.out _ _ hS (fun _ => h))
end
theorem moved_any (i p : Int) (hi : -1000000 ≤ i) (hi2 : i ≤ 1000000) (W : World) : Calls Tryz.prog 20 #[intV i, intV p] W fun e w' => e = .returned (intV (moved p i)) ∧ w' = W := by
  unfold moved
  by_cases h : p ≤ i
  · rw [if_pos h]
    go_enter Tryz.func20, Tryz.ntmps20
    go_wp2_with fail
    go_ret
    exact ⟨rfl, rfl⟩
  · rw [if_neg h]
    have h : i < p := by omega
    go_enter Tryz.func20, Tryz.ntmps20
    go_wp2_with fail
    go_ret
    exact ⟨rfl, rfl⟩
/-- all lines that a document names are small -/
theorem line_range (l : List LineL) : (∀ r ∈ (ofD l).rules, 0 ≤ r.2 ∧ r.2 < l.length) ∧ (∀ x ∈ (ofD l).links, 0 ≤ x.line ∧ x.line < l.length) ∧ (∀ g ∈ (ofD l).diags, 0 ≤ g.line ∧ g.line < l.length) ∧ ∀ z ∈ (ofD l).zones, ∀ n ∈ z.lines, 0 ≤ n ∧ n < l.length := by
  have key : ∀ (ps : List (Int × LineL)) (s : StL) (N : Int), (∀ p ∈ ps, 0 ≤ p.1 ∧ p.1 < N) →
      ((∀ r ∈ s.rules, 0 ≤ r.2 ∧ r.2 < N) ∧ (∀ x ∈ s.links, 0 ≤ x.line ∧ x.line < N) ∧ (∀ g ∈ s.diags, 0 ≤ g.line ∧ g.line < N) ∧ ∀ z ∈ s.zones, ∀ n ∈ z.lines, 0 ≤ n ∧ n < N) →
      ((∀ r ∈ (runD s ps).rules, 0 ≤ r.2 ∧ r.2 < N) ∧ (∀ x ∈ (runD s ps).links, 0 ≤ x.line ∧ x.line < N) ∧ (∀ g ∈ (runD s ps).diags, 0 ≤ g.line ∧ g.line < N) ∧ ∀ z ∈ (runD s ps).zones, ∀ n ∈ z.lines, 0 ≤ n ∧ n < N) := by
    intro ps
    induction ps with
    | nil => intro s N _ h; exact h
    | cons p ps ih =>
      intro s N hp h
      refine ih (stepD s p) N (fun q hq => hp q (List.mem_cons_of_mem _ hq)) ?_
      have h0 := hp p List.mem_cons_self
      obtain ⟨h1, h2, h3, h4⟩ := h
      have ht : ∀ c k, ∀ g ∈ (tell s p.1 c k).diags, 0 ≤ g.line ∧ g.line < N := by
        intro c k g hg
        rcases List.mem_append.1 hg with hg | hg
        · exact h3 g hg
        · have hg : g = ⟨p.1, c, k⟩ := by simpa using hg
          rw [hg]; exact h0
      have hb : (brk s p.1).rules = s.rules ∧ (brk s p.1).links = s.links ∧ (brk s p.1).zones = s.zones ∧ ∀ g ∈ (brk s p.1).diags, 0 ≤ g.line ∧ g.line < N := by
        unfold brk
        split
        · exact ⟨rfl, rfl, rfl, ht 0 21⟩
        · exact ⟨rfl, rfl, rfl, h3⟩
      obtain ⟨b1, b2, b3, b4⟩ := hb
      unfold stepD
      split
      · refine ⟨fun r hr => ?_, by show ∀ x ∈ (brk s p.1).links, _; rw [b2]; exact h2, b4, by show ∀ z ∈ (brk s p.1).zones, _; rw [b3]; exact h4⟩
        rcases List.mem_append.1 (show r ∈ s.rules ++ [(p.2.rule, p.1)] from hr) with hr | hr
        · exact h1 r hr
        · have hr : r = (p.2.rule, p.1) := by simpa using hr
          rw [hr]; exact h0
      split
      · refine ⟨by show ∀ r ∈ (brk s p.1).rules, _; rw [b1]; exact h1, by show ∀ x ∈ (brk s p.1).links, _; rw [b2]; exact h2, b4, fun z hz => ?_⟩
        rcases mem_zones.1 hz with hz | hz
        · exact h4 z hz
        · have hz : _ = z := Option.some.inj hz
          subst hz
          intro n hn
          have hn : n = p.1 := by simpa using hn
          rw [hn]; exact h0
      split
      · unfold moreD
        split
        · rename_i z ho hc
          split
          · exact ⟨h1, h2, ht 0 17, h4⟩
          · refine ⟨h1, h2, h3, fun y hy => ?_⟩
            rcases mem_zones.1 hy with hy | hy
            · exact h4 y (mem_zones.2 (.inl hy))
            · have hy : _ = y := Option.some.inj hy
              subst hy
              intro n hn
              rcases List.mem_append.1 hn with hn | hn
              · exact h4 z (mem_zones.2 (.inr hc)) n hn
              · have hn : n = p.1 := by simpa using hn
                rw [hn]; exact h0
        · exact ⟨h1, h2, ht 0 10, h4⟩
      split
      · refine ⟨by show ∀ r ∈ (brk s p.1).rules, _; rw [b1]; exact h1, fun x hx => ?_, b4, by show ∀ z ∈ (brk s p.1).zones, _; rw [b3]; exact h4⟩
        rcases List.mem_append.1 (show x ∈ s.links ++ [⟨p.2.target, p.2.name, p.1⟩] from hx) with hx | hx
        · exact h2 x hx
        · have hx : x = ⟨p.2.target, p.2.name, p.1⟩ := by simpa using hx
          rw [hx]; exact h0
      split
      · exact ⟨h1, h2, ht _ _, h4⟩
      · exact ⟨h1, h2, h3, h4⟩
  obtain ⟨k1, k2, k3, k4⟩ := key (num 0 l) stZ l.length (fun p hp => by have := num_range l 0 p hp; omega) ⟨fun r h => by simp [stZ] at h, fun r h => by simp [stZ] at h, fun r h => by simp [stZ] at h, fun z h => by simp [stZ, StL.zones] at h⟩
  have e : ofD l = (endS (ofS l)).doc := rfl
  rw [e]
  unfold endS
  split
  · rename_i z ho hc
    refine ⟨k1, k2, fun g hg => ?_, k4⟩
    rcases List.mem_append.1 hg with hg | hg
    · exact k3 g hg
    · have hg : g = ⟨lastOf z, 0, 21⟩ := by simpa using hg
      rw [hg]
      have hz := k4 z (mem_zones.2 (.inr hc))
      have hzk := (zn_of l).2 z (mem_zones.2 (.inr hc))
      have hne : z.lines ≠ [] := fun e => by have h1 := hzk.1; have h2 := hzk.2.1; rw [e] at h1; rw [h1] at h2; simp at h2
      have : lastOf z ∈ z.lines := by
        obtain ⟨a, b, e⟩ : ∃ a b, z.lines = a ++ [b] := ⟨_, _, (List.dropLast_concat_getLast hne).symm⟩
        unfold lastOf
        rw [e]
        simp [List.getLastD_eq_getLast?]
      exact hz _ this
  · exact ⟨k1, k2, k3, k4⟩
/-- what is left of a list, its begin turned -/
theorem upto_step {X Y : Type} (g : X → Y) (l : List X) (i : Nat) (h : i < l.length) : (l.take (i + 1)).map g = (l.take i).map g ++ [g l[i]] := by
  rw [List.take_succ_eq_append_getElem h, List.map_append]
  rfl
end Go.Proofs.YtlfjknndkjgciaaGreatDoor
