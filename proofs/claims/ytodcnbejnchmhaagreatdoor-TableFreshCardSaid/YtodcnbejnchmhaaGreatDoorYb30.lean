import Derived.Test.YtodcnbejnchmhaaGreatDoorYb29
import Derived.Test.YtodcnbejnchmhaaGreatDoorYb24
namespace Go.Mem
open Go.RowKit
section
variable {P : Program}
theorem at_copy {ops : Array Oper} {rest : List Oper} {a : Act} {w : World} {Q : Exit → Act → World → Prop} {d : Option Tmp} {t t' : TypeId} {ty : TypeId} {pos : String} {af : Array Edge} {g : Option (Nat × Bool)} (s x : Operand) (h : wpList P ops Q (⟨d, .call { callee := .builtin .copy, args := #[s, x], argTypes := #[t, t'] }, ty, pos, af, g⟩ :: rest) a w) : wpList P ops Q (⟨d, .call { callee := .builtin .copy, args := #[s, x], argTypes := #[t, t'] }, ty, pos, af, g⟩ :: rest) a w := h
theorem wp_copy_many {w : World} {o : Oper} {a : Act} {K : Act → World → Prop} {Q : Exit → Act → World → Prop} (d s : Operand) (dT sT : TypeId)
    (ho : o.op = .call { callee := .builtin .copy, args := #[d, s], argTypes := #[dT, sT] }) (elem : TypeId) (k n : Nat) (hu : P.underlying dT = some (.slice elem)) (hs : (P.info? elem).map (·.size) = some k)
    (dp sp : Option Addr) (dLen dCap sLen sCap : Nat) (hd : a.eval d = .slice dp dLen dCap) (hx : a.eval s = .slice sp sLen sCap) (g off : Nat) (cur : List Value) (t : TypeId) (hg : Blk w g t cur.toArray) (hn : n = Nat.min sLen dLen) (cs : List Value)
    (hpos : 0 < n → dp = some ⟨g, off, none⟩) (hr : Rd w k sp n cs) (hfit : off + cs.length ≤ cur.length) (h1 : ∀ v ∈ cs, v.oneCell' = true) (cur' : List Value) (hc : splice cur off cs = cur')
    (h : ∀ w', Fr w w' (· = g) → Blk w' g t cur'.toArray → K (a.put o.dst (goInt n)) w') : o.wp P a w K Q := by
  subst hc
  obtain ⟨w', hrun, hf, hb⟩ := copy_many (P := P) w dT sT o.type elem k n hu hs dp sp dLen dCap sLen sCap g off cur t hg hn cs hpos hr hfit h1
  unfold Oper.wp
  simp [execOp, ho, resolve, invoke, builtin, hd, hx, hrun, Result.andThen]
  exact h w' hf hb
end
end Go.Mem
namespace Go.Proofs.YtodcnbejnchmhaaGreatDoor
open Go.RowKit Go.Mem
section
variable {P : Program} {ops : Array Oper} {Q : Exit → Act → World → Prop} {md : Region.Mode} {S : World → Prop}
/-- the last store of a region that draws its order: one cell of the block D -/
theorem wpAnyH_put1 {fuel : Nat} {listed : Array Bool} {a : Act} {w : World} (m : Nat) (om : Oper) (hm : ops[m]? = some om) (hr4 : Region.ready md ops listed = [m]) (hr5 : Region.ready md ops (listed.setIfInBounds m true) = []) (gm : om.guard = none)
    {ts : TypeId} {xm ym : Operand} (hom : om.op = .store ts xm ym) (hdm : om.dst = none) (D J : Nat) (t : TypeId) (C : Array Value) (v : Value) (hb : Blk w D t C) (hJ : J < C.size) (hxm : a.eval xm = .pointer (some ⟨D, J, none⟩)) (hym : a.eval ym = v) (h1 : v.oneCell' = true)
    (hits : (P.info? ts).map (·.size) = some 1) (hS : ∀ W, Fr w W (fun i => i = D) → S W) (h : ∀ W, Fr w W (fun i => i = D) → Blk W D t (C.setIfInBounds J v) → Q .normal a W) : wpAnyH P md ops Q S (fuel + 1) listed a w := by
  have hw : ∀ (o : Oper) (y : Nat → Option Bool) (hg : o.guard = none), Region.wanted o y = true := fun o y hg => by simp only [Region.wanted, hg]
  refine wpAnyH_ready hr4 (by simp) (AllReadyH.cons hm (fun K2 hK2 => ?_) AllReadyH.nil)
  rw [if_pos (hw _ _ gm)]
  refine wp_store1 hom hdm hxm hym hb hits h1 hJ ?_
  have hs9 := Fr.set (w := w) (a := ⟨D, J, none⟩) (v := v) (S := fun i => i = D) rfl
  exact hK2.out _ _ (hS _ hs9) (fun _ => wpAnyH_done hr5 (h _ hs9 (hb.put' J _ rfl)) _)
end
open Go.Rope hiding Bs
open Go.RowKit Go.Mem Go.Lin Go.Dcm

/- three stretches, one behind the other, laid over a row of as many cells -/
theorem splice_first {Z A : List Value} : splice Z 0 A = A ++ Z.drop A.length := by simp [splice]
theorem splice_next {A Z B : List Value} {n : Nat} (hn : n = A.length) : splice (A ++ Z) n B = A ++ (B ++ Z.drop B.length) := by
  subst hn
  unfold splice
  rw [List.take_left, List.drop_append, List.drop_eq_nil_of_le (by omega), Nat.add_sub_cancel_left]
  simp
theorem flat_one (L : List LineL) : ∀ u ∈ L.flatMap lineL, u.oneCell' = true := by
  intro u hu
  obtain ⟨x, -, hx⟩ := List.mem_flatMap.1 hu
  exact one_made (lineC_one x) u hx
theorem infoL1 : (Tryz.prog.info? 71).map (·.size) = some 29 := by kernel_rfl
theorem put_lists (A M C : List LineL) (N i m : Nat) (hi : i = A.length) (hm : m = M.length) (hN : N = i + m + C.length) :
    splice (splice (splice ((List.replicate N lineZ).flatMap lineL) 0 (A.flatMap lineL)) (i * 29) (M.flatMap lineL)) ((i + m) * 29) (C.flatMap lineL) = (A ++ M ++ C).flatMap lineL := by
  have la := flat_len lineL 29 lineL_len A
  have lm := flat_len lineL 29 lineL_len M
  have lc := flat_len lineL 29 lineL_len C
  have lz := flat_len lineL 29 lineL_len (List.replicate N lineZ)
  rw [List.length_replicate] at lz
  generalize (List.replicate N lineZ).flatMap lineL = Z at *
  simp only [List.flatMap_append]
  generalize A.flatMap lineL = a at *
  generalize M.flatMap lineL = b at *
  generalize C.flatMap lineL = c at *
  rw [splice_first, splice_next (by rw [la, hi]), ← List.append_assoc, splice_next (A := a ++ b) (by rw [List.length_append, la, lm]; subst hi hm; rw [Nat.add_mul])]
  have hz : ((Z.drop a.length).drop b.length).drop c.length = [] := by
    rw [List.drop_drop, List.drop_drop]
    refine List.drop_eq_nil_of_le ?_
    rw [lz, la, lm, lc, hN, hi, hm, ← Nat.add_mul, ← Nat.add_mul]
    exact Nat.le_of_eq (by omega)
  rw [hz]
  simp
/-- what lies at the places of a row from i on, where something is left -/
theorem cutA_pos {r N i : Nat} (h : N ≠ i) : Mem.cutA (some ⟨r, 0, none⟩) N i 29 = some ⟨r, i * 29, none⟩ := by
  unfold Mem.cutA
  rw [if_neg h]
  simp [Addr.add]
  exact Eq.symm
theorem take_flat (L : List LineL) (i : Nat) (h : i ≤ L.length) : ((L.flatMap lineL).drop (0 * 29)).take ((i - 0) * 29) = (L.take i).flatMap lineL := by
  have e : L.flatMap lineL = (L.take i).flatMap lineL ++ (L.drop i).flatMap lineL := by rw [← List.flatMap_append, List.take_append_drop]
  have la := flat_len lineL 29 lineL_len (L.take i)
  rw [List.length_take, Nat.min_eq_left h] at la
  rw [Nat.zero_mul, List.drop_zero, Nat.sub_zero, e, ← la, List.take_left]
theorem drop_flat (L : List LineL) (j : Nat) (h : j ≤ L.length) : ((L.flatMap lineL).drop (j * 29)).take ((L.length - j) * 29) = (L.drop j).flatMap lineL := by
  have e : L.flatMap lineL = (L.take j).flatMap lineL ++ (L.drop j).flatMap lineL := by rw [← List.flatMap_append, List.take_append_drop]
  have la := flat_len lineL 29 lineL_len (L.take j)
  have lb := flat_len lineL 29 lineL_len (L.drop j)
  rw [List.length_take, Nat.min_eq_left h] at la
  rw [List.length_drop] at lb
  rw [e, ← la, List.drop_left, ← lb, List.take_length]
set_option maxRecDepth 100000 in
set_option maxHeartbeats 3200000 in
theorem tput_any (L M : List LineL) (b q : Nat) (w : World) (hb : Blk w b 71 (L.flatMap lineL).toArray) (hq : Blk w q 71 (M.flatMap lineL).toArray) (i j : Nat) (hij : i ≤ j) (hj : j ≤ L.length) (hm : L.length + M.length ≤ 60000) :
    Calls Tryz.prog 36 #[.slice (some ⟨b, 0, none⟩) L.length L.length, intV i, intV j, .slice (some ⟨q, 0, none⟩) M.length M.length] w fun e w' => ∃ r, e = .returned (.slice (some ⟨r, 0, none⟩) (i + M.length + (L.length - j)) (i + M.length + (L.length - j))) ∧ Blk w' r 71 ((L.take i ++ M ++ L.drop j).flatMap lineL).toArray ∧ Fr w w' (fun _ => False) := by
  have hli : (L.take i).length = i := by rw [List.length_take]; omega
  have hld : (L.drop j).length = L.length - j := List.length_drop
  obtain ⟨n, hn⟩ : ∃ n, L.length = n := ⟨_, rfl⟩
  obtain ⟨m, hm'⟩ : ∃ m, M.length = m := ⟨_, rfl⟩
  obtain ⟨N, hN⟩ : ∃ N, i + m + (n - j) = N := ⟨_, rfl⟩
  obtain ⟨wM, hrun, hbM, hfM⟩ := lines_made w N (by omega)
  have hpl := put_lists (L.take i) M (L.drop j) N i m hli.symm hm'.symm (by rw [hld, hn]; omega)
  have hL := lines_blk hb
  have hMr := lines_blk hq
  unfold LinesAt at hL hMr
  rw [hn] at hL hj hm hld ⊢
  rw [hm'] at hMr hm ⊢
  have hR0 := hL.cutA (cap := n) (lo := 0) (hi := i) (Nat.zero_le _) (by omega) (Nat.le_refl _)
  have hR2 := hL.cutA (cap := n) (lo := j) (hi := n) hj (Nat.le_refl _) (Nat.le_refl _)
  have htf := take_flat L i (by omega)
  have hdf := drop_flat L j (by omega)
  rw [hn] at hdf
  rw [htf, Nat.sub_zero] at hR0
  rw [hdf] at hR2
  have hc0 := fun w => run_cut_hi (P := Tryz.prog) w 31 71 29 Tryz.underlying31 (fun w => by kernel_rfl) (some ⟨b, 0, none⟩) n n i (by omega)
  have hc1 := fun W => run_cut_lo (P := Tryz.prog) W 31 71 29 Tryz.underlying31 (fun w => by kernel_rfl) (some ⟨w.heap.size, 0, none⟩) N N i (by omega)
  have hc2 := fun W => run_cut_lo (P := Tryz.prog) W 31 71 29 Tryz.underlying31 (fun w => by kernel_rfl) (some ⟨w.heap.size, 0, none⟩) N N (i + m) (by omega)
  have hc3 := fun w => run_cut_lo (P := Tryz.prog) w 31 71 29 Tryz.underlying31 (fun w => by kernel_rfl) (some ⟨b, 0, none⟩) n n j (by omega)
  rw [show ((i + m : Nat) : Int) = (i : Int) + (m : Int) by omega] at hc2
  obtain ⟨A0, hA0⟩ : ∃ A, Mem.cutA (some ⟨b, 0, none⟩) n 0 29 = A := ⟨_, rfl⟩
  obtain ⟨A1, hA1⟩ : ∃ A, Mem.cutA (some ⟨w.heap.size, 0, none⟩) N i 29 = A := ⟨_, rfl⟩
  obtain ⟨A2, hA2⟩ : ∃ A, Mem.cutA (some ⟨w.heap.size, 0, none⟩) N (i + m) 29 = A := ⟨_, rfl⟩
  obtain ⟨A3, hA3⟩ : ∃ A, Mem.cutA (some ⟨b, 0, none⟩) n j 29 = A := ⟨_, rfl⟩
  rw [hA0] at hc0 hR0
  rw [hA1] at hc1
  rw [hA2] at hc2
  rw [hA3] at hc3 hR2
  have HP1 := Lib.hid (show 0 < m → A1 = some ⟨w.heap.size, i * 29, none⟩ from fun h => by rw [← hA1]; exact cutA_pos (by omega))
  have HP2 := Lib.hid (show 0 < n - j → A2 = some ⟨w.heap.size, (i + m) * 29, none⟩ from fun h => by rw [← hA2]; exact cutA_pos (by omega))
  have hfl0 := flat_len lineL 29 lineL_len (L.take i)
  have hfl1 := flat_len lineL 29 lineL_len M
  have hfl2 := flat_len lineL 29 lineL_len (L.drop j)
  have hflz := flat_len lineL 29 lineL_len (List.replicate N lineZ)
  rw [List.length_replicate] at hflz
  rw [hli] at hfl0
  rw [hm'] at hfl1
  rw [hld] at hfl2
  have ho0 := flat_one (L.take i)
  have ho1 := flat_one M
  have ho2 := flat_one (L.drop j)
  obtain ⟨Z, hZ⟩ : ∃ Z, (List.replicate N lineZ).flatMap lineL = Z := ⟨_, rfl⟩
  obtain ⟨X0, hX0⟩ : ∃ X, (L.take i).flatMap lineL = X := ⟨_, rfl⟩
  obtain ⟨X1, hX1⟩ : ∃ X, M.flatMap lineL = X := ⟨_, rfl⟩
  obtain ⟨X2, hX2⟩ : ∃ X, (L.drop j).flatMap lineL = X := ⟨_, rfl⟩
  obtain ⟨Y, hY⟩ : ∃ Y, (L.take i ++ M ++ L.drop j).flatMap lineL = Y := ⟨_, rfl⟩
  rw [hZ] at hbM hpl hflz
  rw [hX0] at hR0 hpl hfl0 ho0
  rw [hX1] at hMr hpl hfl1 ho1
  rw [hX2] at hR2 hpl hfl2 ho2
  rw [hY] at hpl ⊢
  obtain ⟨Z1, hZ1⟩ : ∃ Z1, splice Z 0 X0 = Z1 := ⟨_, rfl⟩
  rw [hZ1] at hpl
  obtain ⟨Z2, hZ2⟩ : ∃ Z2, splice Z1 (i * 29) X1 = Z2 := ⟨_, rfl⟩
  rw [hZ2] at hpl
  have hl1 : Z1.length = N * 29 := by rw [← hZ1, length_splice _ _ _ (by omega), hflz]
  have hl2 : Z2.length = N * 29 := by rw [← hZ2, length_splice _ _ _ (by omega), hl1]
  have hbl := hb.lt
  have hql := hq.lt
  have H0 := Lib.hid hbM
  have HF0 := Lib.hid hfM
  have HR0 := Lib.hid (Rd.fr hR0 hfM (fun _ _ _ _ h => h))
  have HR1 := Lib.hid (Rd.fr hMr hfM (fun _ _ _ _ h => h))
  have HR2 := Lib.hid (Rd.fr hR2 hfM (fun _ _ _ _ h => h))
  have K0 := Lib.hid (And.intro hfl0 (And.intro ho0 hZ1))
  have K1 := Lib.hid (And.intro hfl1 (And.intro ho1 hZ2))
  have K2 := Lib.hid (And.intro hfl2 (And.intro ho2 hpl))
  have KL := Lib.hid (And.intro hflz (And.intro hl1 hl2))
  have KN := Lib.hid hN
  have KA0 := Lib.hid (show ∀ bb oo, A0 = some ⟨bb, oo, none⟩ → bb = b from fun bb oo e => by rw [← hA0] at e; obtain ⟨a, ha, hb⟩ := cutA_block e; injection ha with ha; subst ha; exact hb.symm)
  have KA3 := Lib.hid (show ∀ bb oo, A3 = some ⟨bb, oo, none⟩ → bb = b from fun bb oo e => by rw [← hA3] at e; obtain ⟨a, ha, hb⟩ := cutA_block e; injection ha with ha; subst ha; exact hb.symm)
  have hNi : (n : Int) - ((j : Int) - (i : Int)) + (m : Int) = (N : Int) := by omega
  have hni : (i : Int) ≤ (j : Int) := by omega
  have hnj : (j : Int) ≤ (n : Int) := by omega
  have hnn : (n : Int) ≤ 60000 := by omega
  have hmm : (m : Int) ≤ 60000 := by omega
  have hwr : IntKind.i64.wrap ((i : Int) + (m : Int)) = (i : Int) + (m : Int) := IntWalk.i64_in _ ⟨by omega, by omega⟩
  clear hb hq hL hMr hR0 hR2 htf hdf hfl0 hfl1 hfl2 hflz ho0 ho1 ho2 hpl hZ hX0 hX1 hX2 hY hZ1 hZ2 hl1 hl2 hbM hfM hA0 hA1 hA2 hA3 hli hld hn hm' hN
  go_enter Tryz.func36, Tryz.ntmps36
  go_wp2_with ((with_reducible refine at_copy _ _ ?_); first
    | (refine wpList_copy_many rfl _ _ 31 31 rfl 71 29 i Tryz.underlying31 infoL1 _ A0 N N i n rfl rfl w.heap.size 0 Z 71 H0.out (Nat.min_eq_left (by have := KN.out; omega)).symm X0 (fun _ => rfl) HR0.out (by have := K0.out.1; have := KL.out.1; have := KN.out; omega) K0.out.2.1 Z1 K0.out.2.2 ?_
       intro W5 hf5 hb5
       have HB5 := Lib.hid hb5
       have HR15 := Lib.hid (Rd.fr HR1.out hf5 (fun b' o' e _ h => by injection e with e; injection e with e; omega))
       have HR25 := Lib.hid (Rd.fr HR2.out hf5 (fun b' o' e _ h => by have := KA3.out b' o' e; omega))
       have HF5 := Lib.hid (HF0.out.fresh hf5 (fun i e => by have e : i = w.heap.size := e; omega))
       clear hf5 hb5)
    | (refine wpList_copy_many rfl _ _ 31 31 rfl 71 29 m Tryz.underlying31 infoL1 A1 (some ⟨q, 0, none⟩) (N - i) (N - i) m m rfl rfl w.heap.size (i * 29) Z1 71 HB5.out (Nat.min_eq_left (by have := KN.out; omega)).symm X1 HP1.out HR15.out (by have := K1.out.1; have := KL.out.2.1; have := KN.out; omega) K1.out.2.1 Z2 K1.out.2.2 ?_
       intro W6 hf6 hb6
       have HB6 := Lib.hid hb6
       have HR26 := Lib.hid (Rd.fr HR25.out hf6 (fun b' o' e _ h => by have := KA3.out b' o' e; omega))
       have HF6 := Lib.hid (HF5.out.fresh hf6 (fun i e => by have e : i = w.heap.size := e; omega))
       clear hf6 hb6))
  refine wp_region_held_drew (S := fun w' => Fr W6 w' (fun k => k = w.heap.size)) (by kernel_rfl) (Fr.drew W6 _) (fun hHeld => ?_)
  refine wpAnyH_take (i := 0) (v := ?_) rfl (by kernel_rfl) (by kernel_rfl) (by kernel_rfl) (fun _ _ _ h => h) (Or.inl ⟨by rfl, ?_⟩) (by assumption) ?_
  rotate_left
  · intro w' hSw
    go_simp
    try with_reducible rfl
  try simp only [Act.put, List.setIfInBounds_toArray, List.set_cons_zero, List.set_cons_succ, List.getElem_toArray, List.getElem_cons_zero]
  refine wpAnyH_take (i := 1) (v := ?_) rfl (by kernel_rfl) (by kernel_rfl) (by kernel_rfl) (fun _ _ _ h => h) (Or.inl ⟨by rfl, ?_⟩) (by assumption) ?_
  rotate_left
  · intro w' hSw
    go_simp
    try with_reducible rfl
  try simp only [Act.put, List.setIfInBounds_toArray, List.set_cons_zero, List.set_cons_succ, List.getElem_toArray, List.getElem_cons_succ, List.getElem_cons_zero]
  refine wpAnyH_take (i := 2) (v := ?_) rfl (by kernel_rfl) (by kernel_rfl) (by kernel_rfl) (fun _ _ _ h => h) (Or.inl ⟨by rfl, ?_⟩) (by assumption) ?_
  rotate_left
  · intro w' hSw
    go_simp
    try with_reducible rfl
  try simp only [Act.put, List.setIfInBounds_toArray, List.set_cons_zero, List.set_cons_succ, List.getElem_toArray, List.getElem_cons_succ, List.getElem_cons_zero]
  refine wpAnyH_take (i := 3) (v := ?_) rfl (by kernel_rfl) (by kernel_rfl) (by kernel_rfl) (fun _ _ _ h => h) (Or.inl ⟨by rfl, ?_⟩) (by assumption) ?_
  rotate_left
  · intro w' hSw
    go_simp
    try with_reducible rfl
  try simp only [Act.put, List.setIfInBounds_toArray, List.set_cons_zero, List.set_cons_succ, List.getElem_toArray, List.getElem_cons_succ, List.getElem_cons_zero]
  refine wpAnyH_take (i := 4) (v := ?_) rfl (by kernel_rfl) (by kernel_rfl) (by kernel_rfl) (fun _ _ _ h => h) (Or.inl ⟨by rfl, ?_⟩) (by assumption) ?_
  rotate_left
  · intro w' hSw
    go_simp
    try with_reducible rfl
  try simp only [Act.put, List.setIfInBounds_toArray, List.set_cons_zero, List.set_cons_succ, List.getElem_toArray, List.getElem_cons_succ, List.getElem_cons_zero]
  refine wpAnyH_take (i := 5) (v := ?_) rfl (by kernel_rfl) (by kernel_rfl) (by kernel_rfl) (fun _ _ _ h => h) (Or.inl ⟨by rfl, ?_⟩) (by assumption) ?_
  rotate_left
  · intro w' hSw
    go_simp
    try with_reducible rfl
  try simp only [Act.put, List.setIfInBounds_toArray, List.set_cons_zero, List.set_cons_succ, List.getElem_toArray, List.getElem_cons_succ, List.getElem_cons_zero]
  refine wpAnyH_take (i := 6) (v := ?_) rfl (by kernel_rfl) (by kernel_rfl) (by kernel_rfl) (fun _ _ _ h => h) (Or.inl ⟨by rfl, ?_⟩) (by assumption) ?_
  rotate_left
  · intro w' hSw
    go_simp
    try with_reducible rfl
  try simp only [Act.put, List.setIfInBounds_toArray, List.set_cons_zero, List.set_cons_succ, List.getElem_toArray, List.getElem_cons_succ, List.getElem_cons_zero]
  refine wpAnyH_take (i := 7) (v := ?_) rfl (by kernel_rfl) (by kernel_rfl) (by kernel_rfl) (fun _ _ _ h => h) (Or.inl ⟨by rfl, ?_⟩) (by assumption) ?_
  rotate_left
  · intro w' hSw
    go_simp
    try with_reducible rfl
  try simp only [Act.put, List.setIfInBounds_toArray, List.set_cons_zero, List.set_cons_succ, List.getElem_toArray, List.getElem_cons_succ, List.getElem_cons_zero]
  refine wpAnyH_take (i := 8) (v := ?_) rfl (by kernel_rfl) (by kernel_rfl) (by kernel_rfl) (fun _ _ _ h => h) (Or.inl ⟨by rfl, ?_⟩) (by assumption) ?_
  rotate_left
  · intro w' hSw
    go_simp
    try with_reducible rfl
  try simp only [Act.put, List.setIfInBounds_toArray, List.set_cons_zero, List.set_cons_succ, List.getElem_toArray, List.getElem_cons_succ, List.getElem_cons_zero]
  refine wpAnyH_ready (rs := [9]) (by kernel_rfl) (by simp) ?_
  refine AllReadyH.cons rfl (fun K hK => ?_) AllReadyH.nil
  rw [if_pos (by rfl)]
  refine wp_copy_many _ _ 31 31 rfl 71 29 (n - j) Tryz.underlying31 infoL1 A2 A3 (N - (i + m)) (N - (i + m)) (n - j) (n - j) rfl rfl w.heap.size ((i + m) * 29) Z2 71 ((Fr.drew W6 (fun _ => False)).blk HB6.out (fun h => h)) (Nat.min_eq_left (by have := KN.out; omega)).symm X2 HP2.out (Rd.fr HR26.out (Fr.drew W6 (fun _ => False)) (fun _ _ _ _ h => h)) (by have := K2.out.1; have := KL.out.2.2; have := KN.out; omega) K2.out.2.1 Y K2.out.2.2 ?_
  intro W7 hf7 hb7
  refine hK.out _ _ (hHeld.trans hf7 (fun _ _ h => h) (fun _ _ h => h)) (fun _ => wpAnyH_done (by kernel_rfl) ?_ _)
  have HB7 := Lib.hid hb7
  have HF7 := Lib.hid ((ff0 HF6.out (Fr.drew W6 (fun _ => False))).fresh hf7 (fun i e => by have e : i = w.heap.size := e; omega))
  clear hK hHeld hf7 hb7
  go_wp2_with fail
  go_ret
  exact ⟨_, by rw [KN.out]; rfl, HB7.out, HF7.out⟩
end Go.Proofs.YtodcnbejnchmhaaGreatDoor
namespace Go.Proofs.YtodcnbejnchmhaaGreatDoor
open Go.Rope hiding Bs
open Go.RowKit Go.Mem Go.Lin Go.Dcm

theorem infoEd1 : (Tryz.prog.info? 39).map (·.size) = some 5 := by kernel_rfl
theorem infoLns : (Tryz.prog.info? 31).map (·.size) = some 1 := by kernel_rfl
theorem infoPr : (Tryz.prog.info? 72).map (·.size) = some 1 := by kernel_rfl
theorem infoIn : (Tryz.prog.info? 3).map (·.size) = some 1 := by kernel_rfl
theorem count_any (s : Bs) (w : World) : Calls Tryz.prog 35 #[strV s, .string ⟨#[10]⟩] w fun e w' => e = .returned (intV (feeds s)) ∧ w' = w := by
  have h := Tryz.strings_Count_one ⟨s.toArray⟩ 10 w
  rw [S3.str_list] at h
  exact h.mono (by rintro e w' ⟨rfl, rfl⟩; exact ⟨rfl, rfl⟩)
/-- what Edit leaves -/
def EditR (w : World) (g : Nat) (l : Bs) (n : Int) (e : EdL) (en : Ending) (w' : World) : Prop := en = .returned (intV (editD l e).2) ∧ TabAt w' g (editD l e).1 (readD l e n) ∧ Fr w w' (fun k => k = g)
theorem rope_addr {w : World} {v x : Value} {t : Bs} {h : Nat} (r : S3.RopeAt w v x t h) : ∃ a, v = .pointer a := by
  rcases r.2 with ⟨rfl, -⟩ | ⟨g, rfl, -⟩
  · exact ⟨_, rfl⟩
  · exact ⟨_, rfl⟩
set_option maxRecDepth 100000 in
set_option maxHeartbeats 3200000 in
theorem tEdit_bad {w : World} {g : Nat} {l : Bs} {n : Int} (h : TabAt w g l n) (e : EdL) (hz : e.s.length ≤ 20100) (k : Int) (hk : (editD l e).2 = k) (h0 : (k == 0) = false) : Calls Tryz.prog 17 #[pT g, edV e] w (EditR w g l n e) := by
  have hs := edit_stays (l := l) (e := e) (by rw [hk]; intro e; rw [e] at h0; exact absurd h0 (by decide))
  have hr : readD l e n = n := by unfold readD; rw [if_neg (by rw [hk]; intro e; rw [e] at h0; exact absurd h0 (by decide))]
  unfold EditR
  rw [hs, hr, hk]
  have HT := Lib.hid h
  obtain ⟨vr, vl, x, hh, h1, h2, h3⟩ := h.ex
  have hne := fun w => eq_nil_tab w g
  have hmf := make_func
  obtain ⟨l1, c1, l2, c2, s⟩ := e
  have HC := Lib.hid (fun (W : World) (f : Fr w W (fun _ => False)) => changed_any (h2.keep f) h.fits.1 ⟨l1, c1, l2, c2, s⟩ hz)
  rw [hk] at HC
  have C0 := Lib.hid (blkc h1 0 _ rfl)
  clear h1 h2 h3 h hs hr hk hz
  unfold edV edC
  go_enter Tryz.func17, Tryz.ntmps17
  go_wp2_with fail
  obtain ⟨W1, hW1⟩ : ∃ W, w.alloc (.cells #[intV l1, intV c1, intV l2, intV c2, strV s] 39) = W := ⟨_, rfl⟩
  have hf1 := Fr.new w (.cells #[intV l1, intV c1, intV l2, intV c2, strV s] 39) (fun _ => False)
  have hb1 := Blk.made w 39 #[intV l1, intV c1, intV l2, intV c2, strV s]
  rw [hW1] at hf1 hb1 ⊢
  have hs1 : W1.heap.size = w.heap.size + 1 := by rw [← hW1]; simp
  have HF1 := Lib.hid hf1
  have HB1 := Lib.hid hb1
  have HG1 := Lib.hid (hf1.cell0 C0.out)
  clear hW1 hf1 hb1
  refine wp_region_held_drew (S := fun w' => Fr W1 w' (fun _ => False)) (by kernel_rfl) (Fr.drew W1 _) (fun hHeld => ?_)
  refine wpAnyH_take (i := 0) (v := ?_) rfl (by kernel_rfl) (by kernel_rfl) (by kernel_rfl) (fun _ _ _ h => h) (Or.inl ⟨by rfl, ?_⟩) (by assumption) ?_
  rotate_left
  · intro w' hSw
    go_simp
    try with_reducible rfl
  try simp only [Act.put, List.setIfInBounds_toArray, List.set_cons_zero, List.set_cons_succ, List.getElem_toArray, List.getElem_cons_zero]
  refine wpAnyH_take (i := 1) (v := ?_) rfl (by kernel_rfl) (by kernel_rfl) (by kernel_rfl) (fun _ _ _ h => h) (Or.inl ⟨by rfl, ?_⟩) (by assumption) ?_
  rotate_left
  · intro w' hSw
    go_simp
    try with_reducible rfl
  try simp only [Act.put, List.setIfInBounds_toArray, List.set_cons_zero, List.set_cons_succ, List.getElem_toArray, List.getElem_cons_succ, List.getElem_cons_zero]
  refine wpAnyH_take (i := 2) (v := ?_) rfl (by kernel_rfl) (by kernel_rfl) (by kernel_rfl) (fun _ _ _ h => h) (Or.inl ⟨by rfl, ?_⟩) (by assumption) ?_
  rotate_left
  · intro w' hSw
    go_simp
    try with_reducible rfl
  try simp only [Act.put, List.setIfInBounds_toArray, List.set_cons_zero, List.set_cons_succ, List.getElem_toArray, List.getElem_cons_succ, List.getElem_cons_zero]
  refine wpAnyH_take (i := 3) (v := ?_) rfl (by kernel_rfl) (by kernel_rfl) (by kernel_rfl) (fun _ _ _ h => h) (Or.inl ⟨by rfl, ?_⟩) (by assumption) ?_
  rotate_left
  · intro w' hSw
    have q0 := hSw.cell0 HG1.out
    go_simp
    try with_reducible rfl
  try simp only [Act.put, List.setIfInBounds_toArray, List.set_cons_zero, List.set_cons_succ, List.getElem_toArray, List.getElem_cons_succ, List.getElem_cons_zero]
  refine wpAnyH_take (i := 4) (v := _) rfl (by kernel_rfl) (by kernel_rfl) (by kernel_rfl) (fun _ _ _ h => h) (yields_blk 39 _ w.heap.size 0 39 #[intV l1, intV c1, intV l2, intV c2, strV s] #[intV l1, intV c1, intV l2, intV c2, strV s] _ (by rfl) rfl (by rfl) (fun w' h => h.blk HB1.out (fun h => h)) Tryz.underlying39 rfl infoEd1 (fun j _ => by rw [Nat.zero_add])) (by assumption) ?_
  try simp only [Act.put, List.setIfInBounds_toArray, List.set_cons_zero, List.set_cons_succ, List.getElem_toArray, List.getElem_cons_succ, List.getElem_cons_zero]
  refine wpAnyH_ready (rs := [5]) (by kernel_rfl) (by simp) ?_
  refine AllReadyH.cons rfl (fun K hK => ?_) AllReadyH.nil
  go_simp
  refine (HC.out _ (ff0 HF1.out hHeld)).mono ?_
  rintro e w2 ⟨v5, x5, h5, rfl, -, hf2⟩
  refine hK.out _ _ (ff0 hHeld hf2) (fun hHeld2 => ?_)
  clear hK K hHeld
  rename_i hHeld2
  have hHeld := hHeld2
  clear hHeld2
  have HF2 := Lib.hid (ff0 (ff0 HF1.out (Fr.drew W1 (fun _ => False))) hf2)
  clear hf2
  try simp only [Act.put, List.setIfInBounds_toArray, List.set_cons_zero, List.set_cons_succ, List.getElem_toArray, List.getElem_cons_succ, List.getElem_cons_zero]
  refine wpAnyH_take (i := 6) (v := ?_) rfl (by kernel_rfl) (by kernel_rfl) (by kernel_rfl) (fun _ _ _ h => h) (Or.inl ⟨by rfl, ?_⟩) (by assumption) ?_
  rotate_left
  · intro w' hSw
    go_simp
    try with_reducible rfl
  try simp only [Act.put, List.setIfInBounds_toArray, List.set_cons_zero, List.set_cons_succ, List.getElem_toArray, List.getElem_cons_succ, List.getElem_cons_zero]
  refine wpAnyH_take (i := 7) (v := ?_) rfl (by kernel_rfl) (by kernel_rfl) (by kernel_rfl) (fun _ _ _ h => h) (Or.inl ⟨by rfl, ?_⟩) (by assumption) ?_
  rotate_left
  · intro w' hSw
    go_simp
    try with_reducible rfl
  try simp only [Act.put, List.setIfInBounds_toArray, List.set_cons_zero, List.set_cons_succ, List.getElem_toArray, List.getElem_cons_succ, List.getElem_cons_zero]
  refine wpAnyH_take (i := 8) (v := ?_) rfl (by kernel_rfl) (by kernel_rfl) (by kernel_rfl) (fun _ _ _ h => h) (Or.inl ⟨by rfl, ?_⟩) (by assumption) ?_
  rotate_left
  · intro w' hSw
    go_simp
    try with_reducible rfl
  try simp only [Act.put, List.setIfInBounds_toArray, List.set_cons_zero, List.set_cons_succ, List.getElem_toArray, List.getElem_cons_succ, List.getElem_cons_zero]
  refine wpAnyH_take (i := 9) (v := ?_) rfl (by kernel_rfl) (by kernel_rfl) (by kernel_rfl) (fun _ _ _ h => h) (Or.inl ⟨by rfl, ?_⟩) (by assumption) ?_
  rotate_left
  · intro w' hSw
    go_simp
    try with_reducible rfl
  try simp only [Act.put, List.setIfInBounds_toArray, List.set_cons_zero, List.set_cons_succ, List.getElem_toArray, List.getElem_cons_succ, List.getElem_cons_zero]
  refine wpAnyH_take (i := 10) (v := ?_) rfl (by kernel_rfl) (by kernel_rfl) (by kernel_rfl) (fun _ _ _ h => h) (Or.inl ⟨by rfl, ?_⟩) (by assumption) ?_
  rotate_left
  · intro w' hSw
    go_simp
    try with_reducible rfl
  try simp only [Act.put, List.setIfInBounds_toArray, List.set_cons_zero, List.set_cons_succ, List.getElem_toArray, List.getElem_cons_succ, List.getElem_cons_zero]
  refine wpAnyH_done (by kernel_rfl) ?_ _
  clear hHeld
  go_wp2_with fail
  go_ret
  exact ⟨rfl, HT.out.kept HF2.out, HF2.out.mono (fun _ _ h => h.elim)⟩
/-- what is known ahead of the stores, and behind each -/
structure EdS (w W : World) (g : Nat) (t : Bs) (a : Option Addr) (x : Value) (q r : Nat) : Prop where
  ro : S3.RopeAt W (.pointer a) x t q
  ls : Blk W r 71 (saysC t)
  fr : Fr w W (fun k => k = g)
theorem EdS.put {w W W' : World} {g : Nat} {t : Bs} {a : Option Addr} {x : Value} {q r : Nat} {cs : Array Value} (h : EdS w W g t a x q r) (hb : Blk W g 74 cs) (hf : Fr W W' (fun k => k = g)) : EdS w W' g t a x q r :=
  ⟨h.ro.far hf (fun k cs hk e => by subst e; exact absurd (blk_same hk hb) (by decide)) (fun k cs hk e => by subst e; exact absurd (blk_same hk hb) (by decide)),
    hf.blk h.ls (fun e => by subst e; exact absurd (blk_same h.ls hb) (by decide)), h.fr.trans hf (fun _ _ h => h) (fun _ _ h => h)⟩
set_option maxRecDepth 100000 in
set_option maxHeartbeats 6400000 in
theorem tEdit_ok {w : World} {g : Nat} {l : Bs} {n : Int} (h : TabAt w g l n) (hw : LOk w) (e : EdL) (hz : e.s.length ≤ 20100) (i j a b : Nat) (t : Bs) (hi : e.l1 = (i : Int)) (hj : e.l2 = (j : Int)) (ht : t.length ≤ 20000) (hm : feeds t + 1 ≤ 400) (hd : editD l e = (t, 0)) (hs : Spot l i a j b) (hij : i ≤ j) (hc : t = l.take a ++ e.s ++ l.drop b) : Calls Tryz.prog 17 #[pT g, edV e] w (EditR w g l n e) := by
  have hrd : readD l e n = (feeds e.s : Int) + 1 := by unfold readD; rw [if_pos (by rw [hd])]
  unfold EditR
  rw [hrd, hd]
  have hmid := hs.mid e.s
  have hml := lines_len (midL l i a b j e.s)
  rw [hmid] at hml
  have hfrom : From t i (linesL (midL l i a b j e.s)) := fun k hk => line_mid hs e.s t hc k (by omega)
  have hsays := says_edit hs e.s
  rw [← hc] at hsays
  have hlen := says_len l
  have hlt := says_len t
  have hj1 := hs.hj
  have hfit := h.fits.2
  obtain ⟨M, hM⟩ : ∃ M, linesL (midL l i a b j e.s) = M := ⟨_, rfl⟩
  rw [hM] at hml hfrom hsays
  have hN : (i + M.length + ((saysD l).length - (j + 1))) = feeds t + 1 := by
    have := congrArg List.length hsays
    rw [List.length_append, List.length_append, List.length_take, List.length_drop, List.length_map] at this
    omega
  obtain ⟨vr, vl, x, hh, h1, h2, h3⟩ := h.ex
  have hne := fun w => eq_nil_tab w g
  have hmf := make_func
  obtain ⟨l1, c1, l2, c2, s⟩ := e
  have HC := Lib.hid (fun (W : World) (f : Fr w W (fun _ => False)) => changed_any (h2.keep f) h.fits.1 ⟨l1, c1, l2, c2, s⟩ hz)
  have hi : l1 = (i : Int) := hi
  have hj : l2 = (j : Int) := hj
  subst hi hj
  unfold chgD at HC
  rw [hd] at HC
  simp only [if_true] at HC
  have hml : M.length = feeds s + 1 := hml
  have hcnt := fun w => count_any s w
  have HSay := Lib.hid (fun (W : World) (v x : Value) (hq : Nat) (f : Fr w W (fun _ => False)) (r : S3.RopeAt W v x t hq) => say_any r ht (hw.fr f) i M.length M rfl (by omega) hfrom)
  have HPut := Lib.hid (fun (W : World) (b q : Nat) (hb : Blk W b 71 (saysC l)) (hq : Blk W q 71 ((M.map sayD).flatMap lineL).toArray) => tput_any (saysD l) (M.map sayD) b q W hb hq i (j + 1) (by omega) (by omega) (by rw [List.length_map]; omega))
  rw [List.length_map, hlen] at HPut
  rw [show ((j + 1 : Nat) : Int) = (j : Int) + 1 by omega] at HPut
  rw [show ((M.length : Nat) : Int) = 1 + (feeds s : Int) by omega] at HSay
  obtain ⟨m, hmM⟩ : ∃ m, M.length = m := ⟨_, rfl⟩
  rw [hmM] at HPut HSay hN
  have Hm := Lib.hid (show m = feeds s + 1 by omega)
  have HSA := Lib.hid (show ((saysD l).take i ++ M.map sayD ++ (saysD l).drop (j + 1)).flatMap lineL = (saysD t).flatMap lineL by rw [hsays])
  rw [hlen] at hN
  have HN := Lib.hid hN
  have HFT := Lib.hid (show Fits t from ⟨ht, hm⟩)
  have HT := Lib.hid h
  have C0 := Lib.hid (blkc h1 0 _ rfl)
  have HB0 := Lib.hid h1
  have hsl : feeds s ≤ 20100 := Nat.le_trans (feeds_le s) hz
  have hgw := h1.lt
  clear h1 h2 h3 h hrd hmid hfrom hsays hd hs hc hw hM hcnt hml hmM
  have HCn := Lib.hid (fun w => count_any s w)
  have hwr1 : IntKind.i64.wrap (1 + (feeds s : Int)) = 1 + (feeds s : Int) := IntWalk.i64_in _ ⟨by omega, by omega⟩
  have hwr2 : IntKind.i64.wrap ((j : Int) + 1) = (j : Int) + 1 := IntWalk.i64_in _ ⟨by omega, by omega⟩
  unfold edV edC
  go_enter Tryz.func17, Tryz.ntmps17
  go_wp2_with fail
  obtain ⟨W1, hW1⟩ : ∃ W, w.alloc (.cells #[intV (i : Int), intV c1, intV (j : Int), intV c2, strV s] 39) = W := ⟨_, rfl⟩
  have hf1 := Fr.new w (.cells #[intV (i : Int), intV c1, intV (j : Int), intV c2, strV s] 39) (fun _ => False)
  have hb1 := Blk.made w 39 #[intV (i : Int), intV c1, intV (j : Int), intV c2, strV s]
  rw [hW1] at hf1 hb1 ⊢
  have hs1 : W1.heap.size = w.heap.size + 1 := by rw [← hW1]; simp
  have HF1 := Lib.hid hf1
  have HB1 := Lib.hid hb1
  have HG1 := Lib.hid (hf1.cell0 C0.out)
  clear hW1 hf1 hb1
  refine wp_region_held_drew (S := fun w' => Fr W1 w' (fun _ => False)) (by kernel_rfl) (Fr.drew W1 _) (fun hHeld => ?_)
  refine wpAnyH_take (i := 0) (v := ?_) rfl (by kernel_rfl) (by kernel_rfl) (by kernel_rfl) (fun _ _ _ h => h) (Or.inl ⟨by rfl, ?_⟩) (by assumption) ?_
  rotate_left
  · intro w' hSw
    go_simp
    try with_reducible rfl
  try simp only [Act.put, List.setIfInBounds_toArray, List.set_cons_zero, List.set_cons_succ, List.getElem_toArray, List.getElem_cons_zero]
  refine wpAnyH_take (i := 1) (v := ?_) rfl (by kernel_rfl) (by kernel_rfl) (by kernel_rfl) (fun _ _ _ h => h) (Or.inl ⟨by rfl, ?_⟩) (by assumption) ?_
  rotate_left
  · intro w' hSw
    go_simp
    try with_reducible rfl
  try simp only [Act.put, List.setIfInBounds_toArray, List.set_cons_zero, List.set_cons_succ, List.getElem_toArray, List.getElem_cons_succ, List.getElem_cons_zero]
  refine wpAnyH_take (i := 2) (v := ?_) rfl (by kernel_rfl) (by kernel_rfl) (by kernel_rfl) (fun _ _ _ h => h) (Or.inl ⟨by rfl, ?_⟩) (by assumption) ?_
  rotate_left
  · intro w' hSw
    go_simp
    try with_reducible rfl
  try simp only [Act.put, List.setIfInBounds_toArray, List.set_cons_zero, List.set_cons_succ, List.getElem_toArray, List.getElem_cons_succ, List.getElem_cons_zero]
  refine wpAnyH_take (i := 3) (v := ?_) rfl (by kernel_rfl) (by kernel_rfl) (by kernel_rfl) (fun _ _ _ h => h) (Or.inl ⟨by rfl, ?_⟩) (by assumption) ?_
  rotate_left
  · intro w' hSw
    have q0 := hSw.cell0 HG1.out
    go_simp
    try with_reducible rfl
  try simp only [Act.put, List.setIfInBounds_toArray, List.set_cons_zero, List.set_cons_succ, List.getElem_toArray, List.getElem_cons_succ, List.getElem_cons_zero]
  refine wpAnyH_take (i := 4) (v := _) rfl (by kernel_rfl) (by kernel_rfl) (by kernel_rfl) (fun _ _ _ h => h) (yields_blk 39 _ w.heap.size 0 39 #[intV (i : Int), intV c1, intV (j : Int), intV c2, strV s] #[intV (i : Int), intV c1, intV (j : Int), intV c2, strV s] _ (by rfl) rfl (by rfl) (fun w' h => h.blk HB1.out (fun h => h)) Tryz.underlying39 rfl infoEd1 (fun j _ => by rw [Nat.zero_add])) (by assumption) ?_
  try simp only [Act.put, List.setIfInBounds_toArray, List.set_cons_zero, List.set_cons_succ, List.getElem_toArray, List.getElem_cons_succ, List.getElem_cons_zero]
  refine wpAnyH_ready (rs := [5]) (by kernel_rfl) (by simp) ?_
  refine AllReadyH.cons rfl (fun K hK => ?_) AllReadyH.nil
  go_simp
  refine (HC.out _ (ff0 HF1.out hHeld)).mono ?_
  rintro e w2 ⟨v2, x2, q2, rfl, hr2, hf2⟩
  refine hK.out _ _ (ff0 hHeld hf2) (fun hHeld2 => ?_)
  clear hK K hHeld
  rename_i hHeld2
  have hHeld := hHeld2
  clear hHeld2
  obtain ⟨a2, rfl⟩ := rope_addr hr2
  have HB2 := Lib.hid (hf2.blk ((Fr.drew W1 (fun _ => False)).blk HB1.out (fun h => h)) (fun h => h))
  have HF2 := Lib.hid (ff0 (ff0 HF1.out (Fr.drew W1 (fun _ => False))) hf2)
  have HR2 := Lib.hid hr2
  have HSay2 := Lib.hid (HSay.out w2.drew _ _ _ (ff0 HF2.out (Fr.drew w2 (fun _ => False))) (hr2.keep (Fr.drew w2 (fun _ => False))))
  clear hf2 hr2
  try simp only [Act.put, List.setIfInBounds_toArray, List.set_cons_zero, List.set_cons_succ, List.getElem_toArray, List.getElem_cons_succ, List.getElem_cons_zero]
  refine wpAnyH_take (i := 6) (v := ?_) rfl (by kernel_rfl) (by kernel_rfl) (by kernel_rfl) (fun _ _ _ h => h) (Or.inl ⟨by rfl, ?_⟩) (by assumption) ?_
  rotate_left
  · intro w' hSw
    go_simp
    try with_reducible rfl
  try simp only [Act.put, List.setIfInBounds_toArray, List.set_cons_zero, List.set_cons_succ, List.getElem_toArray, List.getElem_cons_succ, List.getElem_cons_zero]
  refine wpAnyH_take (i := 7) (v := ?_) rfl (by kernel_rfl) (by kernel_rfl) (by kernel_rfl) (fun _ _ _ h => h) (Or.inl ⟨by rfl, ?_⟩) (by assumption) ?_
  rotate_left
  · intro w' hSw
    go_simp
    try with_reducible rfl
  try simp only [Act.put, List.setIfInBounds_toArray, List.set_cons_zero, List.set_cons_succ, List.getElem_toArray, List.getElem_cons_succ, List.getElem_cons_zero]
  refine wpAnyH_take (i := 8) (v := ?_) rfl (by kernel_rfl) (by kernel_rfl) (by kernel_rfl) (fun _ _ _ h => h) (Or.inl ⟨by rfl, ?_⟩) (by assumption) ?_
  rotate_left
  · intro w' hSw
    go_simp
    try with_reducible rfl
  try simp only [Act.put, List.setIfInBounds_toArray, List.set_cons_zero, List.set_cons_succ, List.getElem_toArray, List.getElem_cons_succ, List.getElem_cons_zero]
  refine wpAnyH_take (i := 9) (v := ?_) rfl (by kernel_rfl) (by kernel_rfl) (by kernel_rfl) (fun _ _ _ h => h) (Or.inl ⟨by rfl, ?_⟩) (by assumption) ?_
  rotate_left
  · intro w' hSw
    go_simp
    try with_reducible rfl
  try simp only [Act.put, List.setIfInBounds_toArray, List.set_cons_zero, List.set_cons_succ, List.getElem_toArray, List.getElem_cons_succ, List.getElem_cons_zero]
  refine wpAnyH_take (i := 10) (v := ?_) rfl (by kernel_rfl) (by kernel_rfl) (by kernel_rfl) (fun _ _ _ h => h) (Or.inl ⟨by rfl, ?_⟩) (by assumption) ?_
  rotate_left
  · intro w' hSw
    go_simp
    try with_reducible rfl
  try simp only [Act.put, List.setIfInBounds_toArray, List.set_cons_zero, List.set_cons_succ, List.getElem_toArray, List.getElem_cons_succ, List.getElem_cons_zero]
  refine wpAnyH_done (by kernel_rfl) ?_ _
  clear hHeld
  go_wp2_with fail
  refine wp_region_held_drew (S := fun w' => Fr w2 w' (fun _ => False)) (by kernel_rfl) (Fr.drew w2 _) (fun hHeld => ?_)
  refine wpAnyH_take (i := 0) (v := ?_) rfl (by kernel_rfl) (by kernel_rfl) (by kernel_rfl) (fun _ _ _ h => h) (Or.inl ⟨by rfl, ?_⟩) (by assumption) ?_
  rotate_left
  · intro w' hSw
    go_simp
    try with_reducible rfl
  try simp only [Act.put, List.setIfInBounds_toArray, List.set_cons_zero, List.set_cons_succ, List.getElem_toArray, List.getElem_cons_zero]
  refine wpAnyH_take (i := 1) (v := ?_) rfl (by kernel_rfl) (by kernel_rfl) (by kernel_rfl) (fun _ _ _ h => h) (Or.inl ⟨by rfl, ?_⟩) (by assumption) ?_
  rotate_left
  · intro w' hSw
    go_simp
    try with_reducible rfl
  try simp only [Act.put, List.setIfInBounds_toArray, List.set_cons_zero, List.set_cons_succ, List.getElem_toArray, List.getElem_cons_succ, List.getElem_cons_zero]
  refine wpAnyH_take (i := 2) (v := ?_) rfl (by kernel_rfl) (by kernel_rfl) (by kernel_rfl) (fun _ _ _ h => h) (Or.inl ⟨by rfl, ?_⟩) (by assumption) ?_
  rotate_left
  · intro w' hSw
    go_simp
    try with_reducible rfl
  try simp only [Act.put, List.setIfInBounds_toArray, List.set_cons_zero, List.set_cons_succ, List.getElem_toArray, List.getElem_cons_succ, List.getElem_cons_zero]
  refine wpAnyH_take (i := 3) (v := ?_) rfl (by kernel_rfl) (by kernel_rfl) (by kernel_rfl) (fun _ _ _ h => h) (Or.inl ⟨by rfl, ?_⟩) (by assumption) ?_
  rotate_left
  · intro w' hSw
    have q0 := hSw.cell0 (blkc HB2.out 0 _ rfl)
    go_simp
    try with_reducible rfl
  try simp only [Act.put, List.setIfInBounds_toArray, List.set_cons_zero, List.set_cons_succ, List.getElem_toArray, List.getElem_cons_succ, List.getElem_cons_zero]
  refine wpAnyH_take (i := 4) (v := ?_) rfl (by kernel_rfl) (by kernel_rfl) (by kernel_rfl) (fun _ _ _ h => h) (Or.inl ⟨by rfl, ?_⟩) (by assumption) ?_
  rotate_left
  · intro w' hSw
    go_simp
    try with_reducible rfl
  try simp only [Act.put, List.setIfInBounds_toArray, List.set_cons_zero, List.set_cons_succ, List.getElem_toArray, List.getElem_cons_succ, List.getElem_cons_zero]
  refine wpAnyH_take (i := 5) (v := ?_) rfl (by kernel_rfl) (by kernel_rfl) (by kernel_rfl) (fun _ _ _ h => h) (Or.inl ⟨by rfl, ?_⟩) (by assumption) ?_
  rotate_left
  · intro w' hSw
    have q4 := hSw.cell0 (blkc HB2.out 4 _ rfl)
    go_simp
    try with_reducible rfl
  try simp only [Act.put, List.setIfInBounds_toArray, List.set_cons_zero, List.set_cons_succ, List.getElem_toArray, List.getElem_cons_succ, List.getElem_cons_zero]
  refine wpAnyH_ready (rs := [6]) (by kernel_rfl) (by simp) ?_
  refine AllReadyH.cons rfl (fun K hK => ?_) AllReadyH.nil
  go_simp
  refine (HCn.out _).mono ?_
  rintro e w3 ⟨rfl, rfl⟩
  refine hK.out _ _ (hHeld) (fun hHeld2 => ?_)
  clear hK K hHeld
  rename_i hHeld2
  have hHeld := hHeld2
  clear hHeld2
  try simp only [Act.put, List.setIfInBounds_toArray, List.set_cons_zero, List.set_cons_succ, List.getElem_toArray, List.getElem_cons_succ, List.getElem_cons_zero]
  refine wpAnyH_take (i := 7) (v := ?_) rfl (by kernel_rfl) (by kernel_rfl) (by kernel_rfl) (fun _ _ _ h => h) (Or.inl ⟨by rfl, ?_⟩) (by assumption) ?_
  rotate_left
  · intro w' hSw
    go_simp
    try with_reducible rfl
  try simp only [Act.put, List.setIfInBounds_toArray, List.set_cons_zero, List.set_cons_succ, List.getElem_toArray, List.getElem_cons_succ, List.getElem_cons_zero]
  refine wpAnyH_ready (rs := [8]) (by kernel_rfl) (by simp) ?_
  refine AllReadyH.cons rfl (fun K hK => ?_) AllReadyH.nil
  go_simp
  refine (HSay2.out).mono ?_
  rintro e w3 ⟨q3, rfl, hb3, hf3⟩
  refine hK.out _ _ (ff0 hHeld hf3) (fun hHeld2 => ?_)
  clear hK K hHeld
  rename_i hHeld2
  have hHeld := hHeld2
  clear hHeld2
  have HF23 := Lib.hid (ff0 (Fr.drew w2 (fun _ => False)) hf3)
  have HB3 := Lib.hid hb3
  clear hf3 hb3
  try simp only [Act.put, List.setIfInBounds_toArray, List.set_cons_zero, List.set_cons_succ, List.getElem_toArray, List.getElem_cons_succ, List.getElem_cons_zero]
  refine wpAnyH_take (i := 9) (v := ?_) rfl (by kernel_rfl) (by kernel_rfl) (by kernel_rfl) (fun _ _ _ h => h) (Or.inl ⟨by rfl, ?_⟩) (by assumption) ?_
  rotate_left
  · intro w' hSw
    go_simp
    try with_reducible rfl
  try simp only [Act.put, List.setIfInBounds_toArray, List.set_cons_zero, List.set_cons_succ, List.getElem_toArray, List.getElem_cons_succ, List.getElem_cons_zero]
  refine wpAnyH_done (by kernel_rfl) ?_ _
  clear hHeld
  have HF3 := Lib.hid (ff0 HF2.out HF23.out)
  have HR3 := Lib.hid (HR2.out.keep HF23.out)
  have HX3 := Lib.hid (HF23.out.blk HB2.out (fun h => h))
  have HK3 := Lib.hid (kept_any (HT.out.kept (ff0 HF3.out (Fr.drew w3 (fun _ => False)))))
  have hwg : w.heap.size ≠ g := by omega
  clear HF23 HB2 HR2 HF2 HSay2 HSay HC HCn
  go_wp2_with fail
  refine wp_region_held_drew (S := fun w' => Fr w3 w' (fun k => k = g)) (by kernel_rfl) (Fr.drew w3 _) (fun hHeld => ?_)
  refine wpAnyH_take (i := 0) (v := ?_) rfl (by kernel_rfl) (by kernel_rfl) (by kernel_rfl) (fun _ _ _ h => h) (Or.inl ⟨by rfl, ?_⟩) (by assumption) ?_
  rotate_left
  · intro w' hSw
    go_simp
    try with_reducible rfl
  try simp only [Act.put, List.setIfInBounds_toArray, List.set_cons_zero, List.set_cons_succ, List.getElem_toArray, List.getElem_cons_zero]
  refine wpAnyH_take (i := 1) (v := ?_) rfl (by kernel_rfl) (by kernel_rfl) (by kernel_rfl) (fun _ _ _ h => h) (Or.inl ⟨by rfl, ?_⟩) (by assumption) ?_
  rotate_left
  · intro w' hSw
    go_simp
    try with_reducible rfl
  try simp only [Act.put, List.setIfInBounds_toArray, List.set_cons_zero, List.set_cons_succ, List.getElem_toArray, List.getElem_cons_succ, List.getElem_cons_zero]
  refine wpAnyH_take (i := 3) (v := ?_) rfl (by kernel_rfl) (by kernel_rfl) (by kernel_rfl) (fun _ _ _ h => h) (Or.inl ⟨by rfl, ?_⟩) (by assumption) ?_
  rotate_left
  · intro w' hSw
    go_simp
    try with_reducible rfl
  try simp only [Act.put, List.setIfInBounds_toArray, List.set_cons_zero, List.set_cons_succ, List.getElem_toArray, List.getElem_cons_succ, List.getElem_cons_zero]
  refine wpAnyH_take (i := 4) (v := ?_) rfl (by kernel_rfl) (by kernel_rfl) (by kernel_rfl) (fun _ _ _ h => h) (Or.inl ⟨by rfl, ?_⟩) (by assumption) ?_
  rotate_left
  · intro w' hSw
    have q0 := cell_far hSw (blkc HX3.out 0 _ rfl) hwg
    go_simp
    try with_reducible rfl
  try simp only [Act.put, List.setIfInBounds_toArray, List.set_cons_zero, List.set_cons_succ, List.getElem_toArray, List.getElem_cons_succ, List.getElem_cons_zero]
  refine wpAnyH_take (i := 5) (v := ?_) rfl (by kernel_rfl) (by kernel_rfl) (by kernel_rfl) (fun _ _ _ h => h) (Or.inl ⟨by rfl, ?_⟩) (by assumption) ?_
  rotate_left
  · intro w' hSw
    go_simp
    try with_reducible rfl
  try simp only [Act.put, List.setIfInBounds_toArray, List.set_cons_zero, List.set_cons_succ, List.getElem_toArray, List.getElem_cons_succ, List.getElem_cons_zero]
  refine wpAnyH_take (i := 6) (v := ?_) rfl (by kernel_rfl) (by kernel_rfl) (by kernel_rfl) (fun _ _ _ h => h) (Or.inl ⟨by rfl, ?_⟩) (by assumption) ?_
  rotate_left
  · intro w' hSw
    have q2 := cell_far hSw (blkc HX3.out 2 _ rfl) hwg
    go_simp
    try with_reducible rfl
  try simp only [Act.put, List.setIfInBounds_toArray, List.set_cons_zero, List.set_cons_succ, List.getElem_toArray, List.getElem_cons_succ, List.getElem_cons_zero]
  refine wpAnyH_take (i := 7) (v := ?_) rfl (by kernel_rfl) (by kernel_rfl) (by kernel_rfl) (fun _ _ _ h => h) (Or.inl ⟨by rfl, ?_⟩) (by assumption) ?_
  rotate_left
  · intro w' hSw
    go_simp
    try with_reducible rfl
  try simp only [Act.put, List.setIfInBounds_toArray, List.set_cons_zero, List.set_cons_succ, List.getElem_toArray, List.getElem_cons_succ, List.getElem_cons_zero]
  refine wpAnyH_take (i := 8) (v := ?_) rfl (by kernel_rfl) (by kernel_rfl) (by kernel_rfl) (fun _ _ _ h => h) (Or.inl ⟨by rfl, ?_⟩) (by assumption) ?_
  rotate_left
  · intro w' hSw
    go_simp
    try with_reducible rfl
  try simp only [Act.put, List.setIfInBounds_toArray, List.set_cons_zero, List.set_cons_succ, List.getElem_toArray, List.getElem_cons_succ, List.getElem_cons_zero]
  refine wpAnyH_ready (rs := [2]) (by kernel_rfl) (by simp) ?_
  refine AllReadyH.cons rfl (fun K hK => ?_) AllReadyH.nil
  go_simp
  refine (HK3.out).mono ?_
  rintro e w4 ⟨b4, rfl, hb4, hf4⟩
  refine hK.out _ _ (hHeld.trans hf4 (fun _ _ h => h) (fun _ _ h => h.elim)) (fun hHeld2 => ?_)
  clear hK K hHeld
  rename_i hHeld2
  have hHeld := hHeld2
  clear hHeld2
  have HF4 := Lib.hid (ff0 (Fr.drew w3 (fun _ => False)) hf4)
  have HP4 := Lib.hid (HPut.out w4 _ _ hb4 (HF4.out.blk HB3.out (fun h => h)))
  clear hf4 hb4
  try simp only [Act.put, List.setIfInBounds_toArray, List.set_cons_zero, List.set_cons_succ, List.getElem_toArray, List.getElem_cons_succ, List.getElem_cons_zero]
  refine wpAnyH_ready (rs := [9]) (by kernel_rfl) (by simp) ?_
  refine AllReadyH.cons rfl (fun K hK => ?_) AllReadyH.nil
  go_simp
  refine (HP4.out).mono ?_
  rintro e w5 ⟨r5, rfl, hb5, hf5⟩
  refine hK.out _ _ (hHeld.trans hf5 (fun _ _ h => h) (fun _ _ h => h.elim)) (fun hHeld2 => ?_)
  clear hK K hHeld
  rename_i hHeld2
  have hHeld := hHeld2
  clear hHeld2
  have HF5 := Lib.hid (ff0 HF4.out hf5)
  have hb5 : Blk w5 r5 71 (saysC t) := by rw [HSA.out] at hb5; exact hb5
  have hFW := ff0 HF3.out HF5.out
  have HG5 := Lib.hid (hFW.blk HB0.out (fun h => h))
  rw [HN.out]
  have HE5 := Lib.hid (show EdS w w5 g t a2 x2 q2 r5 from ⟨HR3.out.keep HF5.out, hb5, hFW.mono (fun _ _ h => h.elim)⟩)
  clear hf5 hb5 hFW
  try simp only [Act.put, List.setIfInBounds_toArray, List.set_cons_zero, List.set_cons_succ, List.getElem_toArray, List.getElem_cons_succ, List.getElem_cons_zero]
  refine wpAnyH_take (i := 10) (v := ?_) rfl (by kernel_rfl) (by kernel_rfl) (by kernel_rfl) (fun _ _ _ h => h) (Or.inl ⟨by rfl, ?_⟩) (by assumption) ?_
  rotate_left
  · intro w' hSw
    go_simp
    try with_reducible rfl
  try simp only [Act.put, List.setIfInBounds_toArray, List.set_cons_zero, List.set_cons_succ, List.getElem_toArray, List.getElem_cons_succ, List.getElem_cons_zero]
  refine wpAnyH_take (i := 11) (v := ?_) rfl (by kernel_rfl) (by kernel_rfl) (by kernel_rfl) (fun _ _ _ h => h) (Or.inl ⟨by rfl, ?_⟩) (by assumption) ?_
  rotate_left
  · intro w' hSw
    go_simp
    try with_reducible rfl
  try simp only [Act.put, List.setIfInBounds_toArray, List.set_cons_zero, List.set_cons_succ, List.getElem_toArray, List.getElem_cons_succ, List.getElem_cons_zero]
  refine wpAnyH_put1 12 _ rfl (by kernel_rfl) (by kernel_rfl) rfl rfl rfl g 1 _ _ (.slice (some ⟨r5, 0, none⟩) (feeds t + 1) (feeds t + 1)) HG5.out (show 1 < 3 by decide) rfl rfl rfl infoLns (fun W hf => hHeld.trans hf (fun _ _ h => h) (fun _ _ h => h)) ?_
  intro w6 hf6 hb6
  have HE6 := Lib.hid (HE5.out.put HG5.out hf6)
  have HG6 := Lib.hid (show Blk w6 g 74 #[vr, .slice (some ⟨r5, 0, none⟩) (feeds t + 1) (feeds t + 1), intV n] from hb6)
  clear hHeld hf6 hb6
  go_wp2_with (first
    | (refine wpList_store_cell 72 _ _ g 0 74 _ #[.pointer a2, .slice (some ⟨r5, 0, none⟩) (feeds t + 1) (feeds t + 1), intV n] (.pointer a2) (by rfl) rfl rfl rfl rfl HG6.out infoPr rfl (show 0 < 3 by decide) rfl ?_
       intro w7 hf7 hb7
       have HE7 := Lib.hid (HE6.out.put HG6.out hf7)
       have HG7 := Lib.hid hb7
       clear hf7 hb7)
    | (refine wpList_store_cell 3 _ _ g 2 74 _ #[.pointer a2, .slice (some ⟨r5, 0, none⟩) (feeds t + 1) (feeds t + 1), intV m] (intV m) (by rfl) rfl rfl rfl rfl HG7.out infoIn rfl (show 2 < 3 by decide) rfl ?_
       intro w8 hf8 hb8
       have HE8 := Lib.hid (HE7.out.put HG7.out hf8)
       have HG8 := Lib.hid hb8
       clear hf8 hb8))
  go_ret
  refine ⟨rfl, ⟨HFT.out, _, _, _, _, ?_, HE8.out.ro, .inr ⟨r5, rfl, HE8.out.ls⟩⟩, HE8.out.fr⟩
  have e : ((m : Nat) : Int) = (feeds s : Int) + 1 := by have := Hm.out; omega
  have := HG8.out
  rw [e] at this
  exact this
end Go.Proofs.YtodcnbejnchmhaaGreatDoor
namespace Go.Proofs.YtodcnbejnchmhaaGreatDoor
open Go.Rope hiding Bs
open Go.RowKit Go.Mem Go.Lin Go.Dcm

/-- what Lines answers -/
def LinesR (w : World) (L : List LineL) (e : Ending) (w' : World) : Prop := ∃ A c, e = .returned (.slice A L.length c) ∧ LinesAt w' A L ∧ Fr w w' (fun _ => False)
set_option maxRecDepth 100000 in
theorem lclone_any {w : World} {b : Nat} (L : List LineL) (hb : Blk w b 71 (L.flatMap lineL).toArray) (hn : L.length ≤ 100000) : Calls Tryz.prog 26 #[.slice (some ⟨b, 0, none⟩) L.length L.length] w (LinesR w L) := by
  have hq := eql_lines
  have hR := lines_blk hb
  obtain ⟨i0, hi0, hz0, hz1, hz2⟩ := info_parts infoLine
  have hf := Fr.new w (.cells #[] 71) (fun _ => False)
  have hR2 := Rd.fr hR hf (fun _ _ _ _ h => h)
  have hone := flat_one L
  obtain ⟨cs, hcs⟩ : ∃ cs, L.flatMap lineL = cs := ⟨_, rfl⟩
  obtain ⟨n, hnL⟩ : ∃ n, L.length = n := ⟨_, rfl⟩
  have HL := Lib.hid (And.intro hcs hnL)
  unfold LinesR LinesAt
  rw [hcs] at hR2 hone
  rw [hnL] at hR2 hn
  simp only [hcs, hnL]
  have HR := Lib.hid hR2
  have HO := Lib.hid hone
  have HF := Lib.hid hf
  clear hb hR hR2 hone hcs hnL hf
  go_enter Tryz.func26, Tryz.ntmps26
  go_wp2_with (at_builtin
               refine wpList_append_rd _ rfl _ _ 31 rfl w.heap.size 71 i0 _ 29 280 Tryz.underlying31 hi0 hz0 hz1 hz2 rfl (by decide) _ 0 [] rfl (World.ownsRow_made w #[] 0 (Nat.le_refl _) (Nat.zero_le _) (by simp)) (some ⟨b, 0, none⟩) n n cs rfl HR.out HO.out (by simp only [maxLen]; omega) (by omega) HF.out.size ?_
               intro v5 w5 ho5 hg5 _
               have HO5 := Lib.hid ho5
               have HG5 := Lib.hid hg5
               clear ho5 hg5)
  go_ret
  obtain ⟨A, c, rfl, -, -, hr, -⟩ := own_rd HO5.out
  rw [Nat.zero_add, List.nil_append] at hr
  refine ⟨A, c, by simp only [Nat.zero_add]; rfl, hr, ?_⟩
  have := Fr.ofGrown HG5.out
  exact HF.out.fresh this (fun i e => by have e : some i = some w.heap.size := e; injection e with e; omega)
theorem tLines_any {w : World} {g : Nat} {l : Bs} {n : Int} (h : TabAt w g l n) : Calls Tryz.prog 14 #[pT g] w (LinesR w (saysD l)) := by
  have HK := Lib.hid (kept_any h)
  have hlen := says_len l
  have hfit := h.fits.2
  have HC := Lib.hid (fun (W : World) (b : Nat) (hb : Blk W b 71 (saysC l)) => lclone_any (w := W) (saysD l) hb (by omega))
  rw [hlen] at HC
  clear h hlen
  go_enter Tryz.func14, Tryz.ntmps14
  go_wp2_with fail
  refine HK.out.mono ?_
  rintro e w2 ⟨b, rfl, hb, hf2⟩
  have HC2 := Lib.hid (HC.out w2 b hb)
  have HF2 := Lib.hid hf2
  clear hb hf2
  go_wp2_with fail
  refine HC2.out.mono ?_
  rintro e w3 ⟨A, c, rfl, hl, hf3⟩
  have HL := Lib.hid hl
  have HF3 := Lib.hid (ff0 HF2.out hf3)
  clear hl hf3
  go_wp2_with fail
  go_ret
  exact ⟨A, c, rfl, HL.out, HF3.out⟩
theorem tText_any {w : World} {g : Nat} {l : Bs} {n : Int} (h : TabAt w g l n) : Calls Tryz.prog 19 #[pT g] w fun e w' => e = .returned (strV l) ∧ Fr w w' (fun _ => False) := by
  obtain ⟨vr, vl, x, k, h1, h2, h3⟩ := h.ex
  have hne := fun w => eq_nil_tab w g
  have c0 := blkc h1 0 _ rfl
  have HT := Lib.hid (S3.Text_any h2 h.fits.1)
  obtain ⟨a, rfl⟩ := rope_addr h2
  clear h h1 h2 h3
  go_enter Tryz.func19, Tryz.ntmps19
  go_wp2_with fail
  refine HT.out.mono ?_
  rintro e w2 ⟨rfl, hf2⟩
  have HF2 := Lib.hid hf2
  clear hf2
  go_wp2_with fail
  go_ret
  exact ⟨rfl, HF2.out⟩
theorem tRead_any {w : World} {g : Nat} {l : Bs} {n : Int} (h : TabAt w g l n) : Calls Tryz.prog 20 #[pT g] w fun e w' => e = .returned (intV n) ∧ w' = w := by
  obtain ⟨vr, vl, x, k, h1, h2, h3⟩ := h.ex
  have hne := fun w => eq_nil_tab w g
  have c2 := blkc h1 2 _ rfl
  clear h h1 h2 h3
  go_enter Tryz.func20, Tryz.ntmps20
  go_wp2_with fail
  go_ret
  exact ⟨rfl, rfl⟩
/-- what New leaves -/
def NewR (w : World) (s : Bs) (e : Ending) (w' : World) : Prop := Fr w w' (fun _ => False) ∧ ((Fits s ∧ ∃ g, e = .returned (.tuple #[pT g, intV 0]) ∧ w.heap.size ≤ g ∧ TabAt w' g s ((feeds s : Int) + 1)) ∨ (¬ Fits s ∧ e = .returned (.tuple #[.pointer none, intV 17])))
theorem tEdit_any {w : World} {g : Nat} {l : Bs} {n : Int} (h : TabAt w g l n) (hw : LOk w) (e : EdL) (hz : e.s.length ≤ 20100) : Calls Tryz.prog 17 #[pT g, edV e] w (EditR w g l n e) := by
  cases ed_way l e with
  | no1 h1 hd => exact tEdit_bad h e hz 2 (by rw [hd]) rfl
  | no2 a h1 h2 hd => exact tEdit_bad h e hz 2 (by rw [hd]) rfl
  | back a b h1 h2 h3 hd => exact tEdit_bad h e hz 2 (by rw [hd]) rfl
  | large a b h1 h2 h3 hd => exact tEdit_bad h e hz 17 (by rw [hd]) rfl
  | many a b t h1 h2 h3 ht hm hd => exact tEdit_bad h e hz 17 (by rw [hd]) rfl
  | ok i j a b t hi hj h1 h2 h3 ht hm hd hs hab hij hc => exact tEdit_ok h hw e hz i j a b t hi hj ht hm hd hs hij hc
theorem tNew_any (s : Bs) (w : World) (hw : LOk w) (hz : s.length ≤ 20100) : Calls Tryz.prog 11 #[strV s] w (NewR w s) := by
  have hnew := Fr.new w (.cells #[.pointer none, .slice none 0 0, intV 0] 74) (fun _ => False)
  have HE := Lib.hid (tEdit_any (tab_zero w) (hw.fr hnew) (wholeE s) hz)
  have HF := Lib.hid hnew
  unfold NewR
  unfold EditR readD at HE
  rw [edit_whole] at HE
  by_cases hf : Fits s
  · rw [if_pos hf] at HE
    simp only [if_true] at HE
    have hs : (wholeE s).s = s := rfl
    rw [hs] at HE
    have HFt := Lib.hid hf
    clear hw hnew hf hs
    unfold edV edC wholeE at HE
    go_enter Tryz.func11, Tryz.ntmps11
    go_wp2_with fail
    refine HE.out.mono ?_
    rintro e w2 ⟨rfl, ht, hf2⟩
    have HT := Lib.hid ht
    have HF2 := Lib.hid (HF.out.fresh hf2 (fun i e => by have e : i = w.heap.size := e; omega))
    clear ht hf2
    go_wp2_with fail
    go_ret2
    exact ⟨HF2.out, .inl ⟨HFt.out, _, rfl, Nat.le_refl _, HT.out⟩⟩
  · rw [if_neg hf] at HE
    have HFt := Lib.hid hf
    clear hw hnew hf
    unfold edV edC wholeE at HE
    go_enter Tryz.func11, Tryz.ntmps11
    go_wp2_with fail
    refine HE.out.mono ?_
    rintro e w2 ⟨rfl, ht, hf2⟩
    have HF2 := Lib.hid (HF.out.fresh hf2 (fun i e => by have e : i = w.heap.size := e; omega))
    clear ht hf2
    go_wp2_with fail
    go_ret2
    exact ⟨HF2.out, .inr ⟨HFt.out, rfl⟩⟩
end Go.Proofs.YtodcnbejnchmhaaGreatDoor
namespace Go.Mem
open Go.RowKit
section
variable {P : Program} {ops : Array Oper} {rest : List Oper} {o : Oper} {a : Act} {w : World} {Q : Exit → Act → World → Prop}
/-- two structs are told apart: in a region that draws its order, and in a plain one -/
theorem yields_neq {S : World → Prop} {t : TypeId} {x y : Operand} {z : TypeId} {cs ds : Array Value} {b : Bool} (hgd : Region.wanted o (yielded ops a.tmps) = true) (ho : o.op = .binOp .neq t x y z) (hx : a.eval x = .agg cs) (hy : a.eval y = .agg ds)
    (hg : ∀ w, (eqGuard .neq t x y (.agg cs) (.agg ds)).run P w = .ok () w) (h : ∀ w, (binOp .neq t (.agg cs) (.agg ds)).run P w = .ok (.bool b) w) : YieldsIf P ops S o (.bool b) a :=
  .inl ⟨hgd, fun w _ => by
    unfold execOp
    simp only [ho, hx, hy, Sem.run_bind, hg, h, Result.andThen_ok, Sem.run_pure]⟩
end
end Go.Mem
namespace Go.Proofs.YtodcnbejnchmhaaGreatDoor
open Go.RowKit Go.Mem Go.Lin Go.Dcm
theorem guard_era (x y : Operand) (cs ds : Array Value) : ∀ w, (eqGuard .neq 69 x y (.agg cs) (.agg ds)).run Tryz.prog w = .ok () w := fun _ => by kernel_rfl
theorem same_era (r : EraL) : ∀ w, (binOp .neq 69 (.agg (eraC r)) (.agg (eraC r))).run Tryz.prog w = .ok (.bool false) w := fun w => by rw [neq_era]; simp
end Go.Proofs.YtodcnbejnchmhaaGreatDoor
