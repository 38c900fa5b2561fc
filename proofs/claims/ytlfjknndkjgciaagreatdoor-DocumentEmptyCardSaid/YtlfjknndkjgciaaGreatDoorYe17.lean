import Derived.Test.YtlfjknndkjgciaaGreatDoorYe16
import Derived.Great.BuildSlice
namespace Go.Proofs.YtlfjknndkjgciaaGreatDoor
open Go.RowKit Go.Mem Go.Lin Go.Dcm

theorem info_r : (Tryz.prog.info? 33).map (·.size) = some 1 := by kernel_rfl
theorem info_z : (Tryz.prog.info? 34).map (·.size) = some 1 := by kernel_rfl
theorem info_l : (Tryz.prog.info? 35).map (·.size) = some 1 := by kernel_rfl
theorem size_parts {s : StL} (h : size s ≤ 100000) : s.rules.length ≤ 100000 ∧ s.zones.length ≤ 100000 ∧ s.links.length ≤ 100000 ∧ s.diags.length ≤ 100000 := by
  unfold size at h
  omega
theorem brk_parts (s : StL) (i : Int) : (brk s i).rules = s.rules ∧ (brk s i).links = s.links := by
  unfold brk
  split <;> exact ⟨rfl, rfl⟩
/-- a row of one element is made -/
theorem wp_built {P : Program} {o : Oper} {a : Act} {w : World} {K : Act → World → Prop} {Q : Exit → Act → World → Prop} {t e : TypeId} {y : Operand} {v : Value} {cs : Array Value} (ho : o.op = .buildSlice t 1 #[(0, y)]) (hy : a.eval y = v)
    (h : ∀ w, (Instr.buildSlice t 1 #[(0, v)]).run P w = .ok (.slice (some ⟨w.heap.size, 0, none⟩) 1 1) (w.alloc (.cells cs e))) (hK : K (a.put o.dst (.slice (some ⟨w.heap.size, 0, none⟩) 1 1)) (w.alloc (.cells cs e))) : o.wp P a w K Q := by
  unfold Oper.wp execOp
  simp only [ho, Sem.run_bind, List.map_toArray, List.map_cons, List.map_nil, hy, h, Result.andThen_ok]
  exact hK
/-- a cell is read, or written -/
theorem wp_load1 {P : Program} {o : Oper} {a : Act} {w : World} {K : Act → World → Prop} {Q : Exit → Act → World → Prop} {ty : TypeId} {x : Operand} {A : Addr} {v : Value} {d : TypeDesc} (ho : o.op = .load ty x) (hx : a.eval x = .pointer (some A)) (hc : w.cell? A = some v)
    (hu : P.underlying ty = some d) (hd : d.isRow = false) (hK : K (a.put o.dst v) w) : o.wp P a w K Q := by
  have hl : (loadVar ty A).run P w = .ok v w := by
    unfold loadVar isAgg
    cases d <;> first | (simp [TypeDesc.isRow] at hd; done) | simp [run_underlying hu, hc]
  unfold Oper.wp execOp
  simp only [ho, hx, Instr.loadAt, Instr.sureAddr, Sem.run_bind, Sem.run_pure, Result.andThen_ok, hl]
  exact hK
theorem wp_store1 {P : Program} {o : Oper} {a : Act} {w : World} {K : Act → World → Prop} {Q : Exit → Act → World → Prop} {ty t : TypeId} {x y : Operand} {g off : Nat} {old : Array Value} {v : Value} (ho : o.op = .store ty x y) (hd : o.dst = none) (hx : a.eval x = .pointer (some ⟨g, off, none⟩)) (hy : a.eval y = v) (hg : Blk w g t old)
    (hi : (P.info? ty).map (·.size) = some 1) (h1 : v.oneCell' = true) (hfit : off < old.size) (hK : K a (w.setCell ⟨g, off, none⟩ v)) : o.wp P a w K Q := by
  unfold Oper.wp execOp
  simp only [ho, hx, hy, Instr.storeAt, Instr.sureAddr, Sem.run_bind, Sem.run_pure, Result.andThen_ok, run_storeVar_cell w g off t ty old v hg hi h1 hfit]
  simpa only [Oper.upon, hd, Act.put] using hK
/-- what a region's loads want of the world -/
def HS (g q : Nat) (i : Int) (x : LineL) (w : World) : Prop := w.cell? ⟨g, 4, none⟩ = some (intV i) ∧ Blk w q 58 (lineC x)
theorem keep {g q : Nat} {i : Int} {x : LineL} {w w' : World} (hf : Fr w w' (fun _ => False)) (h : HS g q i x w) : HS g q i x w' := ⟨cell_far hf h.1 (fun h => h), hf.blk h.2 (fun h => h)⟩
theorem ff0 {a c d : World} (h : Fr a c (fun _ => False)) (h2 : Fr c d (fun _ => False)) : Fr a d (fun _ => False) := h.trans h2 (fun _ _ h => h) (fun _ _ h => h)
theorem gx_at {w : World} {g B : Nat} {i : Int} {s : StL} (h : GAt w g B i s) {q : Nat} {cs : Array Value} (hq : Blk w q 58 cs) : ¬ Gx g B w q := by
  obtain ⟨vr, vz, vl, vd, hb, -⟩ := h.open_
  exact gx_line hb hq
set_option maxRecDepth 100000 in
set_option maxHeartbeats 3200000 in
theorem grule_any (w : World) (g B : Nat) (i : Int) (s : StL) (h : GAt w g B i s) (hs : size s ≤ 100000) (x : LineL) : Calls Tryz.prog 32 #[gP g, lineV x] w (GPost w g B i (ruleD s i x)) := by
  have hlt := h.lt
  have hn := Fr.new w (.cells (lineC x) 58) (fun _ => False)
  have hd := size_parts hs
  have HT := Lib.hid (break_any _ g B i s (h.kept hn) (by omega))
  have HN := Lib.hid hn
  have HG := Lib.hid (h.kept hn)
  have HQ := Lib.hid (Blk.made w 58 (lineC x))
  obtain ⟨i0, hi0, hz0, hz1, hz2⟩ := info_parts infoDrule
  clear h hn hd
  go_enter Tryz.func32, Tryz.ntmps32
  go_wp2_with fail
  refine HT.out.mono ?_
  rintro e w2 ⟨rfl, hg2, hf2⟩
  obtain ⟨vr, vz, vl, vd, hb, hr⟩ := hg2.open_
  have HQ2 := Lib.hid (hf2.blk HQ.out (gx_at HG.out HQ.out))
  have HB := Lib.hid hb
  have HR := Lib.hid hr
  have HF2 := Lib.hid (gx_new HN.out hf2)
  clear hb hr hg2 hf2
  obtain ⟨A, cap, rfl⟩ := HR.out.r.slice
  have HO := Lib.hid (show (brk s i).rules = s.rules from (brk_parts s i).1)
  have hsz : s.rules.length ≤ 100000 := (size_parts hs).1
  have H1 := Lib.hid (one_made (cs := (ruleL (x.rule, i)).toArray) (by simp [ruleL, ruleC, Value.oneCell']))
  have HBW := Lib.hid ((Fr.drew w2 (fun _ => False)).blk HB.out (fun h => h))
  go_wp2_with fail
  refine wp_region_held_drew (S := HS g w.heap.size i x) (by kernel_rfl) (⟨blkc ((Fr.drew w2 (fun _ => False)).blk HB.out (fun h => h)) 4 _ rfl, (Fr.drew w2 (fun _ => False)).blk HQ2.out (fun h => h)⟩) (fun hHeld => ?_)
  refine wpAnyH_take (i := 0) (v := ?_) rfl (by kernel_rfl) (by kernel_rfl) (by kernel_rfl) (fun _ _ _ h => h) (Or.inl ⟨by rfl, ?_⟩) (by assumption) ?_
  rotate_left
  · intro w' hSw
    have k4 := hSw.1
    go_simp
    try with_reducible rfl
  try simp only [Act.put, List.setIfInBounds_toArray, List.set_cons_zero, List.set_cons_succ, List.getElem_toArray, List.getElem_cons_zero]
  refine wpAnyH_take (i := 1) (v := ?_) rfl (by kernel_rfl) (by kernel_rfl) (by kernel_rfl) (fun _ _ _ h => h) (Or.inl ⟨by rfl, ?_⟩) (by assumption) ?_
  rotate_left
  · intro w' hSw
    have k4 := hSw.1
    go_simp
    try with_reducible rfl
  try simp only [Act.put, List.setIfInBounds_toArray, List.set_cons_zero, List.set_cons_succ, List.getElem_toArray, List.getElem_cons_succ, List.getElem_cons_zero]
  refine wpAnyH_take (i := 2) (v := ?_) rfl (by kernel_rfl) (by kernel_rfl) (by kernel_rfl) (fun _ _ _ h => h) (Or.inl ⟨by rfl, ?_⟩) (by assumption) ?_
  rotate_left
  · intro w' hSw
    have k4 := hSw.1
    go_simp
    try with_reducible rfl
  try simp only [Act.put, List.setIfInBounds_toArray, List.set_cons_zero, List.set_cons_succ, List.getElem_toArray, List.getElem_cons_succ, List.getElem_cons_zero]
  refine wpAnyH_take (i := 3) (v := ?_) rfl (by kernel_rfl) (by kernel_rfl) (by kernel_rfl) (fun _ _ _ h => h) (Or.inl ⟨by rfl, ?_⟩) (by assumption) ?_
  rotate_left
  · intro w' hSw
    have k4 := hSw.1
    go_simp
    try with_reducible rfl
  try simp only [Act.put, List.setIfInBounds_toArray, List.set_cons_zero, List.set_cons_succ, List.getElem_toArray, List.getElem_cons_succ, List.getElem_cons_zero]
  refine wpAnyH_take (i := 4) (v := ?_) rfl (by kernel_rfl) (by kernel_rfl) (by kernel_rfl) (fun _ _ _ h => h) (Or.inl ⟨by rfl, ?_⟩) (by assumption) ?_
  rotate_left
  · intro w' hSw
    have k4 := hSw.1
    go_simp
    try with_reducible rfl
  try simp only [Act.put, List.setIfInBounds_toArray, List.set_cons_zero, List.set_cons_succ, List.getElem_toArray, List.getElem_cons_succ, List.getElem_cons_zero]
  refine wpAnyH_take (i := 6) (v := ?_) rfl (by kernel_rfl) (by kernel_rfl) (by kernel_rfl) (fun _ _ _ h => h) (Or.inl ⟨by rfl, ?_⟩) (by assumption) ?_
  rotate_left
  · intro w' hSw
    have k4 := hSw.1
    go_simp
    try with_reducible rfl
  try simp only [Act.put, List.setIfInBounds_toArray, List.set_cons_zero, List.set_cons_succ, List.getElem_toArray, List.getElem_cons_succ, List.getElem_cons_zero]
  refine wpAnyH_take (i := 7) (v := _) rfl (by kernel_rfl) (by kernel_rfl) (by kernel_rfl) (fun _ _ _ h => h) (yields_blk 51 _ w.heap.size 1 58 (lineC x) (ruleC x.rule) _ (by rfl) rfl rfl (fun _ h => h.2) Tryz.underlying51 rfl (infoR _) (part_rule _)) (by assumption) ?_
  try simp only [Act.put, List.setIfInBounds_toArray, List.set_cons_zero, List.set_cons_succ, List.getElem_toArray, List.getElem_cons_succ, List.getElem_cons_zero]
  refine wpAnyH_take (i := 8) (v := ?_) rfl (by kernel_rfl) (by kernel_rfl) (by kernel_rfl) (fun _ _ _ h => h) (Or.inl ⟨by rfl, ?_⟩) (by assumption) ?_
  rotate_left
  · intro w' hSw
    have k4 := hSw.1
    go_simp
    try with_reducible rfl
  try simp only [Act.put, List.setIfInBounds_toArray, List.set_cons_zero, List.set_cons_succ, List.getElem_toArray, List.getElem_cons_succ, List.getElem_cons_zero]
  refine wpAnyH_take (i := 9) (v := ?_) rfl (by kernel_rfl) (by kernel_rfl) (by kernel_rfl) (fun _ _ _ h => h) (Or.inl ⟨by rfl, ?_⟩) (by assumption) ?_
  rotate_left
  · intro w' hSw
    have k4 := hSw.1
    go_simp
    try with_reducible rfl
  try simp only [Act.put, List.setIfInBounds_toArray, List.set_cons_zero, List.set_cons_succ, List.getElem_toArray, List.getElem_cons_succ, List.getElem_cons_zero]
  refine wpAnyH_take (i := 10) (v := ?_) rfl (by kernel_rfl) (by kernel_rfl) (by kernel_rfl) (fun _ _ _ h => h) (Or.inl ⟨by rfl, ?_⟩) (by assumption) ?_
  rotate_left
  · intro w' hSw
    have k4 := hSw.1
    go_simp
    try with_reducible rfl
  try simp only [Act.put, List.setIfInBounds_toArray, List.set_cons_zero, List.set_cons_succ, List.getElem_toArray, List.getElem_cons_succ, List.getElem_cons_zero]
  refine wpAnyH_take (i := 11) (v := ?_) rfl (by kernel_rfl) (by kernel_rfl) (by kernel_rfl) (fun _ _ _ h => h) (Or.inl ⟨by rfl, ?_⟩) (by assumption) ?_
  rotate_left
  · intro w' hSw
    have k4 := hSw.1
    go_simp
    try with_reducible rfl
  try simp only [Act.put, List.setIfInBounds_toArray, List.set_cons_zero, List.set_cons_succ, List.getElem_toArray, List.getElem_cons_succ, List.getElem_cons_zero]
  refine wpAnyH_take (i := 12) (v := _) rfl (by kernel_rfl) (by kernel_rfl) (by kernel_rfl) (fun _ _ _ h => h) ((Or.inl ⟨by rfl, fun w' _ => by kernel_rfl⟩ : YieldsIf _ _ _ _ (.agg (ruleL (x.rule, i)).toArray) _)) (by assumption) ?_
  try simp only [Act.put, List.setIfInBounds_toArray, List.set_cons_zero, List.set_cons_succ, List.getElem_toArray, List.getElem_cons_succ, List.getElem_cons_zero]
  refine wpAnyH_ready (rs := [5, 13]) (by kernel_rfl) (by simp) ?_
  refine AllReadyH.cons rfl (fun K hK => ?_) (AllReadyH.cons rfl (fun K hK => ?_) AllReadyH.nil)
  ·
    rw [if_pos (by rfl)]
    refine wp_load1 rfl (by rfl) (blkc HBW.out 0 _ rfl) Tryz.underlying33 rfl ?_
    refine hK.out _ _ hHeld (fun hH2 => ?_)
    clear hK K
    try simp only [Act.put, List.setIfInBounds_toArray, List.set_cons_zero, List.set_cons_succ, List.getElem_toArray, List.getElem_cons_succ, List.getElem_cons_zero]
    refine wpAnyH_ready (rs := [13]) (by kernel_rfl) (by simp) ?_
    refine AllReadyH.cons rfl (fun K hK => ?_) AllReadyH.nil
    rw [if_pos (by rfl)]
    refine wp_built (e := 72) (cs := (ruleL (x.rule, i)).toArray) rfl (by rfl) (fun _ => by kernel_rfl) ?_
    have hfn := Fr.new w2.drew (.cells (ruleL (x.rule, i)).toArray 72) (fun _ => False)
    refine hK.out _ _ (keep hfn hH2) (fun hH3 => ?_)
    clear hK K
    try simp only [Act.put, List.setIfInBounds_toArray, List.set_cons_zero, List.set_cons_succ, List.getElem_toArray, List.getElem_cons_succ, List.getElem_cons_zero]
    have hr2 := (HR.out.kept (Fr.drew w2 (fun _ => False))).kept hfn
    have hbA := hfn.blk HBW.out (fun h => h)
    have hx := rd_made w2.drew 72 (ruleL (x.rule, i)).toArray
    refine wpAnyH_ready (rs := [14]) (by kernel_rfl) (by simp) ?_
    refine AllReadyH.cons rfl (fun K hK => ?_) AllReadyH.nil
    rw [if_pos (by rfl)]
    refine wp_append_rd _ (.tmp 11) (.tmp 19) 33 rfl B 72 i0 _ 12 112 Tryz.underlying33 hi0 hz0 hz1 hz2 rfl (by decide) _ _ _ rfl hr2.r _ 1 1 (ruleL (x.rule, i)).toArray.toList rfl hx H1.out (by have h : (brk s i).rules.length = s.rules.length := congrArg List.length HO.out; simp only [maxLen]; omega) (by have h : (brk s i).rules.length = s.rules.length := congrArg List.length HO.out; omega) hr2.base ?_
    intro v9 w9 hown9 hg9 _
    obtain ⟨A9, cap9, rfl⟩ := Go.Mem.own_slice hown9
    have hf9 := tb_own hr2.r (Fr.ofGrown hg9)
    have hb9 := (Fr.ofGrown hg9).blk hbA (fun e => by have := (own_block hr2.r e.symm).1; omega)
    have hq9 := (tb_gx (g := g) hf9 (by decide)).blk hH3.2 (gx_line hbA hH3.2)
    have c9 := blkc hb9 0 _ rfl
    have f9 := free_at hb9 0
    have HO9 := Lib.hid (own_more (x := (x.rule, i)) hown9 rfl)
    refine hK.out _ _ ⟨blkc hb9 4 _ rfl, hq9⟩ (fun hH9 => ?_)
    clear hK K hx hown9
    try simp only [Act.put, List.setIfInBounds_toArray, List.set_cons_zero, List.set_cons_succ, List.getElem_toArray, List.getElem_cons_succ, List.getElem_cons_zero]
    refine wpAnyH_take (i := 15) (v := ?_) rfl (by kernel_rfl) (by kernel_rfl) (by kernel_rfl) (fun _ _ _ h => h) (Or.inl ⟨by rfl, ?_⟩) (by assumption) ?_
    rotate_left
    · intro w' hSw
      skip
      go_simp
      try with_reducible rfl
    try simp only [Act.put, List.setIfInBounds_toArray, List.set_cons_zero, List.set_cons_succ, List.getElem_toArray, List.getElem_cons_succ, List.getElem_cons_zero]
    refine wpAnyH_take (i := 16) (v := ?_) rfl (by kernel_rfl) (by kernel_rfl) (by kernel_rfl) (fun _ _ _ h => h) (Or.inl ⟨by rfl, ?_⟩) (by assumption) ?_
    rotate_left
    · intro w' hSw
      skip
      go_simp
      try with_reducible rfl
    try simp only [Act.put, List.setIfInBounds_toArray, List.set_cons_zero, List.set_cons_succ, List.getElem_toArray, List.getElem_cons_succ, List.getElem_cons_zero]
    refine wpAnyH_take (i := 17) (v := ?_) rfl (by kernel_rfl) (by kernel_rfl) (by kernel_rfl) (fun _ _ _ h => h) (Or.inl ⟨by rfl, ?_⟩) (by assumption) ?_
    rotate_left
    · intro w' hSw
      skip
      go_simp
      try with_reducible rfl
    try simp only [Act.put, List.setIfInBounds_toArray, List.set_cons_zero, List.set_cons_succ, List.getElem_toArray, List.getElem_cons_succ, List.getElem_cons_zero]
    refine wpAnyH_ready (rs := [18]) (by kernel_rfl) (by simp) ?_
    refine AllReadyH.cons rfl (fun K hK => ?_) AllReadyH.nil
    rw [if_pos (by rfl)]
    refine wp_store1 (v := .slice A9 ((brk s i).rules.length + 1) cap9) rfl rfl (by rfl) (by rfl) hb9 info_r rfl (show 0 < 6 by decide) ?_
    have hS := Fr.set (w := w9) (a := ⟨g, 0, none⟩) (v := .slice A9 ((brk s i).rules.length + 1) cap9) (S := fun i => i = g) rfl
    refine hK.out _ _ ⟨(World.cell?_setCell_other _ _ _ _ (by simp)).trans (blkc hb9 4 _ rfl), hS.blk hq9 (fun e => absurd (blk_same hq9 (e ▸ hb9)) (by decide))⟩ (fun _ => ?_)
    clear hK K
    refine wpAnyH_done (by kernel_rfl) ?_ _
    go_wp2_with fail
    go_end0
    exact ⟨rfl, gat_put hlt hb9 rfl ⟨(by show Own w9 B _ _ _ _ (s.rules ++ [(x.rule, i)]); rw [← HO.out]; exact HO9.out), Go.Proofs.YtlfjknndkjgciaaGreatDoor.zs_tb hr2.z hf9 (by decide) (by decide) (by decide), far_tb hr2.l hf9 (by decide), far_tb hr2.d hf9 (by decide)⟩, gx_put (gx_trans HF2.out (gx_none (Fr.drew w2 _) |> fun h => gx_trans h (gx_new hfn (tb_gx hf9 (by decide)))))⟩
  ·
    rw [if_pos (by rfl)]
    refine wp_built (e := 72) (cs := (ruleL (x.rule, i)).toArray) rfl (by rfl) (fun _ => by kernel_rfl) ?_
    have hfn := Fr.new w2.drew (.cells (ruleL (x.rule, i)).toArray 72) (fun _ => False)
    refine hK.out _ _ (keep hfn hHeld) (fun hH2 => ?_)
    clear hK K
    try simp only [Act.put, List.setIfInBounds_toArray, List.set_cons_zero, List.set_cons_succ, List.getElem_toArray, List.getElem_cons_succ, List.getElem_cons_zero]
    have HBW2 := Lib.hid (hfn.blk HBW.out (fun h => h))
    refine wpAnyH_ready (rs := [5]) (by kernel_rfl) (by simp) ?_
    refine AllReadyH.cons rfl (fun K hK => ?_) AllReadyH.nil
    rw [if_pos (by rfl)]
    refine wp_load1 rfl (by rfl) (blkc HBW2.out 0 _ rfl) Tryz.underlying33 rfl ?_
    refine hK.out _ _ hH2 (fun hH3 => ?_)
    clear hK K
    try simp only [Act.put, List.setIfInBounds_toArray, List.set_cons_zero, List.set_cons_succ, List.getElem_toArray, List.getElem_cons_succ, List.getElem_cons_zero]
    have hr2 := (HR.out.kept (Fr.drew w2 (fun _ => False))).kept hfn
    have hbA := hfn.blk HBW.out (fun h => h)
    have hx := rd_made w2.drew 72 (ruleL (x.rule, i)).toArray
    refine wpAnyH_ready (rs := [14]) (by kernel_rfl) (by simp) ?_
    refine AllReadyH.cons rfl (fun K hK => ?_) AllReadyH.nil
    rw [if_pos (by rfl)]
    refine wp_append_rd _ (.tmp 11) (.tmp 19) 33 rfl B 72 i0 _ 12 112 Tryz.underlying33 hi0 hz0 hz1 hz2 rfl (by decide) _ _ _ rfl hr2.r _ 1 1 (ruleL (x.rule, i)).toArray.toList rfl hx H1.out (by have h : (brk s i).rules.length = s.rules.length := congrArg List.length HO.out; simp only [maxLen]; omega) (by have h : (brk s i).rules.length = s.rules.length := congrArg List.length HO.out; omega) hr2.base ?_
    intro v9 w9 hown9 hg9 _
    obtain ⟨A9, cap9, rfl⟩ := Go.Mem.own_slice hown9
    have hf9 := tb_own hr2.r (Fr.ofGrown hg9)
    have hb9 := (Fr.ofGrown hg9).blk hbA (fun e => by have := (own_block hr2.r e.symm).1; omega)
    have hq9 := (tb_gx (g := g) hf9 (by decide)).blk hH3.2 (gx_line hbA hH3.2)
    have c9 := blkc hb9 0 _ rfl
    have f9 := free_at hb9 0
    have HO9 := Lib.hid (own_more (x := (x.rule, i)) hown9 rfl)
    refine hK.out _ _ ⟨blkc hb9 4 _ rfl, hq9⟩ (fun hH9 => ?_)
    clear hK K hx hown9
    try simp only [Act.put, List.setIfInBounds_toArray, List.set_cons_zero, List.set_cons_succ, List.getElem_toArray, List.getElem_cons_succ, List.getElem_cons_zero]
    refine wpAnyH_take (i := 15) (v := ?_) rfl (by kernel_rfl) (by kernel_rfl) (by kernel_rfl) (fun _ _ _ h => h) (Or.inl ⟨by rfl, ?_⟩) (by assumption) ?_
    rotate_left
    · intro w' hSw
      skip
      go_simp
      try with_reducible rfl
    try simp only [Act.put, List.setIfInBounds_toArray, List.set_cons_zero, List.set_cons_succ, List.getElem_toArray, List.getElem_cons_succ, List.getElem_cons_zero]
    refine wpAnyH_take (i := 16) (v := ?_) rfl (by kernel_rfl) (by kernel_rfl) (by kernel_rfl) (fun _ _ _ h => h) (Or.inl ⟨by rfl, ?_⟩) (by assumption) ?_
    rotate_left
    · intro w' hSw
      skip
      go_simp
      try with_reducible rfl
    try simp only [Act.put, List.setIfInBounds_toArray, List.set_cons_zero, List.set_cons_succ, List.getElem_toArray, List.getElem_cons_succ, List.getElem_cons_zero]
    refine wpAnyH_take (i := 17) (v := ?_) rfl (by kernel_rfl) (by kernel_rfl) (by kernel_rfl) (fun _ _ _ h => h) (Or.inl ⟨by rfl, ?_⟩) (by assumption) ?_
    rotate_left
    · intro w' hSw
      skip
      go_simp
      try with_reducible rfl
    try simp only [Act.put, List.setIfInBounds_toArray, List.set_cons_zero, List.set_cons_succ, List.getElem_toArray, List.getElem_cons_succ, List.getElem_cons_zero]
    refine wpAnyH_ready (rs := [18]) (by kernel_rfl) (by simp) ?_
    refine AllReadyH.cons rfl (fun K hK => ?_) AllReadyH.nil
    rw [if_pos (by rfl)]
    refine wp_store1 (v := .slice A9 ((brk s i).rules.length + 1) cap9) rfl rfl (by rfl) (by rfl) hb9 info_r rfl (show 0 < 6 by decide) ?_
    have hS := Fr.set (w := w9) (a := ⟨g, 0, none⟩) (v := .slice A9 ((brk s i).rules.length + 1) cap9) (S := fun i => i = g) rfl
    refine hK.out _ _ ⟨(World.cell?_setCell_other _ _ _ _ (by simp)).trans (blkc hb9 4 _ rfl), hS.blk hq9 (fun e => absurd (blk_same hq9 (e ▸ hb9)) (by decide))⟩ (fun _ => ?_)
    clear hK K
    refine wpAnyH_done (by kernel_rfl) ?_ _
    go_wp2_with fail
    go_end0
    exact ⟨rfl, gat_put hlt hb9 rfl ⟨(by show Own w9 B _ _ _ _ (s.rules ++ [(x.rule, i)]); rw [← HO.out]; exact HO9.out), Go.Proofs.YtlfjknndkjgciaaGreatDoor.zs_tb hr2.z hf9 (by decide) (by decide) (by decide), far_tb hr2.l hf9 (by decide), far_tb hr2.d hf9 (by decide)⟩, gx_put (gx_trans HF2.out (gx_none (Fr.drew w2 _) |> fun h => gx_trans h (gx_new hfn (tb_gx hf9 (by decide)))))⟩
set_option maxRecDepth 100000 in
set_option maxHeartbeats 3200000 in
theorem glink_any (w : World) (g B : Nat) (i : Int) (s : StL) (h : GAt w g B i s) (hs : size s ≤ 100000) (x : LineL) : Calls Tryz.prog 35 #[gP g, lineV x] w (GPost w g B i (linkD s i x)) := by
  have hlt := h.lt
  have hn := Fr.new w (.cells (lineC x) 58) (fun _ => False)
  have hd := size_parts hs
  have HT := Lib.hid (break_any _ g B i s (h.kept hn) (by omega))
  have HN := Lib.hid hn
  have HG := Lib.hid (h.kept hn)
  have HQ := Lib.hid (Blk.made w 58 (lineC x))
  obtain ⟨i0, hi0, hz0, hz1, hz2⟩ := info_parts infoDlink
  clear h hn hd
  go_enter Tryz.func35, Tryz.ntmps35
  go_wp2_with fail
  refine HT.out.mono ?_
  rintro e w2 ⟨rfl, hg2, hf2⟩
  obtain ⟨vr, vz, vl, vd, hb, hr⟩ := hg2.open_
  have HQ2 := Lib.hid (hf2.blk HQ.out (gx_at HG.out HQ.out))
  have HB := Lib.hid hb
  have HR := Lib.hid hr
  have HF2 := Lib.hid (gx_new HN.out hf2)
  clear hb hr hg2 hf2
  obtain ⟨A, cap, rfl⟩ := HR.out.l.slice
  have HO := Lib.hid (show (brk s i).links = s.links from (brk_parts s i).2)
  have hsz : s.links.length ≤ 100000 := (size_parts hs).2.2.1
  have H1 := Lib.hid (one_made (cs := (linkL ⟨x.target, x.name, i⟩).toArray) (by simp [linkL, Value.oneCell']))
  have HBW := Lib.hid ((Fr.drew w2 (fun _ => False)).blk HB.out (fun h => h))
  go_wp2_with fail
  refine wp_region_held_drew (S := HS g w.heap.size i x) (by kernel_rfl) (⟨blkc ((Fr.drew w2 (fun _ => False)).blk HB.out (fun h => h)) 4 _ rfl, (Fr.drew w2 (fun _ => False)).blk HQ2.out (fun h => h)⟩) (fun hHeld => ?_)
  refine wpAnyH_take (i := 0) (v := ?_) rfl (by kernel_rfl) (by kernel_rfl) (by kernel_rfl) (fun _ _ _ h => h) (Or.inl ⟨by rfl, ?_⟩) (by assumption) ?_
  rotate_left
  · intro w' hSw
    have k4 := hSw.1; have k13 := blkc hSw.2 13 (strV x.target) rfl; have k12 := blkc hSw.2 12 (strV x.name) rfl
    go_simp
    try with_reducible rfl
  try simp only [Act.put, List.setIfInBounds_toArray, List.set_cons_zero, List.set_cons_succ, List.getElem_toArray, List.getElem_cons_zero]
  refine wpAnyH_take (i := 1) (v := ?_) rfl (by kernel_rfl) (by kernel_rfl) (by kernel_rfl) (fun _ _ _ h => h) (Or.inl ⟨by rfl, ?_⟩) (by assumption) ?_
  rotate_left
  · intro w' hSw
    have k4 := hSw.1; have k13 := blkc hSw.2 13 (strV x.target) rfl; have k12 := blkc hSw.2 12 (strV x.name) rfl
    go_simp
    try with_reducible rfl
  try simp only [Act.put, List.setIfInBounds_toArray, List.set_cons_zero, List.set_cons_succ, List.getElem_toArray, List.getElem_cons_succ, List.getElem_cons_zero]
  refine wpAnyH_take (i := 2) (v := ?_) rfl (by kernel_rfl) (by kernel_rfl) (by kernel_rfl) (fun _ _ _ h => h) (Or.inl ⟨by rfl, ?_⟩) (by assumption) ?_
  rotate_left
  · intro w' hSw
    have k4 := hSw.1; have k13 := blkc hSw.2 13 (strV x.target) rfl; have k12 := blkc hSw.2 12 (strV x.name) rfl
    go_simp
    try with_reducible rfl
  try simp only [Act.put, List.setIfInBounds_toArray, List.set_cons_zero, List.set_cons_succ, List.getElem_toArray, List.getElem_cons_succ, List.getElem_cons_zero]
  refine wpAnyH_take (i := 3) (v := ?_) rfl (by kernel_rfl) (by kernel_rfl) (by kernel_rfl) (fun _ _ _ h => h) (Or.inl ⟨by rfl, ?_⟩) (by assumption) ?_
  rotate_left
  · intro w' hSw
    have k4 := hSw.1; have k13 := blkc hSw.2 13 (strV x.target) rfl; have k12 := blkc hSw.2 12 (strV x.name) rfl
    go_simp
    try with_reducible rfl
  try simp only [Act.put, List.setIfInBounds_toArray, List.set_cons_zero, List.set_cons_succ, List.getElem_toArray, List.getElem_cons_succ, List.getElem_cons_zero]
  refine wpAnyH_take (i := 4) (v := ?_) rfl (by kernel_rfl) (by kernel_rfl) (by kernel_rfl) (fun _ _ _ h => h) (Or.inl ⟨by rfl, ?_⟩) (by assumption) ?_
  rotate_left
  · intro w' hSw
    have k4 := hSw.1; have k13 := blkc hSw.2 13 (strV x.target) rfl; have k12 := blkc hSw.2 12 (strV x.name) rfl
    go_simp
    try with_reducible rfl
  try simp only [Act.put, List.setIfInBounds_toArray, List.set_cons_zero, List.set_cons_succ, List.getElem_toArray, List.getElem_cons_succ, List.getElem_cons_zero]
  refine wpAnyH_take (i := 6) (v := ?_) rfl (by kernel_rfl) (by kernel_rfl) (by kernel_rfl) (fun _ _ _ h => h) (Or.inl ⟨by rfl, ?_⟩) (by assumption) ?_
  rotate_left
  · intro w' hSw
    have k4 := hSw.1; have k13 := blkc hSw.2 13 (strV x.target) rfl; have k12 := blkc hSw.2 12 (strV x.name) rfl
    go_simp
    try with_reducible rfl
  try simp only [Act.put, List.setIfInBounds_toArray, List.set_cons_zero, List.set_cons_succ, List.getElem_toArray, List.getElem_cons_succ, List.getElem_cons_zero]
  refine wpAnyH_take (i := 7) (v := ?_) rfl (by kernel_rfl) (by kernel_rfl) (by kernel_rfl) (fun _ _ _ h => h) (Or.inl ⟨by rfl, ?_⟩) (by assumption) ?_
  rotate_left
  · intro w' hSw
    have k4 := hSw.1; have k13 := blkc hSw.2 13 (strV x.target) rfl; have k12 := blkc hSw.2 12 (strV x.name) rfl
    go_simp
    try with_reducible rfl
  try simp only [Act.put, List.setIfInBounds_toArray, List.set_cons_zero, List.set_cons_succ, List.getElem_toArray, List.getElem_cons_succ, List.getElem_cons_zero]
  refine wpAnyH_take (i := 8) (v := ?_) rfl (by kernel_rfl) (by kernel_rfl) (by kernel_rfl) (fun _ _ _ h => h) (Or.inl ⟨by rfl, ?_⟩) (by assumption) ?_
  rotate_left
  · intro w' hSw
    have k4 := hSw.1; have k13 := blkc hSw.2 13 (strV x.target) rfl; have k12 := blkc hSw.2 12 (strV x.name) rfl
    go_simp
    try with_reducible rfl
  try simp only [Act.put, List.setIfInBounds_toArray, List.set_cons_zero, List.set_cons_succ, List.getElem_toArray, List.getElem_cons_succ, List.getElem_cons_zero]
  refine wpAnyH_take (i := 9) (v := ?_) rfl (by kernel_rfl) (by kernel_rfl) (by kernel_rfl) (fun _ _ _ h => h) (Or.inl ⟨by rfl, ?_⟩) (by assumption) ?_
  rotate_left
  · intro w' hSw
    have k4 := hSw.1; have k13 := blkc hSw.2 13 (strV x.target) rfl; have k12 := blkc hSw.2 12 (strV x.name) rfl
    go_simp
    try with_reducible rfl
  try simp only [Act.put, List.setIfInBounds_toArray, List.set_cons_zero, List.set_cons_succ, List.getElem_toArray, List.getElem_cons_succ, List.getElem_cons_zero]
  refine wpAnyH_take (i := 10) (v := ?_) rfl (by kernel_rfl) (by kernel_rfl) (by kernel_rfl) (fun _ _ _ h => h) (Or.inl ⟨by rfl, ?_⟩) (by assumption) ?_
  rotate_left
  · intro w' hSw
    have k4 := hSw.1; have k13 := blkc hSw.2 13 (strV x.target) rfl; have k12 := blkc hSw.2 12 (strV x.name) rfl
    go_simp
    try with_reducible rfl
  try simp only [Act.put, List.setIfInBounds_toArray, List.set_cons_zero, List.set_cons_succ, List.getElem_toArray, List.getElem_cons_succ, List.getElem_cons_zero]
  refine wpAnyH_take (i := 11) (v := ?_) rfl (by kernel_rfl) (by kernel_rfl) (by kernel_rfl) (fun _ _ _ h => h) (Or.inl ⟨by rfl, ?_⟩) (by assumption) ?_
  rotate_left
  · intro w' hSw
    have k4 := hSw.1; have k13 := blkc hSw.2 13 (strV x.target) rfl; have k12 := blkc hSw.2 12 (strV x.name) rfl
    go_simp
    try with_reducible rfl
  try simp only [Act.put, List.setIfInBounds_toArray, List.set_cons_zero, List.set_cons_succ, List.getElem_toArray, List.getElem_cons_succ, List.getElem_cons_zero]
  refine wpAnyH_take (i := 12) (v := ?_) rfl (by kernel_rfl) (by kernel_rfl) (by kernel_rfl) (fun _ _ _ h => h) (Or.inl ⟨by rfl, ?_⟩) (by assumption) ?_
  rotate_left
  · intro w' hSw
    have k4 := hSw.1; have k13 := blkc hSw.2 13 (strV x.target) rfl; have k12 := blkc hSw.2 12 (strV x.name) rfl
    go_simp
    try with_reducible rfl
  try simp only [Act.put, List.setIfInBounds_toArray, List.set_cons_zero, List.set_cons_succ, List.getElem_toArray, List.getElem_cons_succ, List.getElem_cons_zero]
  refine wpAnyH_take (i := 13) (v := ?_) rfl (by kernel_rfl) (by kernel_rfl) (by kernel_rfl) (fun _ _ _ h => h) (Or.inl ⟨by rfl, ?_⟩) (by assumption) ?_
  rotate_left
  · intro w' hSw
    have k4 := hSw.1; have k13 := blkc hSw.2 13 (strV x.target) rfl; have k12 := blkc hSw.2 12 (strV x.name) rfl
    go_simp
    try with_reducible rfl
  try simp only [Act.put, List.setIfInBounds_toArray, List.set_cons_zero, List.set_cons_succ, List.getElem_toArray, List.getElem_cons_succ, List.getElem_cons_zero]
  refine wpAnyH_take (i := 14) (v := _) rfl (by kernel_rfl) (by kernel_rfl) (by kernel_rfl) (fun _ _ _ h => h) ((Or.inl ⟨by rfl, fun w' _ => by kernel_rfl⟩ : YieldsIf _ _ _ _ (.agg (linkL ⟨x.target, x.name, i⟩).toArray) _)) (by assumption) ?_
  try simp only [Act.put, List.setIfInBounds_toArray, List.set_cons_zero, List.set_cons_succ, List.getElem_toArray, List.getElem_cons_succ, List.getElem_cons_zero]
  refine wpAnyH_ready (rs := [5, 15]) (by kernel_rfl) (by simp) ?_
  refine AllReadyH.cons rfl (fun K hK => ?_) (AllReadyH.cons rfl (fun K hK => ?_) AllReadyH.nil)
  ·
    rw [if_pos (by rfl)]
    refine wp_load1 rfl (by rfl) (blkc HBW.out 2 _ rfl) Tryz.underlying35 rfl ?_
    refine hK.out _ _ hHeld (fun hH2 => ?_)
    clear hK K
    try simp only [Act.put, List.setIfInBounds_toArray, List.set_cons_zero, List.set_cons_succ, List.getElem_toArray, List.getElem_cons_succ, List.getElem_cons_zero]
    refine wpAnyH_ready (rs := [15]) (by kernel_rfl) (by simp) ?_
    refine AllReadyH.cons rfl (fun K hK => ?_) AllReadyH.nil
    rw [if_pos (by rfl)]
    refine wp_built (e := 78) (cs := (linkL ⟨x.target, x.name, i⟩).toArray) rfl (by rfl) (fun _ => by kernel_rfl) ?_
    have hfn := Fr.new w2.drew (.cells (linkL ⟨x.target, x.name, i⟩).toArray 78) (fun _ => False)
    refine hK.out _ _ (keep hfn hH2) (fun hH3 => ?_)
    clear hK K
    try simp only [Act.put, List.setIfInBounds_toArray, List.set_cons_zero, List.set_cons_succ, List.getElem_toArray, List.getElem_cons_succ, List.getElem_cons_zero]
    have hr2 := (HR.out.kept (Fr.drew w2 (fun _ => False))).kept hfn
    have hbA := hfn.blk HBW.out (fun h => h)
    have hx := rd_made w2.drew 78 (linkL ⟨x.target, x.name, i⟩).toArray
    refine wpAnyH_ready (rs := [16]) (by kernel_rfl) (by simp) ?_
    refine AllReadyH.cons rfl (fun K hK => ?_) AllReadyH.nil
    rw [if_pos (by rfl)]
    refine wp_append_rd _ (.tmp 11) (.tmp 21) 35 rfl B 78 i0 _ 3 40 Tryz.underlying35 hi0 hz0 hz1 hz2 rfl (by decide) _ _ _ rfl hr2.l _ 1 1 (linkL ⟨x.target, x.name, i⟩).toArray.toList rfl hx H1.out (by have h : (brk s i).links.length = s.links.length := congrArg List.length HO.out; simp only [maxLen]; omega) (by have h : (brk s i).links.length = s.links.length := congrArg List.length HO.out; omega) hr2.base ?_
    intro v9 w9 hown9 hg9 _
    obtain ⟨A9, cap9, rfl⟩ := Go.Mem.own_slice hown9
    have hf9 := tb_own hr2.l (Fr.ofGrown hg9)
    have hb9 := (Fr.ofGrown hg9).blk hbA (fun e => by have := (own_block hr2.l e.symm).1; omega)
    have hq9 := (tb_gx (g := g) hf9 (by decide)).blk hH3.2 (gx_line hbA hH3.2)
    have c9 := blkc hb9 2 _ rfl
    have f9 := free_at hb9 2
    have HO9 := Lib.hid (own_more (x := LinkL.mk x.target x.name i) hown9 rfl)
    refine hK.out _ _ ⟨blkc hb9 4 _ rfl, hq9⟩ (fun hH9 => ?_)
    clear hK K hx hown9
    try simp only [Act.put, List.setIfInBounds_toArray, List.set_cons_zero, List.set_cons_succ, List.getElem_toArray, List.getElem_cons_succ, List.getElem_cons_zero]
    refine wpAnyH_take (i := 17) (v := ?_) rfl (by kernel_rfl) (by kernel_rfl) (by kernel_rfl) (fun _ _ _ h => h) (Or.inl ⟨by rfl, ?_⟩) (by assumption) ?_
    rotate_left
    · intro w' hSw
      skip
      go_simp
      try with_reducible rfl
    try simp only [Act.put, List.setIfInBounds_toArray, List.set_cons_zero, List.set_cons_succ, List.getElem_toArray, List.getElem_cons_succ, List.getElem_cons_zero]
    refine wpAnyH_take (i := 18) (v := ?_) rfl (by kernel_rfl) (by kernel_rfl) (by kernel_rfl) (fun _ _ _ h => h) (Or.inl ⟨by rfl, ?_⟩) (by assumption) ?_
    rotate_left
    · intro w' hSw
      skip
      go_simp
      try with_reducible rfl
    try simp only [Act.put, List.setIfInBounds_toArray, List.set_cons_zero, List.set_cons_succ, List.getElem_toArray, List.getElem_cons_succ, List.getElem_cons_zero]
    refine wpAnyH_take (i := 19) (v := ?_) rfl (by kernel_rfl) (by kernel_rfl) (by kernel_rfl) (fun _ _ _ h => h) (Or.inl ⟨by rfl, ?_⟩) (by assumption) ?_
    rotate_left
    · intro w' hSw
      skip
      go_simp
      try with_reducible rfl
    try simp only [Act.put, List.setIfInBounds_toArray, List.set_cons_zero, List.set_cons_succ, List.getElem_toArray, List.getElem_cons_succ, List.getElem_cons_zero]
    refine wpAnyH_ready (rs := [20]) (by kernel_rfl) (by simp) ?_
    refine AllReadyH.cons rfl (fun K hK => ?_) AllReadyH.nil
    rw [if_pos (by rfl)]
    refine wp_store1 (v := .slice A9 ((brk s i).links.length + 1) cap9) rfl rfl (by rfl) (by rfl) hb9 info_l rfl (show 2 < 6 by decide) ?_
    have hS := Fr.set (w := w9) (a := ⟨g, 2, none⟩) (v := .slice A9 ((brk s i).links.length + 1) cap9) (S := fun i => i = g) rfl
    refine hK.out _ _ ⟨(World.cell?_setCell_other _ _ _ _ (by simp)).trans (blkc hb9 4 _ rfl), hS.blk hq9 (fun e => absurd (blk_same hq9 (e ▸ hb9)) (by decide))⟩ (fun _ => ?_)
    clear hK K
    refine wpAnyH_done (by kernel_rfl) ?_ _
    go_wp2_with fail
    go_end0
    exact ⟨rfl, gat_put hlt hb9 rfl ⟨far_tb hr2.r hf9 (by decide), Go.Proofs.YtlfjknndkjgciaaGreatDoor.zs_tb hr2.z hf9 (by decide) (by decide) (by decide), (by show Own w9 B _ _ _ _ (s.links ++ [⟨x.target, x.name, i⟩]); rw [← HO.out]; exact HO9.out), far_tb hr2.d hf9 (by decide)⟩, gx_put (gx_trans HF2.out (gx_none (Fr.drew w2 _) |> fun h => gx_trans h (gx_new hfn (tb_gx hf9 (by decide)))))⟩
  ·
    rw [if_pos (by rfl)]
    refine wp_built (e := 78) (cs := (linkL ⟨x.target, x.name, i⟩).toArray) rfl (by rfl) (fun _ => by kernel_rfl) ?_
    have hfn := Fr.new w2.drew (.cells (linkL ⟨x.target, x.name, i⟩).toArray 78) (fun _ => False)
    refine hK.out _ _ (keep hfn hHeld) (fun hH2 => ?_)
    clear hK K
    try simp only [Act.put, List.setIfInBounds_toArray, List.set_cons_zero, List.set_cons_succ, List.getElem_toArray, List.getElem_cons_succ, List.getElem_cons_zero]
    have HBW2 := Lib.hid (hfn.blk HBW.out (fun h => h))
    refine wpAnyH_ready (rs := [5]) (by kernel_rfl) (by simp) ?_
    refine AllReadyH.cons rfl (fun K hK => ?_) AllReadyH.nil
    rw [if_pos (by rfl)]
    refine wp_load1 rfl (by rfl) (blkc HBW2.out 2 _ rfl) Tryz.underlying35 rfl ?_
    refine hK.out _ _ hH2 (fun hH3 => ?_)
    clear hK K
    try simp only [Act.put, List.setIfInBounds_toArray, List.set_cons_zero, List.set_cons_succ, List.getElem_toArray, List.getElem_cons_succ, List.getElem_cons_zero]
    have hr2 := (HR.out.kept (Fr.drew w2 (fun _ => False))).kept hfn
    have hbA := hfn.blk HBW.out (fun h => h)
    have hx := rd_made w2.drew 78 (linkL ⟨x.target, x.name, i⟩).toArray
    refine wpAnyH_ready (rs := [16]) (by kernel_rfl) (by simp) ?_
    refine AllReadyH.cons rfl (fun K hK => ?_) AllReadyH.nil
    rw [if_pos (by rfl)]
    refine wp_append_rd _ (.tmp 11) (.tmp 21) 35 rfl B 78 i0 _ 3 40 Tryz.underlying35 hi0 hz0 hz1 hz2 rfl (by decide) _ _ _ rfl hr2.l _ 1 1 (linkL ⟨x.target, x.name, i⟩).toArray.toList rfl hx H1.out (by have h : (brk s i).links.length = s.links.length := congrArg List.length HO.out; simp only [maxLen]; omega) (by have h : (brk s i).links.length = s.links.length := congrArg List.length HO.out; omega) hr2.base ?_
    intro v9 w9 hown9 hg9 _
    obtain ⟨A9, cap9, rfl⟩ := Go.Mem.own_slice hown9
    have hf9 := tb_own hr2.l (Fr.ofGrown hg9)
    have hb9 := (Fr.ofGrown hg9).blk hbA (fun e => by have := (own_block hr2.l e.symm).1; omega)
    have hq9 := (tb_gx (g := g) hf9 (by decide)).blk hH3.2 (gx_line hbA hH3.2)
    have c9 := blkc hb9 2 _ rfl
    have f9 := free_at hb9 2
    have HO9 := Lib.hid (own_more (x := LinkL.mk x.target x.name i) hown9 rfl)
    refine hK.out _ _ ⟨blkc hb9 4 _ rfl, hq9⟩ (fun hH9 => ?_)
    clear hK K hx hown9
    try simp only [Act.put, List.setIfInBounds_toArray, List.set_cons_zero, List.set_cons_succ, List.getElem_toArray, List.getElem_cons_succ, List.getElem_cons_zero]
    refine wpAnyH_take (i := 17) (v := ?_) rfl (by kernel_rfl) (by kernel_rfl) (by kernel_rfl) (fun _ _ _ h => h) (Or.inl ⟨by rfl, ?_⟩) (by assumption) ?_
    rotate_left
    · intro w' hSw
      skip
      go_simp
      try with_reducible rfl
    try simp only [Act.put, List.setIfInBounds_toArray, List.set_cons_zero, List.set_cons_succ, List.getElem_toArray, List.getElem_cons_succ, List.getElem_cons_zero]
    refine wpAnyH_take (i := 18) (v := ?_) rfl (by kernel_rfl) (by kernel_rfl) (by kernel_rfl) (fun _ _ _ h => h) (Or.inl ⟨by rfl, ?_⟩) (by assumption) ?_
    rotate_left
    · intro w' hSw
      skip
      go_simp
      try with_reducible rfl
    try simp only [Act.put, List.setIfInBounds_toArray, List.set_cons_zero, List.set_cons_succ, List.getElem_toArray, List.getElem_cons_succ, List.getElem_cons_zero]
    refine wpAnyH_take (i := 19) (v := ?_) rfl (by kernel_rfl) (by kernel_rfl) (by kernel_rfl) (fun _ _ _ h => h) (Or.inl ⟨by rfl, ?_⟩) (by assumption) ?_
    rotate_left
    · intro w' hSw
      skip
      go_simp
      try with_reducible rfl
    try simp only [Act.put, List.setIfInBounds_toArray, List.set_cons_zero, List.set_cons_succ, List.getElem_toArray, List.getElem_cons_succ, List.getElem_cons_zero]
    refine wpAnyH_ready (rs := [20]) (by kernel_rfl) (by simp) ?_
    refine AllReadyH.cons rfl (fun K hK => ?_) AllReadyH.nil
    rw [if_pos (by rfl)]
    refine wp_store1 (v := .slice A9 ((brk s i).links.length + 1) cap9) rfl rfl (by rfl) (by rfl) hb9 info_l rfl (show 2 < 6 by decide) ?_
    have hS := Fr.set (w := w9) (a := ⟨g, 2, none⟩) (v := .slice A9 ((brk s i).links.length + 1) cap9) (S := fun i => i = g) rfl
    refine hK.out _ _ ⟨(World.cell?_setCell_other _ _ _ _ (by simp)).trans (blkc hb9 4 _ rfl), hS.blk hq9 (fun e => absurd (blk_same hq9 (e ▸ hb9)) (by decide))⟩ (fun _ => ?_)
    clear hK K
    refine wpAnyH_done (by kernel_rfl) ?_ _
    go_wp2_with fail
    go_end0
    exact ⟨rfl, gat_put hlt hb9 rfl ⟨far_tb hr2.r hf9 (by decide), Go.Proofs.YtlfjknndkjgciaaGreatDoor.zs_tb hr2.z hf9 (by decide) (by decide) (by decide), (by show Own w9 B _ _ _ _ (s.links ++ [⟨x.target, x.name, i⟩]); rw [← HO.out]; exact HO9.out), far_tb hr2.d hf9 (by decide)⟩, gx_put (gx_trans HF2.out (gx_none (Fr.drew w2 _) |> fun h => gx_trans h (gx_new hfn (tb_gx hf9 (by decide)))))⟩
set_option maxRecDepth 100000 in
set_option maxHeartbeats 3200000 in
theorem gfault_any (w : World) (g B : Nat) (i : Int) (s : StL) (h : GAt w g B i s) (hs : size s ≤ 100000) (x : LineL) : Calls Tryz.prog 36 #[gP g, lineV x] w (GPost w g B i (tell s i x.col x.err)) := by
  have hn := Fr.new w (.cells (lineC x) 58) (fun _ => False)
  have hd := (size_parts hs).2.2.2
  have HG := Lib.hid ((h.kept hn).kept (Fr.drew _ (fun _ => False)))
  have HT := Lib.hid (tell_any _ g B i s HG.out hd i x.col x.err)
  have HN := Lib.hid (gx_none (g := g) (B := B) hn)
  have HQ := Lib.hid ((Fr.drew _ (fun _ => False)).blk (Blk.made w 58 (lineC x)) (fun h => h))
  have h0 : HS g w.heap.size i x (w.alloc (.cells (lineC x) 58)).drew := by
    obtain ⟨vr, vz, vl, vd, hb, -⟩ := HG.out.open_
    exact ⟨blkc hb 4 _ rfl, HQ.out⟩
  clear h hn hd
  go_enter Tryz.func36, Tryz.ntmps36
  go_wp2_with fail
  refine wp_region_held_drew (S := HS g w.heap.size i x) (by kernel_rfl) (h0) (fun hHeld => ?_)
  refine wpAnyH_take (i := 0) (v := ?_) rfl (by kernel_rfl) (by kernel_rfl) (by kernel_rfl) (fun _ _ _ h => h) (Or.inl ⟨by rfl, ?_⟩) (by assumption) ?_
  rotate_left
  · intro w' hSw
    have k4 := hSw.1; have k28 := blkc hSw.2 28 (intV x.col) rfl; have k27 := blkc hSw.2 27 (intV x.err) rfl
    go_simp
    try with_reducible rfl
  try simp only [Act.put, List.setIfInBounds_toArray, List.set_cons_zero, List.set_cons_succ, List.getElem_toArray, List.getElem_cons_zero]
  refine wpAnyH_take (i := 1) (v := ?_) rfl (by kernel_rfl) (by kernel_rfl) (by kernel_rfl) (fun _ _ _ h => h) (Or.inl ⟨by rfl, ?_⟩) (by assumption) ?_
  rotate_left
  · intro w' hSw
    have k4 := hSw.1; have k28 := blkc hSw.2 28 (intV x.col) rfl; have k27 := blkc hSw.2 27 (intV x.err) rfl
    go_simp
    try with_reducible rfl
  try simp only [Act.put, List.setIfInBounds_toArray, List.set_cons_zero, List.set_cons_succ, List.getElem_toArray, List.getElem_cons_succ, List.getElem_cons_zero]
  refine wpAnyH_take (i := 2) (v := ?_) rfl (by kernel_rfl) (by kernel_rfl) (by kernel_rfl) (fun _ _ _ h => h) (Or.inl ⟨by rfl, ?_⟩) (by assumption) ?_
  rotate_left
  · intro w' hSw
    have k4 := hSw.1; have k28 := blkc hSw.2 28 (intV x.col) rfl; have k27 := blkc hSw.2 27 (intV x.err) rfl
    go_simp
    try with_reducible rfl
  try simp only [Act.put, List.setIfInBounds_toArray, List.set_cons_zero, List.set_cons_succ, List.getElem_toArray, List.getElem_cons_succ, List.getElem_cons_zero]
  refine wpAnyH_take (i := 3) (v := ?_) rfl (by kernel_rfl) (by kernel_rfl) (by kernel_rfl) (fun _ _ _ h => h) (Or.inl ⟨by rfl, ?_⟩) (by assumption) ?_
  rotate_left
  · intro w' hSw
    have k4 := hSw.1; have k28 := blkc hSw.2 28 (intV x.col) rfl; have k27 := blkc hSw.2 27 (intV x.err) rfl
    go_simp
    try with_reducible rfl
  try simp only [Act.put, List.setIfInBounds_toArray, List.set_cons_zero, List.set_cons_succ, List.getElem_toArray, List.getElem_cons_succ, List.getElem_cons_zero]
  refine wpAnyH_take (i := 4) (v := ?_) rfl (by kernel_rfl) (by kernel_rfl) (by kernel_rfl) (fun _ _ _ h => h) (Or.inl ⟨by rfl, ?_⟩) (by assumption) ?_
  rotate_left
  · intro w' hSw
    have k4 := hSw.1; have k28 := blkc hSw.2 28 (intV x.col) rfl; have k27 := blkc hSw.2 27 (intV x.err) rfl
    go_simp
    try with_reducible rfl
  try simp only [Act.put, List.setIfInBounds_toArray, List.set_cons_zero, List.set_cons_succ, List.getElem_toArray, List.getElem_cons_succ, List.getElem_cons_zero]
  refine wpAnyH_take (i := 5) (v := ?_) rfl (by kernel_rfl) (by kernel_rfl) (by kernel_rfl) (fun _ _ _ h => h) (Or.inl ⟨by rfl, ?_⟩) (by assumption) ?_
  rotate_left
  · intro w' hSw
    have k4 := hSw.1; have k28 := blkc hSw.2 28 (intV x.col) rfl; have k27 := blkc hSw.2 27 (intV x.err) rfl
    go_simp
    try with_reducible rfl
  try simp only [Act.put, List.setIfInBounds_toArray, List.set_cons_zero, List.set_cons_succ, List.getElem_toArray, List.getElem_cons_succ, List.getElem_cons_zero]
  refine wpAnyH_take (i := 6) (v := ?_) rfl (by kernel_rfl) (by kernel_rfl) (by kernel_rfl) (fun _ _ _ h => h) (Or.inl ⟨by rfl, ?_⟩) (by assumption) ?_
  rotate_left
  · intro w' hSw
    have k4 := hSw.1; have k28 := blkc hSw.2 28 (intV x.col) rfl; have k27 := blkc hSw.2 27 (intV x.err) rfl
    go_simp
    try with_reducible rfl
  try simp only [Act.put, List.setIfInBounds_toArray, List.set_cons_zero, List.set_cons_succ, List.getElem_toArray, List.getElem_cons_succ, List.getElem_cons_zero]
  refine wpAnyH_take (i := 7) (v := ?_) rfl (by kernel_rfl) (by kernel_rfl) (by kernel_rfl) (fun _ _ _ h => h) (Or.inl ⟨by rfl, ?_⟩) (by assumption) ?_
  rotate_left
  · intro w' hSw
    have k4 := hSw.1; have k28 := blkc hSw.2 28 (intV x.col) rfl; have k27 := blkc hSw.2 27 (intV x.err) rfl
    go_simp
    try with_reducible rfl
  try simp only [Act.put, List.setIfInBounds_toArray, List.set_cons_zero, List.set_cons_succ, List.getElem_toArray, List.getElem_cons_succ, List.getElem_cons_zero]
  refine wpAnyH_take (i := 8) (v := ?_) rfl (by kernel_rfl) (by kernel_rfl) (by kernel_rfl) (fun _ _ _ h => h) (Or.inl ⟨by rfl, ?_⟩) (by assumption) ?_
  rotate_left
  · intro w' hSw
    have k4 := hSw.1; have k28 := blkc hSw.2 28 (intV x.col) rfl; have k27 := blkc hSw.2 27 (intV x.err) rfl
    go_simp
    try with_reducible rfl
  try simp only [Act.put, List.setIfInBounds_toArray, List.set_cons_zero, List.set_cons_succ, List.getElem_toArray, List.getElem_cons_succ, List.getElem_cons_zero]
  refine wpAnyH_ready (rs := [9]) (by kernel_rfl) (by simp) ?_
  refine AllReadyH.cons rfl (fun K hK => ?_) AllReadyH.nil
  go_simp
  refine HT.out.mono ?_
  rintro e w4 ⟨rfl, hg4, hf4⟩
  have hq4 := hf4.blk HQ.out (gx_at HG.out HQ.out)
  obtain ⟨vr, vz, vl, vd, hb4, hr4⟩ := hg4.open_
  refine hK.out _ _ ⟨blkc hb4 4 _ rfl, hq4⟩ (fun hHeld2 => ?_)
  clear hK K
  refine wpAnyH_done (by kernel_rfl) ?_ _
  go_wp2_with fail
  go_end0
  exact ⟨rfl, hg4, gx_trans HN.out (gx_trans (gx_none (Fr.drew _ _)) hf4)⟩
end Go.Proofs.YtlfjknndkjgciaaGreatDoor
