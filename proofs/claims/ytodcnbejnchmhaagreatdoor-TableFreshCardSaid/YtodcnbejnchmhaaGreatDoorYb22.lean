import Derived.Test.YtodcnbejnchmhaaGreatDoorYb21
namespace Go.Proofs.YtodcnbejnchmhaaGreatDoor
open Go.RowKit Go.Mem Go.Lin Go.Dcm

/-- a zone more -/
theorem zs_snoc {w w9 : World} {B : Nat} {v : Value} {zv : List ZV} {z : ZV} (hall : ∀ y ∈ zv, ZAt w B y) (hf : Fr w w9 (TB B 101 w)) (hown : Own w9 B 101 3 zoneL v (zv ++ [z])) (hz : ZAt w9 w.heap.size z) (hB : B ≤ w.heap.size) : ZsAt w9 B v (zv.map (·.1) ++ [z.1]) := by
  refine ⟨zv ++ [z], w.heap.size, by simp, hown, fun y hy => ?_, hB, hf.size, fun a y e => ?_⟩
  · rcases List.mem_append.1 hy with hy | hy
    · exact ⟨far_tb (hall y hy).e hf (by decide), far_tb (hall y hy).l hf (by decide)⟩
    · have hy : y = z := by simpa using hy
      subst hy
      exact ⟨own_base hz.e hB, own_base hz.l hB⟩
  · obtain ⟨rfl, e2⟩ := List.append_inj' e rfl
    have e2 : z = y := by simpa using e2
    subst e2
    exact ⟨hz, fun y hy => ⟨fun k hk => (own_block (hall y hy).e hk).2.1, fun k hk => (own_block (hall y hy).l hk).2.1⟩⟩
theorem info_ze (x : LineL) : ∀ w, (Instr.buildSlice 92 1 #[(0, .agg (eraC x.era))]).run Tryz.prog w = .ok (.slice (some ⟨w.heap.size, 0, none⟩) 1 1) (w.alloc (.cells (eraC x.era) 69)) := fun _ => by kernel_rfl
theorem info_zl (i : Int) : ∀ w, (Instr.buildSlice 93 1 #[(0, intV i)]).run Tryz.prog w = .ok (.slice (some ⟨w.heap.size, 0, none⟩) 1 1) (w.alloc (.cells #[intV i] 3)) := fun _ => by kernel_rfl
theorem info_zz (a b c : Value) (_ha : a.oneCell' = true) (_hb : b.oneCell' = true) (_hc : c.oneCell' = true) : ∀ w, (Instr.buildSlice 54 1 #[(0, .agg #[a, b, c])]).run Tryz.prog w = .ok (.slice (some ⟨w.heap.size, 0, none⟩) 1 1) (w.alloc (.cells #[a, b, c] 101)) := fun _ => by kernel_rfl
set_option maxRecDepth 100000 in
set_option maxHeartbeats 3200000 in
theorem gzone_any (w : World) (g B : Nat) (i : Int) (s : StL) (h : GAt w g B i s) (hs : size s ≤ 100000) (x : LineL) : Calls Tryz.prog 96 #[gP g, lineV x] w (GPost w g B i (zoneD s i x)) := by
  have hlt := h.lt
  have hn := Fr.new w (.cells (lineC x) 71) (fun _ => False)
  have hd := size_parts hs
  have HT := Lib.hid (break_any _ g B i s (h.kept hn) (by omega))
  have HN := Lib.hid hn
  have HG := Lib.hid (h.kept hn)
  have HQ := Lib.hid (Blk.made w 71 (lineC x))
  obtain ⟨i0, hi0, hz0, hz1, hz2⟩ := info_parts infoDzone
  clear h hn hd
  go_enter Tryz.func96, Tryz.ntmps96
  go_wp2_with fail
  refine HT.out.mono ?_
  rintro e w2 ⟨rfl, hg2, hf2⟩
  obtain ⟨vr, vz, vl, vd, hb, hr⟩ := hg2.open_
  have HQ2 := Lib.hid (hf2.blk HQ.out (gx_at HG.out HQ.out))
  have HB := Lib.hid hb
  have HR := Lib.hid hr
  have HF2 := Lib.hid (gx_new HN.out hf2)
  clear hb hr hg2 hf2
  obtain ⟨zv, M, hzv, hoz, hall, hBM, hMw, -⟩ := HR.out.z
  obtain ⟨A, cap, rfl⟩ := hoz.slice
  have hsz : zv.length ≤ 100000 := by
    have h1 := (size_parts hs).2.1
    have h2 := congrArg List.length hzv
    rw [brk_zones, List.length_map] at h2
    omega
  have HO := Lib.hid hzv
  have hoz0 := hoz.kept (Fr.drew w2 (fun _ => False))
  have hall0 : ∀ y ∈ zv, ZAt w2.drew B y := fun y hy => (hall y hy).kept (Fr.drew w2 (fun _ => False))
  have HRD := Lib.hid (HR.out.kept (Fr.drew w2 (fun _ => False)))
  have HBW := Lib.hid ((Fr.drew w2 (fun _ => False)).blk HB.out (fun h => h))
  have HZ := Lib.hid (show (brk s i).zones = s.zones from brk_zones s i)
  have hBw : B ≤ w2.drew.heap.size := HRD.out.base
  clear hoz hall hzv hBM hMw
  go_wp2_with fail
  refine wp_region_held_drew (S := HS g w.heap.size i x) (by kernel_rfl) (⟨blkc ((Fr.drew w2 (fun _ => False)).blk HB.out (fun h => h)) 4 _ rfl, (Fr.drew w2 (fun _ => False)).blk HQ2.out (fun h => h)⟩) (fun hHeld => ?_)
  refine wpAnyH_take (i := 0) (v := ?_) rfl (by kernel_rfl) (by kernel_rfl) (by kernel_rfl) (fun _ _ _ h => h) (Or.inl ⟨by rfl, ?_⟩) (by assumption) ?_
  rotate_left
  · intro w' hSw
    have k4 := hSw.1; have k12 := blkc hSw.2 12 (strV x.name) rfl
    go_simp
    try with_reducible rfl
  try simp only [Act.put, List.setIfInBounds_toArray, List.set_cons_zero, List.set_cons_succ, List.getElem_toArray, List.getElem_cons_zero]
  refine wpAnyH_take (i := 1) (v := ?_) rfl (by kernel_rfl) (by kernel_rfl) (by kernel_rfl) (fun _ _ _ h => h) (Or.inl ⟨by rfl, ?_⟩) (by assumption) ?_
  rotate_left
  · intro w' hSw
    have k4 := hSw.1; have k12 := blkc hSw.2 12 (strV x.name) rfl
    go_simp
    try with_reducible rfl
  try simp only [Act.put, List.setIfInBounds_toArray, List.set_cons_zero, List.set_cons_succ, List.getElem_toArray, List.getElem_cons_succ, List.getElem_cons_zero]
  refine wpAnyH_take (i := 2) (v := ?_) rfl (by kernel_rfl) (by kernel_rfl) (by kernel_rfl) (fun _ _ _ h => h) (Or.inl ⟨by rfl, ?_⟩) (by assumption) ?_
  rotate_left
  · intro w' hSw
    have k4 := hSw.1; have k12 := blkc hSw.2 12 (strV x.name) rfl
    go_simp
    try with_reducible rfl
  try simp only [Act.put, List.setIfInBounds_toArray, List.set_cons_zero, List.set_cons_succ, List.getElem_toArray, List.getElem_cons_succ, List.getElem_cons_zero]
  refine wpAnyH_take (i := 3) (v := ?_) rfl (by kernel_rfl) (by kernel_rfl) (by kernel_rfl) (fun _ _ _ h => h) (Or.inl ⟨by rfl, ?_⟩) (by assumption) ?_
  rotate_left
  · intro w' hSw
    have k4 := hSw.1; have k12 := blkc hSw.2 12 (strV x.name) rfl
    go_simp
    try with_reducible rfl
  try simp only [Act.put, List.setIfInBounds_toArray, List.set_cons_zero, List.set_cons_succ, List.getElem_toArray, List.getElem_cons_succ, List.getElem_cons_zero]
  refine wpAnyH_take (i := 4) (v := ?_) rfl (by kernel_rfl) (by kernel_rfl) (by kernel_rfl) (fun _ _ _ h => h) (Or.inl ⟨by rfl, ?_⟩) (by assumption) ?_
  rotate_left
  · intro w' hSw
    have k4 := hSw.1; have k12 := blkc hSw.2 12 (strV x.name) rfl
    go_simp
    try with_reducible rfl
  try simp only [Act.put, List.setIfInBounds_toArray, List.set_cons_zero, List.set_cons_succ, List.getElem_toArray, List.getElem_cons_succ, List.getElem_cons_zero]
  refine wpAnyH_take (i := 6) (v := ?_) rfl (by kernel_rfl) (by kernel_rfl) (by kernel_rfl) (fun _ _ _ h => h) (Or.inl ⟨by rfl, ?_⟩) (by assumption) ?_
  rotate_left
  · intro w' hSw
    have k4 := hSw.1; have k12 := blkc hSw.2 12 (strV x.name) rfl
    go_simp
    try with_reducible rfl
  try simp only [Act.put, List.setIfInBounds_toArray, List.set_cons_zero, List.set_cons_succ, List.getElem_toArray, List.getElem_cons_succ, List.getElem_cons_zero]
  refine wpAnyH_take (i := 7) (v := ?_) rfl (by kernel_rfl) (by kernel_rfl) (by kernel_rfl) (fun _ _ _ h => h) (Or.inl ⟨by rfl, ?_⟩) (by assumption) ?_
  rotate_left
  · intro w' hSw
    have k4 := hSw.1; have k12 := blkc hSw.2 12 (strV x.name) rfl
    go_simp
    try with_reducible rfl
  try simp only [Act.put, List.setIfInBounds_toArray, List.set_cons_zero, List.set_cons_succ, List.getElem_toArray, List.getElem_cons_succ, List.getElem_cons_zero]
  refine wpAnyH_take (i := 8) (v := ?_) rfl (by kernel_rfl) (by kernel_rfl) (by kernel_rfl) (fun _ _ _ h => h) (Or.inl ⟨by rfl, ?_⟩) (by assumption) ?_
  rotate_left
  · intro w' hSw
    have k4 := hSw.1; have k12 := blkc hSw.2 12 (strV x.name) rfl
    go_simp
    try with_reducible rfl
  try simp only [Act.put, List.setIfInBounds_toArray, List.set_cons_zero, List.set_cons_succ, List.getElem_toArray, List.getElem_cons_succ, List.getElem_cons_zero]
  refine wpAnyH_take (i := 9) (v := _) rfl (by kernel_rfl) (by kernel_rfl) (by kernel_rfl) (fun _ _ _ h => h) (yields_blk 69 _ w.heap.size 14 71 (lineC x) (eraC x.era) _ (by rfl) rfl rfl (fun _ h => h.2) Tryz.underlying69 rfl (infoE _) (part_era _)) (by assumption) ?_
  try simp only [Act.put, List.setIfInBounds_toArray, List.set_cons_zero, List.set_cons_succ, List.getElem_toArray, List.getElem_cons_succ, List.getElem_cons_zero]
  refine wpAnyH_take (i := 11) (v := ?_) rfl (by kernel_rfl) (by kernel_rfl) (by kernel_rfl) (fun _ _ _ h => h) (Or.inl ⟨by rfl, ?_⟩) (by assumption) ?_
  rotate_left
  · intro w' hSw
    have k4 := hSw.1; have k12 := blkc hSw.2 12 (strV x.name) rfl
    go_simp
    try with_reducible rfl
  try simp only [Act.put, List.setIfInBounds_toArray, List.set_cons_zero, List.set_cons_succ, List.getElem_toArray, List.getElem_cons_succ, List.getElem_cons_zero]
  refine wpAnyH_take (i := 12) (v := ?_) rfl (by kernel_rfl) (by kernel_rfl) (by kernel_rfl) (fun _ _ _ h => h) (Or.inl ⟨by rfl, ?_⟩) (by assumption) ?_
  rotate_left
  · intro w' hSw
    have k4 := hSw.1; have k12 := blkc hSw.2 12 (strV x.name) rfl
    go_simp
    try with_reducible rfl
  try simp only [Act.put, List.setIfInBounds_toArray, List.set_cons_zero, List.set_cons_succ, List.getElem_toArray, List.getElem_cons_succ, List.getElem_cons_zero]
  refine wpAnyH_take (i := 13) (v := ?_) rfl (by kernel_rfl) (by kernel_rfl) (by kernel_rfl) (fun _ _ _ h => h) (Or.inl ⟨by rfl, ?_⟩) (by assumption) ?_
  rotate_left
  · intro w' hSw
    have k4 := hSw.1; have k12 := blkc hSw.2 12 (strV x.name) rfl
    go_simp
    try with_reducible rfl
  try simp only [Act.put, List.setIfInBounds_toArray, List.set_cons_zero, List.set_cons_succ, List.getElem_toArray, List.getElem_cons_succ, List.getElem_cons_zero]
  refine wpAnyH_take (i := 14) (v := ?_) rfl (by kernel_rfl) (by kernel_rfl) (by kernel_rfl) (fun _ _ _ h => h) (Or.inl ⟨by rfl, ?_⟩) (by assumption) ?_
  rotate_left
  · intro w' hSw
    have k4 := hSw.1; have k12 := blkc hSw.2 12 (strV x.name) rfl
    go_simp
    try with_reducible rfl
  try simp only [Act.put, List.setIfInBounds_toArray, List.set_cons_zero, List.set_cons_succ, List.getElem_toArray, List.getElem_cons_succ, List.getElem_cons_zero]
  refine wpAnyH_ready (rs := [5, 10, 15]) (by kernel_rfl) (by simp) ?_
  refine AllReadyH.cons rfl (fun K hK => ?_) (AllReadyH.cons rfl (fun K hK => ?_) (AllReadyH.cons rfl (fun K hK => ?_) AllReadyH.nil))
  ·
    have hbn1 := (Fr.refl w2.drew (fun _ => False)).blk HBW.out (fun h => h)
    rw [if_pos (by rfl)]
    refine wp_load1 rfl (by rfl) (blkc hbn1 1 _ rfl) Tryz.underlying54 rfl ?_
    refine hK.out _ _ hHeld (fun hH1 => ?_)
    clear hK K hbn1
    try simp only [Act.put, List.setIfInBounds_toArray, List.set_cons_zero, List.set_cons_succ, List.getElem_toArray, List.getElem_cons_succ, List.getElem_cons_zero]
    refine wpAnyH_ready (rs := [10, 15]) (by kernel_rfl) (by simp) ?_
    refine AllReadyH.cons rfl (fun K hK => ?_) (AllReadyH.cons rfl (fun K hK => ?_) AllReadyH.nil)
    ·
      rw [if_pos (by rfl)]
      refine wp_built (e := 69) (cs := (eraC x.era)) rfl (by rfl) (info_ze x) ?_
      generalize hwn2 : World.alloc _ _ = wn2
      have hfr2 : Fr _ wn2 (fun _ => False) := hwn2 ▸ Fr.new _ _ _
      have hE := hwn2 ▸ own_made (f := eraL) (x := x.era) (base := w2.drew.heap.size) (e := 69) (Fr.refl w2.drew (fun _ => False)).size rfl rfl
      have hf2 := ff0 (Fr.refl w2.drew (fun _ => False)) hfr2
      refine hK.out _ _ (keep hfr2 hH1) (fun hH2 => ?_)
      clear hK K
      try simp only [Act.put, List.setIfInBounds_toArray, List.set_cons_zero, List.set_cons_succ, List.getElem_toArray, List.getElem_cons_succ, List.getElem_cons_zero]
      refine wpAnyH_ready (rs := [15]) (by kernel_rfl) (by simp) ?_
      refine AllReadyH.cons rfl (fun K hK => ?_) AllReadyH.nil
      rw [if_pos (by rfl)]
      refine wp_built (e := 3) (cs := #[intV i]) rfl (by rfl) (info_zl i) ?_
      generalize hwn3 : World.alloc _ _ = wn3
      have hfr3 : Fr _ wn3 (fun _ => False) := hwn3 ▸ Fr.new _ _ _
      have hL := hwn3 ▸ own_made (f := intL) (x := i) (base := w2.drew.heap.size) (e := 3) hf2.size rfl rfl
      have hE := hE.kept hfr3
      have hf3 := ff0 hf2 hfr3
      refine hK.out _ _ (keep hfr3 hH2) (fun hH3 => ?_)
      clear hK K
      try simp only [Act.put, List.setIfInBounds_toArray, List.set_cons_zero, List.set_cons_succ, List.getElem_toArray, List.getElem_cons_succ, List.getElem_cons_zero]
      refine wpAnyH_take (i := 16) (v := _) rfl (by kernel_rfl) (by kernel_rfl) (by kernel_rfl) (fun _ _ _ h => h) ((Or.inl ⟨by rfl, fun w' _ => by kernel_rfl⟩ : YieldsIf _ _ _ _ (.agg #[strV x.name, (Value.slice (some ⟨w2.drew.heap.size, 0, none⟩) 1 1), (Value.slice (some ⟨wn2.heap.size, 0, none⟩) 1 1)]) _)) (by assumption) ?_
      try simp only [Act.put, List.setIfInBounds_toArray, List.set_cons_zero, List.set_cons_succ, List.getElem_toArray, List.getElem_cons_succ, List.getElem_cons_zero]
      refine wpAnyH_ready (rs := [17]) (by kernel_rfl) (by simp) ?_
      refine AllReadyH.cons rfl (fun K hK => ?_) AllReadyH.nil
      rw [if_pos (by rfl)]
      refine wp_built (e := 101) (cs := #[strV x.name, (Value.slice (some ⟨w2.drew.heap.size, 0, none⟩) 1 1), (Value.slice (some ⟨wn2.heap.size, 0, none⟩) 1 1)]) rfl (by rfl) (info_zz _ _ _ rfl rfl rfl) ?_
      generalize hwn4 : World.alloc _ _ = wn4
      have hfr4 : Fr _ wn4 (fun _ => False) := hwn4 ▸ Fr.new _ _ _
      have hx := hwn4 ▸ rd_made wn3 101 #[strV x.name, (Value.slice (some ⟨w2.drew.heap.size, 0, none⟩) 1 1), (Value.slice (some ⟨wn2.heap.size, 0, none⟩) 1 1)]
      have hE := hE.kept hfr4
      have hL := hL.kept hfr4
      have hf4 := ff0 hf3 hfr4
      refine hK.out _ _ (keep hfr4 hH3) (fun hH4 => ?_)
      clear hK K
      try simp only [Act.put, List.setIfInBounds_toArray, List.set_cons_zero, List.set_cons_succ, List.getElem_toArray, List.getElem_cons_succ, List.getElem_cons_zero]
      have hoz2 := hoz0.kept hf4
      have hr2 := HRD.out.kept hf4
      have hbA := hf4.blk HBW.out (fun h => h)
      refine wpAnyH_ready (rs := [18]) (by kernel_rfl) (by simp) ?_
      refine AllReadyH.cons rfl (fun K hK => ?_) AllReadyH.nil
      rw [if_pos (by rfl)]
      refine wp_append_rd _ (.tmp 11) (.tmp 23) 54 rfl B 101 i0 _ 3 64 Tryz.underlying54 hi0 hz0 hz1 hz2 rfl (by decide) _ _ _ rfl hoz2 _ 1 1 #[strV x.name, (Value.slice (some ⟨w2.drew.heap.size, 0, none⟩) 1 1), (Value.slice (some ⟨wn2.heap.size, 0, none⟩) 1 1)].toList rfl hx (one_made (cs := #[strV x.name, (Value.slice (some ⟨w2.drew.heap.size, 0, none⟩) 1 1), (Value.slice (some ⟨wn2.heap.size, 0, none⟩) 1 1)]) (by simp [Value.oneCell'])) (by simp only [maxLen]; omega) (by omega) hr2.base ?_
      intro v9 w9 hown9 hg9 _
      obtain ⟨A9, cap9, rfl⟩ := Go.Mem.own_slice hown9
      have hf9 := tb_own hoz2 (Fr.ofGrown hg9)
      have hb9 := (Fr.ofGrown hg9).blk hbA (fun e => by have := (own_block hoz2 e.symm).1; omega)
      have hq9 := (tb_gx (g := g) hf9 (by decide)).blk hH4.2 (gx_line hbA hH4.2)
      have hE9 := far_tb hE hf9 (by decide)
      have hL9 := far_tb hL hf9 (by decide)
      have hzs := zs_snoc (z := ((⟨x.name, [x.era], [i]⟩, (Value.slice (some ⟨w2.drew.heap.size, 0, none⟩) 1 1), (Value.slice (some ⟨wn2.heap.size, 0, none⟩) 1 1)) : ZV)) hall0 (tb_new hf4 hf9) (own_more (x := ((⟨x.name, [x.era], [i]⟩, (Value.slice (some ⟨w2.drew.heap.size, 0, none⟩) 1 1), (Value.slice (some ⟨wn2.heap.size, 0, none⟩) 1 1)) : ZV)) hown9 rfl) ⟨hE9, hL9⟩ hBw
      rw [HO.out, HZ.out] at hzs
      have HZS := Lib.hid hzs
      refine hK.out _ _ ⟨blkc hb9 4 _ rfl, hq9⟩ (fun hH9 => ?_)
      clear hK K hx hown9 hzs
      try simp only [Act.put, List.setIfInBounds_toArray, List.set_cons_zero, List.set_cons_succ, List.getElem_toArray, List.getElem_cons_succ, List.getElem_cons_zero]
      refine wpAnyH_take (i := 19) (v := ?_) rfl (by kernel_rfl) (by kernel_rfl) (by kernel_rfl) (fun _ _ _ h => h) (Or.inl ⟨by rfl, ?_⟩) (by assumption) ?_
      rotate_left
      · intro w' hSw
        skip
        go_simp
        try with_reducible rfl
      try simp only [Act.put, List.setIfInBounds_toArray, List.set_cons_zero, List.set_cons_succ, List.getElem_toArray, List.getElem_cons_succ, List.getElem_cons_zero]
      refine wpAnyH_take (i := 20) (v := ?_) rfl (by kernel_rfl) (by kernel_rfl) (by kernel_rfl) (fun _ _ _ h => h) (Or.inl ⟨by rfl, ?_⟩) (by assumption) ?_
      rotate_left
      · intro w' hSw
        skip
        go_simp
        try with_reducible rfl
      try simp only [Act.put, List.setIfInBounds_toArray, List.set_cons_zero, List.set_cons_succ, List.getElem_toArray, List.getElem_cons_succ, List.getElem_cons_zero]
      refine wpAnyH_take (i := 21) (v := ?_) rfl (by kernel_rfl) (by kernel_rfl) (by kernel_rfl) (fun _ _ _ h => h) (Or.inl ⟨by rfl, ?_⟩) (by assumption) ?_
      rotate_left
      · intro w' hSw
        skip
        go_simp
        try with_reducible rfl
      try simp only [Act.put, List.setIfInBounds_toArray, List.set_cons_zero, List.set_cons_succ, List.getElem_toArray, List.getElem_cons_succ, List.getElem_cons_zero]
      refine wpAnyH_ready (rs := [22]) (by kernel_rfl) (by simp) ?_
      refine AllReadyH.cons rfl (fun K hK => ?_) AllReadyH.nil
      rw [if_pos (by rfl)]
      refine wp_store1 (v := .slice A9 (zv.length + 1) cap9) rfl rfl (by rfl) (by rfl) hb9 info_z rfl (show 1 < 6 by decide) ?_
      have hS := Fr.set (w := w9) (a := ⟨g, 1, none⟩) (v := .slice A9 (zv.length + 1) cap9) (S := fun i => i = g) rfl
      refine hK.out _ _ ⟨(World.cell?_setCell_other _ _ _ _ (by simp)).trans (blkc hb9 4 _ rfl), hS.blk hq9 (fun e => absurd (blk_same hq9 (e ▸ hb9)) (by decide))⟩ (fun _ => ?_)
      clear hK K
      refine wpAnyH_done (by kernel_rfl) ?_ _
      have hGR : GR w9 B vr (.slice A9 (zv.length + 1) cap9) vl vd (zoneD s i x) := ⟨far_tb hr2.r hf9 (by decide), HZS.out, far_tb hr2.l hf9 (by decide), far_tb hr2.d hf9 (by decide)⟩
      have HGW := Lib.hid (hGR.g hS hlt)
      have hbW := hb9.put' 1 (.slice A9 (zv.length + 1) cap9) rfl
      have hqW := hS.blk hq9 (fun e => absurd (blk_same hq9 (e ▸ hb9)) (by decide))
      have cW19 := blkc hqW 19 (.bool x.era.til.has) rfl
      have cW5 := blkc hbW 5 _ rfl
      have fW5 := free_at hbW 5
      have HBx := Lib.hid hbW
      have HFx := Lib.hid (gx_trans HF2.out (gx_trans (gx_none (Fr.drew w2 _)) (gx_new hf4 (tb_gx (g := g) hf9 (by decide)))))
      clear hbW hqW hGR hS hb9 hq9 hf9 hr2 hoz2 hbA hE hL hE9 hL9
      go_wp2_with fail
      go_end0
      exact ⟨rfl, gat_put hlt HBx.out rfl ⟨HGW.out.r, HGW.out.z, HGW.out.l, HGW.out.d⟩, gx_put (gx_put HFx.out)⟩
    ·
      rw [if_pos (by rfl)]
      refine wp_built (e := 3) (cs := #[intV i]) rfl (by rfl) (info_zl i) ?_
      generalize hwn5 : World.alloc _ _ = wn5
      have hfr5 : Fr _ wn5 (fun _ => False) := hwn5 ▸ Fr.new _ _ _
      have hL := hwn5 ▸ own_made (f := intL) (x := i) (base := w2.drew.heap.size) (e := 3) (Fr.refl w2.drew (fun _ => False)).size rfl rfl
      have hf5 := ff0 (Fr.refl w2.drew (fun _ => False)) hfr5
      refine hK.out _ _ (keep hfr5 hH1) (fun hH5 => ?_)
      clear hK K
      try simp only [Act.put, List.setIfInBounds_toArray, List.set_cons_zero, List.set_cons_succ, List.getElem_toArray, List.getElem_cons_succ, List.getElem_cons_zero]
      refine wpAnyH_ready (rs := [10]) (by kernel_rfl) (by simp) ?_
      refine AllReadyH.cons rfl (fun K hK => ?_) AllReadyH.nil
      rw [if_pos (by rfl)]
      refine wp_built (e := 69) (cs := (eraC x.era)) rfl (by rfl) (info_ze x) ?_
      generalize hwn6 : World.alloc _ _ = wn6
      have hfr6 : Fr _ wn6 (fun _ => False) := hwn6 ▸ Fr.new _ _ _
      have hE := hwn6 ▸ own_made (f := eraL) (x := x.era) (base := w2.drew.heap.size) (e := 69) hf5.size rfl rfl
      have hL := hL.kept hfr6
      have hf6 := ff0 hf5 hfr6
      refine hK.out _ _ (keep hfr6 hH5) (fun hH6 => ?_)
      clear hK K
      try simp only [Act.put, List.setIfInBounds_toArray, List.set_cons_zero, List.set_cons_succ, List.getElem_toArray, List.getElem_cons_succ, List.getElem_cons_zero]
      refine wpAnyH_take (i := 16) (v := _) rfl (by kernel_rfl) (by kernel_rfl) (by kernel_rfl) (fun _ _ _ h => h) ((Or.inl ⟨by rfl, fun w' _ => by kernel_rfl⟩ : YieldsIf _ _ _ _ (.agg #[strV x.name, (Value.slice (some ⟨wn5.heap.size, 0, none⟩) 1 1), (Value.slice (some ⟨w2.drew.heap.size, 0, none⟩) 1 1)]) _)) (by assumption) ?_
      try simp only [Act.put, List.setIfInBounds_toArray, List.set_cons_zero, List.set_cons_succ, List.getElem_toArray, List.getElem_cons_succ, List.getElem_cons_zero]
      refine wpAnyH_ready (rs := [17]) (by kernel_rfl) (by simp) ?_
      refine AllReadyH.cons rfl (fun K hK => ?_) AllReadyH.nil
      rw [if_pos (by rfl)]
      refine wp_built (e := 101) (cs := #[strV x.name, (Value.slice (some ⟨wn5.heap.size, 0, none⟩) 1 1), (Value.slice (some ⟨w2.drew.heap.size, 0, none⟩) 1 1)]) rfl (by rfl) (info_zz _ _ _ rfl rfl rfl) ?_
      generalize hwn7 : World.alloc _ _ = wn7
      have hfr7 : Fr _ wn7 (fun _ => False) := hwn7 ▸ Fr.new _ _ _
      have hx := hwn7 ▸ rd_made wn6 101 #[strV x.name, (Value.slice (some ⟨wn5.heap.size, 0, none⟩) 1 1), (Value.slice (some ⟨w2.drew.heap.size, 0, none⟩) 1 1)]
      have hE := hE.kept hfr7
      have hL := hL.kept hfr7
      have hf7 := ff0 hf6 hfr7
      refine hK.out _ _ (keep hfr7 hH6) (fun hH7 => ?_)
      clear hK K
      try simp only [Act.put, List.setIfInBounds_toArray, List.set_cons_zero, List.set_cons_succ, List.getElem_toArray, List.getElem_cons_succ, List.getElem_cons_zero]
      have hoz2 := hoz0.kept hf7
      have hr2 := HRD.out.kept hf7
      have hbA := hf7.blk HBW.out (fun h => h)
      refine wpAnyH_ready (rs := [18]) (by kernel_rfl) (by simp) ?_
      refine AllReadyH.cons rfl (fun K hK => ?_) AllReadyH.nil
      rw [if_pos (by rfl)]
      refine wp_append_rd _ (.tmp 11) (.tmp 23) 54 rfl B 101 i0 _ 3 64 Tryz.underlying54 hi0 hz0 hz1 hz2 rfl (by decide) _ _ _ rfl hoz2 _ 1 1 #[strV x.name, (Value.slice (some ⟨wn5.heap.size, 0, none⟩) 1 1), (Value.slice (some ⟨w2.drew.heap.size, 0, none⟩) 1 1)].toList rfl hx (one_made (cs := #[strV x.name, (Value.slice (some ⟨wn5.heap.size, 0, none⟩) 1 1), (Value.slice (some ⟨w2.drew.heap.size, 0, none⟩) 1 1)]) (by simp [Value.oneCell'])) (by simp only [maxLen]; omega) (by omega) hr2.base ?_
      intro v9 w9 hown9 hg9 _
      obtain ⟨A9, cap9, rfl⟩ := Go.Mem.own_slice hown9
      have hf9 := tb_own hoz2 (Fr.ofGrown hg9)
      have hb9 := (Fr.ofGrown hg9).blk hbA (fun e => by have := (own_block hoz2 e.symm).1; omega)
      have hq9 := (tb_gx (g := g) hf9 (by decide)).blk hH7.2 (gx_line hbA hH7.2)
      have hE9 := far_tb hE hf9 (by decide)
      have hL9 := far_tb hL hf9 (by decide)
      have hzs := zs_snoc (z := ((⟨x.name, [x.era], [i]⟩, (Value.slice (some ⟨wn5.heap.size, 0, none⟩) 1 1), (Value.slice (some ⟨w2.drew.heap.size, 0, none⟩) 1 1)) : ZV)) hall0 (tb_new hf7 hf9) (own_more (x := ((⟨x.name, [x.era], [i]⟩, (Value.slice (some ⟨wn5.heap.size, 0, none⟩) 1 1), (Value.slice (some ⟨w2.drew.heap.size, 0, none⟩) 1 1)) : ZV)) hown9 rfl) ⟨hE9, hL9⟩ hBw
      rw [HO.out, HZ.out] at hzs
      have HZS := Lib.hid hzs
      refine hK.out _ _ ⟨blkc hb9 4 _ rfl, hq9⟩ (fun hH9 => ?_)
      clear hK K hx hown9 hzs
      try simp only [Act.put, List.setIfInBounds_toArray, List.set_cons_zero, List.set_cons_succ, List.getElem_toArray, List.getElem_cons_succ, List.getElem_cons_zero]
      refine wpAnyH_take (i := 19) (v := ?_) rfl (by kernel_rfl) (by kernel_rfl) (by kernel_rfl) (fun _ _ _ h => h) (Or.inl ⟨by rfl, ?_⟩) (by assumption) ?_
      rotate_left
      · intro w' hSw
        skip
        go_simp
        try with_reducible rfl
      try simp only [Act.put, List.setIfInBounds_toArray, List.set_cons_zero, List.set_cons_succ, List.getElem_toArray, List.getElem_cons_succ, List.getElem_cons_zero]
      refine wpAnyH_take (i := 20) (v := ?_) rfl (by kernel_rfl) (by kernel_rfl) (by kernel_rfl) (fun _ _ _ h => h) (Or.inl ⟨by rfl, ?_⟩) (by assumption) ?_
      rotate_left
      · intro w' hSw
        skip
        go_simp
        try with_reducible rfl
      try simp only [Act.put, List.setIfInBounds_toArray, List.set_cons_zero, List.set_cons_succ, List.getElem_toArray, List.getElem_cons_succ, List.getElem_cons_zero]
      refine wpAnyH_take (i := 21) (v := ?_) rfl (by kernel_rfl) (by kernel_rfl) (by kernel_rfl) (fun _ _ _ h => h) (Or.inl ⟨by rfl, ?_⟩) (by assumption) ?_
      rotate_left
      · intro w' hSw
        skip
        go_simp
        try with_reducible rfl
      try simp only [Act.put, List.setIfInBounds_toArray, List.set_cons_zero, List.set_cons_succ, List.getElem_toArray, List.getElem_cons_succ, List.getElem_cons_zero]
      refine wpAnyH_ready (rs := [22]) (by kernel_rfl) (by simp) ?_
      refine AllReadyH.cons rfl (fun K hK => ?_) AllReadyH.nil
      rw [if_pos (by rfl)]
      refine wp_store1 (v := .slice A9 (zv.length + 1) cap9) rfl rfl (by rfl) (by rfl) hb9 info_z rfl (show 1 < 6 by decide) ?_
      have hS := Fr.set (w := w9) (a := ⟨g, 1, none⟩) (v := .slice A9 (zv.length + 1) cap9) (S := fun i => i = g) rfl
      refine hK.out _ _ ⟨(World.cell?_setCell_other _ _ _ _ (by simp)).trans (blkc hb9 4 _ rfl), hS.blk hq9 (fun e => absurd (blk_same hq9 (e ▸ hb9)) (by decide))⟩ (fun _ => ?_)
      clear hK K
      refine wpAnyH_done (by kernel_rfl) ?_ _
      have hGR : GR w9 B vr (.slice A9 (zv.length + 1) cap9) vl vd (zoneD s i x) := ⟨far_tb hr2.r hf9 (by decide), HZS.out, far_tb hr2.l hf9 (by decide), far_tb hr2.d hf9 (by decide)⟩
      have HGW := Lib.hid (hGR.g hS hlt)
      have hbW := hb9.put' 1 (.slice A9 (zv.length + 1) cap9) rfl
      have hqW := hS.blk hq9 (fun e => absurd (blk_same hq9 (e ▸ hb9)) (by decide))
      have cW19 := blkc hqW 19 (.bool x.era.til.has) rfl
      have cW5 := blkc hbW 5 _ rfl
      have fW5 := free_at hbW 5
      have HBx := Lib.hid hbW
      have HFx := Lib.hid (gx_trans HF2.out (gx_trans (gx_none (Fr.drew w2 _)) (gx_new hf7 (tb_gx (g := g) hf9 (by decide)))))
      clear hbW hqW hGR hS hb9 hq9 hf9 hr2 hoz2 hbA hE hL hE9 hL9
      go_wp2_with fail
      go_end0
      exact ⟨rfl, gat_put hlt HBx.out rfl ⟨HGW.out.r, HGW.out.z, HGW.out.l, HGW.out.d⟩, gx_put (gx_put HFx.out)⟩
  ·
    rw [if_pos (by rfl)]
    refine wp_built (e := 69) (cs := (eraC x.era)) rfl (by rfl) (info_ze x) ?_
    generalize hwn8 : World.alloc _ _ = wn8
    have hfr8 : Fr _ wn8 (fun _ => False) := hwn8 ▸ Fr.new _ _ _
    have hE := hwn8 ▸ own_made (f := eraL) (x := x.era) (base := w2.drew.heap.size) (e := 69) (Fr.refl w2.drew (fun _ => False)).size rfl rfl
    have hf8 := ff0 (Fr.refl w2.drew (fun _ => False)) hfr8
    refine hK.out _ _ (keep hfr8 hHeld) (fun hH8 => ?_)
    clear hK K
    try simp only [Act.put, List.setIfInBounds_toArray, List.set_cons_zero, List.set_cons_succ, List.getElem_toArray, List.getElem_cons_succ, List.getElem_cons_zero]
    refine wpAnyH_ready (rs := [5, 15]) (by kernel_rfl) (by simp) ?_
    refine AllReadyH.cons rfl (fun K hK => ?_) (AllReadyH.cons rfl (fun K hK => ?_) AllReadyH.nil)
    ·
      have hbn9 := hf8.blk HBW.out (fun h => h)
      rw [if_pos (by rfl)]
      refine wp_load1 rfl (by rfl) (blkc hbn9 1 _ rfl) Tryz.underlying54 rfl ?_
      refine hK.out _ _ hH8 (fun hH9 => ?_)
      clear hK K hbn9
      try simp only [Act.put, List.setIfInBounds_toArray, List.set_cons_zero, List.set_cons_succ, List.getElem_toArray, List.getElem_cons_succ, List.getElem_cons_zero]
      refine wpAnyH_ready (rs := [15]) (by kernel_rfl) (by simp) ?_
      refine AllReadyH.cons rfl (fun K hK => ?_) AllReadyH.nil
      rw [if_pos (by rfl)]
      refine wp_built (e := 3) (cs := #[intV i]) rfl (by rfl) (info_zl i) ?_
      generalize hwn10 : World.alloc _ _ = wn10
      have hfr10 : Fr _ wn10 (fun _ => False) := hwn10 ▸ Fr.new _ _ _
      have hL := hwn10 ▸ own_made (f := intL) (x := i) (base := w2.drew.heap.size) (e := 3) hf8.size rfl rfl
      have hE := hE.kept hfr10
      have hf10 := ff0 hf8 hfr10
      refine hK.out _ _ (keep hfr10 hH9) (fun hH10 => ?_)
      clear hK K
      try simp only [Act.put, List.setIfInBounds_toArray, List.set_cons_zero, List.set_cons_succ, List.getElem_toArray, List.getElem_cons_succ, List.getElem_cons_zero]
      refine wpAnyH_take (i := 16) (v := _) rfl (by kernel_rfl) (by kernel_rfl) (by kernel_rfl) (fun _ _ _ h => h) ((Or.inl ⟨by rfl, fun w' _ => by kernel_rfl⟩ : YieldsIf _ _ _ _ (.agg #[strV x.name, (Value.slice (some ⟨w2.drew.heap.size, 0, none⟩) 1 1), (Value.slice (some ⟨wn8.heap.size, 0, none⟩) 1 1)]) _)) (by assumption) ?_
      try simp only [Act.put, List.setIfInBounds_toArray, List.set_cons_zero, List.set_cons_succ, List.getElem_toArray, List.getElem_cons_succ, List.getElem_cons_zero]
      refine wpAnyH_ready (rs := [17]) (by kernel_rfl) (by simp) ?_
      refine AllReadyH.cons rfl (fun K hK => ?_) AllReadyH.nil
      rw [if_pos (by rfl)]
      refine wp_built (e := 101) (cs := #[strV x.name, (Value.slice (some ⟨w2.drew.heap.size, 0, none⟩) 1 1), (Value.slice (some ⟨wn8.heap.size, 0, none⟩) 1 1)]) rfl (by rfl) (info_zz _ _ _ rfl rfl rfl) ?_
      generalize hwn11 : World.alloc _ _ = wn11
      have hfr11 : Fr _ wn11 (fun _ => False) := hwn11 ▸ Fr.new _ _ _
      have hx := hwn11 ▸ rd_made wn10 101 #[strV x.name, (Value.slice (some ⟨w2.drew.heap.size, 0, none⟩) 1 1), (Value.slice (some ⟨wn8.heap.size, 0, none⟩) 1 1)]
      have hE := hE.kept hfr11
      have hL := hL.kept hfr11
      have hf11 := ff0 hf10 hfr11
      refine hK.out _ _ (keep hfr11 hH10) (fun hH11 => ?_)
      clear hK K
      try simp only [Act.put, List.setIfInBounds_toArray, List.set_cons_zero, List.set_cons_succ, List.getElem_toArray, List.getElem_cons_succ, List.getElem_cons_zero]
      have hoz2 := hoz0.kept hf11
      have hr2 := HRD.out.kept hf11
      have hbA := hf11.blk HBW.out (fun h => h)
      refine wpAnyH_ready (rs := [18]) (by kernel_rfl) (by simp) ?_
      refine AllReadyH.cons rfl (fun K hK => ?_) AllReadyH.nil
      rw [if_pos (by rfl)]
      refine wp_append_rd _ (.tmp 11) (.tmp 23) 54 rfl B 101 i0 _ 3 64 Tryz.underlying54 hi0 hz0 hz1 hz2 rfl (by decide) _ _ _ rfl hoz2 _ 1 1 #[strV x.name, (Value.slice (some ⟨w2.drew.heap.size, 0, none⟩) 1 1), (Value.slice (some ⟨wn8.heap.size, 0, none⟩) 1 1)].toList rfl hx (one_made (cs := #[strV x.name, (Value.slice (some ⟨w2.drew.heap.size, 0, none⟩) 1 1), (Value.slice (some ⟨wn8.heap.size, 0, none⟩) 1 1)]) (by simp [Value.oneCell'])) (by simp only [maxLen]; omega) (by omega) hr2.base ?_
      intro v9 w9 hown9 hg9 _
      obtain ⟨A9, cap9, rfl⟩ := Go.Mem.own_slice hown9
      have hf9 := tb_own hoz2 (Fr.ofGrown hg9)
      have hb9 := (Fr.ofGrown hg9).blk hbA (fun e => by have := (own_block hoz2 e.symm).1; omega)
      have hq9 := (tb_gx (g := g) hf9 (by decide)).blk hH11.2 (gx_line hbA hH11.2)
      have hE9 := far_tb hE hf9 (by decide)
      have hL9 := far_tb hL hf9 (by decide)
      have hzs := zs_snoc (z := ((⟨x.name, [x.era], [i]⟩, (Value.slice (some ⟨w2.drew.heap.size, 0, none⟩) 1 1), (Value.slice (some ⟨wn8.heap.size, 0, none⟩) 1 1)) : ZV)) hall0 (tb_new hf11 hf9) (own_more (x := ((⟨x.name, [x.era], [i]⟩, (Value.slice (some ⟨w2.drew.heap.size, 0, none⟩) 1 1), (Value.slice (some ⟨wn8.heap.size, 0, none⟩) 1 1)) : ZV)) hown9 rfl) ⟨hE9, hL9⟩ hBw
      rw [HO.out, HZ.out] at hzs
      have HZS := Lib.hid hzs
      refine hK.out _ _ ⟨blkc hb9 4 _ rfl, hq9⟩ (fun hH9 => ?_)
      clear hK K hx hown9 hzs
      try simp only [Act.put, List.setIfInBounds_toArray, List.set_cons_zero, List.set_cons_succ, List.getElem_toArray, List.getElem_cons_succ, List.getElem_cons_zero]
      refine wpAnyH_take (i := 19) (v := ?_) rfl (by kernel_rfl) (by kernel_rfl) (by kernel_rfl) (fun _ _ _ h => h) (Or.inl ⟨by rfl, ?_⟩) (by assumption) ?_
      rotate_left
      · intro w' hSw
        skip
        go_simp
        try with_reducible rfl
      try simp only [Act.put, List.setIfInBounds_toArray, List.set_cons_zero, List.set_cons_succ, List.getElem_toArray, List.getElem_cons_succ, List.getElem_cons_zero]
      refine wpAnyH_take (i := 20) (v := ?_) rfl (by kernel_rfl) (by kernel_rfl) (by kernel_rfl) (fun _ _ _ h => h) (Or.inl ⟨by rfl, ?_⟩) (by assumption) ?_
      rotate_left
      · intro w' hSw
        skip
        go_simp
        try with_reducible rfl
      try simp only [Act.put, List.setIfInBounds_toArray, List.set_cons_zero, List.set_cons_succ, List.getElem_toArray, List.getElem_cons_succ, List.getElem_cons_zero]
      refine wpAnyH_take (i := 21) (v := ?_) rfl (by kernel_rfl) (by kernel_rfl) (by kernel_rfl) (fun _ _ _ h => h) (Or.inl ⟨by rfl, ?_⟩) (by assumption) ?_
      rotate_left
      · intro w' hSw
        skip
        go_simp
        try with_reducible rfl
      try simp only [Act.put, List.setIfInBounds_toArray, List.set_cons_zero, List.set_cons_succ, List.getElem_toArray, List.getElem_cons_succ, List.getElem_cons_zero]
      refine wpAnyH_ready (rs := [22]) (by kernel_rfl) (by simp) ?_
      refine AllReadyH.cons rfl (fun K hK => ?_) AllReadyH.nil
      rw [if_pos (by rfl)]
      refine wp_store1 (v := .slice A9 (zv.length + 1) cap9) rfl rfl (by rfl) (by rfl) hb9 info_z rfl (show 1 < 6 by decide) ?_
      have hS := Fr.set (w := w9) (a := ⟨g, 1, none⟩) (v := .slice A9 (zv.length + 1) cap9) (S := fun i => i = g) rfl
      refine hK.out _ _ ⟨(World.cell?_setCell_other _ _ _ _ (by simp)).trans (blkc hb9 4 _ rfl), hS.blk hq9 (fun e => absurd (blk_same hq9 (e ▸ hb9)) (by decide))⟩ (fun _ => ?_)
      clear hK K
      refine wpAnyH_done (by kernel_rfl) ?_ _
      have hGR : GR w9 B vr (.slice A9 (zv.length + 1) cap9) vl vd (zoneD s i x) := ⟨far_tb hr2.r hf9 (by decide), HZS.out, far_tb hr2.l hf9 (by decide), far_tb hr2.d hf9 (by decide)⟩
      have HGW := Lib.hid (hGR.g hS hlt)
      have hbW := hb9.put' 1 (.slice A9 (zv.length + 1) cap9) rfl
      have hqW := hS.blk hq9 (fun e => absurd (blk_same hq9 (e ▸ hb9)) (by decide))
      have cW19 := blkc hqW 19 (.bool x.era.til.has) rfl
      have cW5 := blkc hbW 5 _ rfl
      have fW5 := free_at hbW 5
      have HBx := Lib.hid hbW
      have HFx := Lib.hid (gx_trans HF2.out (gx_trans (gx_none (Fr.drew w2 _)) (gx_new hf11 (tb_gx (g := g) hf9 (by decide)))))
      clear hbW hqW hGR hS hb9 hq9 hf9 hr2 hoz2 hbA hE hL hE9 hL9
      go_wp2_with fail
      go_end0
      exact ⟨rfl, gat_put hlt HBx.out rfl ⟨HGW.out.r, HGW.out.z, HGW.out.l, HGW.out.d⟩, gx_put (gx_put HFx.out)⟩
    ·
      rw [if_pos (by rfl)]
      refine wp_built (e := 3) (cs := #[intV i]) rfl (by rfl) (info_zl i) ?_
      generalize hwn12 : World.alloc _ _ = wn12
      have hfr12 : Fr _ wn12 (fun _ => False) := hwn12 ▸ Fr.new _ _ _
      have hL := hwn12 ▸ own_made (f := intL) (x := i) (base := w2.drew.heap.size) (e := 3) hf8.size rfl rfl
      have hE := hE.kept hfr12
      have hf12 := ff0 hf8 hfr12
      refine hK.out _ _ (keep hfr12 hH8) (fun hH12 => ?_)
      clear hK K
      try simp only [Act.put, List.setIfInBounds_toArray, List.set_cons_zero, List.set_cons_succ, List.getElem_toArray, List.getElem_cons_succ, List.getElem_cons_zero]
      refine wpAnyH_take (i := 16) (v := _) rfl (by kernel_rfl) (by kernel_rfl) (by kernel_rfl) (fun _ _ _ h => h) ((Or.inl ⟨by rfl, fun w' _ => by kernel_rfl⟩ : YieldsIf _ _ _ _ (.agg #[strV x.name, (Value.slice (some ⟨w2.drew.heap.size, 0, none⟩) 1 1), (Value.slice (some ⟨wn8.heap.size, 0, none⟩) 1 1)]) _)) (by assumption) ?_
      try simp only [Act.put, List.setIfInBounds_toArray, List.set_cons_zero, List.set_cons_succ, List.getElem_toArray, List.getElem_cons_succ, List.getElem_cons_zero]
      refine wpAnyH_ready (rs := [5, 17]) (by kernel_rfl) (by simp) ?_
      refine AllReadyH.cons rfl (fun K hK => ?_) (AllReadyH.cons rfl (fun K hK => ?_) AllReadyH.nil)
      ·
        have hbn13 := hf12.blk HBW.out (fun h => h)
        rw [if_pos (by rfl)]
        refine wp_load1 rfl (by rfl) (blkc hbn13 1 _ rfl) Tryz.underlying54 rfl ?_
        refine hK.out _ _ hH12 (fun hH13 => ?_)
        clear hK K hbn13
        try simp only [Act.put, List.setIfInBounds_toArray, List.set_cons_zero, List.set_cons_succ, List.getElem_toArray, List.getElem_cons_succ, List.getElem_cons_zero]
        refine wpAnyH_ready (rs := [17]) (by kernel_rfl) (by simp) ?_
        refine AllReadyH.cons rfl (fun K hK => ?_) AllReadyH.nil
        rw [if_pos (by rfl)]
        refine wp_built (e := 101) (cs := #[strV x.name, (Value.slice (some ⟨w2.drew.heap.size, 0, none⟩) 1 1), (Value.slice (some ⟨wn8.heap.size, 0, none⟩) 1 1)]) rfl (by rfl) (info_zz _ _ _ rfl rfl rfl) ?_
        generalize hwn14 : World.alloc _ _ = wn14
        have hfr14 : Fr _ wn14 (fun _ => False) := hwn14 ▸ Fr.new _ _ _
        have hx := hwn14 ▸ rd_made wn12 101 #[strV x.name, (Value.slice (some ⟨w2.drew.heap.size, 0, none⟩) 1 1), (Value.slice (some ⟨wn8.heap.size, 0, none⟩) 1 1)]
        have hE := hE.kept hfr14
        have hL := hL.kept hfr14
        have hf14 := ff0 hf12 hfr14
        refine hK.out _ _ (keep hfr14 hH13) (fun hH14 => ?_)
        clear hK K
        try simp only [Act.put, List.setIfInBounds_toArray, List.set_cons_zero, List.set_cons_succ, List.getElem_toArray, List.getElem_cons_succ, List.getElem_cons_zero]
        have hoz2 := hoz0.kept hf14
        have hr2 := HRD.out.kept hf14
        have hbA := hf14.blk HBW.out (fun h => h)
        refine wpAnyH_ready (rs := [18]) (by kernel_rfl) (by simp) ?_
        refine AllReadyH.cons rfl (fun K hK => ?_) AllReadyH.nil
        rw [if_pos (by rfl)]
        refine wp_append_rd _ (.tmp 11) (.tmp 23) 54 rfl B 101 i0 _ 3 64 Tryz.underlying54 hi0 hz0 hz1 hz2 rfl (by decide) _ _ _ rfl hoz2 _ 1 1 #[strV x.name, (Value.slice (some ⟨w2.drew.heap.size, 0, none⟩) 1 1), (Value.slice (some ⟨wn8.heap.size, 0, none⟩) 1 1)].toList rfl hx (one_made (cs := #[strV x.name, (Value.slice (some ⟨w2.drew.heap.size, 0, none⟩) 1 1), (Value.slice (some ⟨wn8.heap.size, 0, none⟩) 1 1)]) (by simp [Value.oneCell'])) (by simp only [maxLen]; omega) (by omega) hr2.base ?_
        intro v9 w9 hown9 hg9 _
        obtain ⟨A9, cap9, rfl⟩ := Go.Mem.own_slice hown9
        have hf9 := tb_own hoz2 (Fr.ofGrown hg9)
        have hb9 := (Fr.ofGrown hg9).blk hbA (fun e => by have := (own_block hoz2 e.symm).1; omega)
        have hq9 := (tb_gx (g := g) hf9 (by decide)).blk hH14.2 (gx_line hbA hH14.2)
        have hE9 := far_tb hE hf9 (by decide)
        have hL9 := far_tb hL hf9 (by decide)
        have hzs := zs_snoc (z := ((⟨x.name, [x.era], [i]⟩, (Value.slice (some ⟨w2.drew.heap.size, 0, none⟩) 1 1), (Value.slice (some ⟨wn8.heap.size, 0, none⟩) 1 1)) : ZV)) hall0 (tb_new hf14 hf9) (own_more (x := ((⟨x.name, [x.era], [i]⟩, (Value.slice (some ⟨w2.drew.heap.size, 0, none⟩) 1 1), (Value.slice (some ⟨wn8.heap.size, 0, none⟩) 1 1)) : ZV)) hown9 rfl) ⟨hE9, hL9⟩ hBw
        rw [HO.out, HZ.out] at hzs
        have HZS := Lib.hid hzs
        refine hK.out _ _ ⟨blkc hb9 4 _ rfl, hq9⟩ (fun hH9 => ?_)
        clear hK K hx hown9 hzs
        try simp only [Act.put, List.setIfInBounds_toArray, List.set_cons_zero, List.set_cons_succ, List.getElem_toArray, List.getElem_cons_succ, List.getElem_cons_zero]
        refine wpAnyH_take (i := 19) (v := ?_) rfl (by kernel_rfl) (by kernel_rfl) (by kernel_rfl) (fun _ _ _ h => h) (Or.inl ⟨by rfl, ?_⟩) (by assumption) ?_
        rotate_left
        · intro w' hSw
          skip
          go_simp
          try with_reducible rfl
        try simp only [Act.put, List.setIfInBounds_toArray, List.set_cons_zero, List.set_cons_succ, List.getElem_toArray, List.getElem_cons_succ, List.getElem_cons_zero]
        refine wpAnyH_take (i := 20) (v := ?_) rfl (by kernel_rfl) (by kernel_rfl) (by kernel_rfl) (fun _ _ _ h => h) (Or.inl ⟨by rfl, ?_⟩) (by assumption) ?_
        rotate_left
        · intro w' hSw
          skip
          go_simp
          try with_reducible rfl
        try simp only [Act.put, List.setIfInBounds_toArray, List.set_cons_zero, List.set_cons_succ, List.getElem_toArray, List.getElem_cons_succ, List.getElem_cons_zero]
        refine wpAnyH_take (i := 21) (v := ?_) rfl (by kernel_rfl) (by kernel_rfl) (by kernel_rfl) (fun _ _ _ h => h) (Or.inl ⟨by rfl, ?_⟩) (by assumption) ?_
        rotate_left
        · intro w' hSw
          skip
          go_simp
          try with_reducible rfl
        try simp only [Act.put, List.setIfInBounds_toArray, List.set_cons_zero, List.set_cons_succ, List.getElem_toArray, List.getElem_cons_succ, List.getElem_cons_zero]
        refine wpAnyH_ready (rs := [22]) (by kernel_rfl) (by simp) ?_
        refine AllReadyH.cons rfl (fun K hK => ?_) AllReadyH.nil
        rw [if_pos (by rfl)]
        refine wp_store1 (v := .slice A9 (zv.length + 1) cap9) rfl rfl (by rfl) (by rfl) hb9 info_z rfl (show 1 < 6 by decide) ?_
        have hS := Fr.set (w := w9) (a := ⟨g, 1, none⟩) (v := .slice A9 (zv.length + 1) cap9) (S := fun i => i = g) rfl
        refine hK.out _ _ ⟨(World.cell?_setCell_other _ _ _ _ (by simp)).trans (blkc hb9 4 _ rfl), hS.blk hq9 (fun e => absurd (blk_same hq9 (e ▸ hb9)) (by decide))⟩ (fun _ => ?_)
        clear hK K
        refine wpAnyH_done (by kernel_rfl) ?_ _
        have hGR : GR w9 B vr (.slice A9 (zv.length + 1) cap9) vl vd (zoneD s i x) := ⟨far_tb hr2.r hf9 (by decide), HZS.out, far_tb hr2.l hf9 (by decide), far_tb hr2.d hf9 (by decide)⟩
        have HGW := Lib.hid (hGR.g hS hlt)
        have hbW := hb9.put' 1 (.slice A9 (zv.length + 1) cap9) rfl
        have hqW := hS.blk hq9 (fun e => absurd (blk_same hq9 (e ▸ hb9)) (by decide))
        have cW19 := blkc hqW 19 (.bool x.era.til.has) rfl
        have cW5 := blkc hbW 5 _ rfl
        have fW5 := free_at hbW 5
        have HBx := Lib.hid hbW
        have HFx := Lib.hid (gx_trans HF2.out (gx_trans (gx_none (Fr.drew w2 _)) (gx_new hf14 (tb_gx (g := g) hf9 (by decide)))))
        clear hbW hqW hGR hS hb9 hq9 hf9 hr2 hoz2 hbA hE hL hE9 hL9
        go_wp2_with fail
        go_end0
        exact ⟨rfl, gat_put hlt HBx.out rfl ⟨HGW.out.r, HGW.out.z, HGW.out.l, HGW.out.d⟩, gx_put (gx_put HFx.out)⟩
      ·
        rw [if_pos (by rfl)]
        refine wp_built (e := 101) (cs := #[strV x.name, (Value.slice (some ⟨w2.drew.heap.size, 0, none⟩) 1 1), (Value.slice (some ⟨wn8.heap.size, 0, none⟩) 1 1)]) rfl (by rfl) (info_zz _ _ _ rfl rfl rfl) ?_
        generalize hwn15 : World.alloc _ _ = wn15
        have hfr15 : Fr _ wn15 (fun _ => False) := hwn15 ▸ Fr.new _ _ _
        have hx := hwn15 ▸ rd_made wn12 101 #[strV x.name, (Value.slice (some ⟨w2.drew.heap.size, 0, none⟩) 1 1), (Value.slice (some ⟨wn8.heap.size, 0, none⟩) 1 1)]
        have hE := hE.kept hfr15
        have hL := hL.kept hfr15
        have hf15 := ff0 hf12 hfr15
        refine hK.out _ _ (keep hfr15 hH12) (fun hH15 => ?_)
        clear hK K
        try simp only [Act.put, List.setIfInBounds_toArray, List.set_cons_zero, List.set_cons_succ, List.getElem_toArray, List.getElem_cons_succ, List.getElem_cons_zero]
        refine wpAnyH_ready (rs := [5]) (by kernel_rfl) (by simp) ?_
        refine AllReadyH.cons rfl (fun K hK => ?_) AllReadyH.nil
        have hbn16 := hf15.blk HBW.out (fun h => h)
        rw [if_pos (by rfl)]
        refine wp_load1 rfl (by rfl) (blkc hbn16 1 _ rfl) Tryz.underlying54 rfl ?_
        refine hK.out _ _ hH15 (fun hH16 => ?_)
        clear hK K hbn16
        try simp only [Act.put, List.setIfInBounds_toArray, List.set_cons_zero, List.set_cons_succ, List.getElem_toArray, List.getElem_cons_succ, List.getElem_cons_zero]
        have hoz2 := hoz0.kept hf15
        have hr2 := HRD.out.kept hf15
        have hbA := hf15.blk HBW.out (fun h => h)
        refine wpAnyH_ready (rs := [18]) (by kernel_rfl) (by simp) ?_
        refine AllReadyH.cons rfl (fun K hK => ?_) AllReadyH.nil
        rw [if_pos (by rfl)]
        refine wp_append_rd _ (.tmp 11) (.tmp 23) 54 rfl B 101 i0 _ 3 64 Tryz.underlying54 hi0 hz0 hz1 hz2 rfl (by decide) _ _ _ rfl hoz2 _ 1 1 #[strV x.name, (Value.slice (some ⟨w2.drew.heap.size, 0, none⟩) 1 1), (Value.slice (some ⟨wn8.heap.size, 0, none⟩) 1 1)].toList rfl hx (one_made (cs := #[strV x.name, (Value.slice (some ⟨w2.drew.heap.size, 0, none⟩) 1 1), (Value.slice (some ⟨wn8.heap.size, 0, none⟩) 1 1)]) (by simp [Value.oneCell'])) (by simp only [maxLen]; omega) (by omega) hr2.base ?_
        intro v9 w9 hown9 hg9 _
        obtain ⟨A9, cap9, rfl⟩ := Go.Mem.own_slice hown9
        have hf9 := tb_own hoz2 (Fr.ofGrown hg9)
        have hb9 := (Fr.ofGrown hg9).blk hbA (fun e => by have := (own_block hoz2 e.symm).1; omega)
        have hq9 := (tb_gx (g := g) hf9 (by decide)).blk hH16.2 (gx_line hbA hH16.2)
        have hE9 := far_tb hE hf9 (by decide)
        have hL9 := far_tb hL hf9 (by decide)
        have hzs := zs_snoc (z := ((⟨x.name, [x.era], [i]⟩, (Value.slice (some ⟨w2.drew.heap.size, 0, none⟩) 1 1), (Value.slice (some ⟨wn8.heap.size, 0, none⟩) 1 1)) : ZV)) hall0 (tb_new hf15 hf9) (own_more (x := ((⟨x.name, [x.era], [i]⟩, (Value.slice (some ⟨w2.drew.heap.size, 0, none⟩) 1 1), (Value.slice (some ⟨wn8.heap.size, 0, none⟩) 1 1)) : ZV)) hown9 rfl) ⟨hE9, hL9⟩ hBw
        rw [HO.out, HZ.out] at hzs
        have HZS := Lib.hid hzs
        refine hK.out _ _ ⟨blkc hb9 4 _ rfl, hq9⟩ (fun hH9 => ?_)
        clear hK K hx hown9 hzs
        try simp only [Act.put, List.setIfInBounds_toArray, List.set_cons_zero, List.set_cons_succ, List.getElem_toArray, List.getElem_cons_succ, List.getElem_cons_zero]
        refine wpAnyH_take (i := 19) (v := ?_) rfl (by kernel_rfl) (by kernel_rfl) (by kernel_rfl) (fun _ _ _ h => h) (Or.inl ⟨by rfl, ?_⟩) (by assumption) ?_
        rotate_left
        · intro w' hSw
          skip
          go_simp
          try with_reducible rfl
        try simp only [Act.put, List.setIfInBounds_toArray, List.set_cons_zero, List.set_cons_succ, List.getElem_toArray, List.getElem_cons_succ, List.getElem_cons_zero]
        refine wpAnyH_take (i := 20) (v := ?_) rfl (by kernel_rfl) (by kernel_rfl) (by kernel_rfl) (fun _ _ _ h => h) (Or.inl ⟨by rfl, ?_⟩) (by assumption) ?_
        rotate_left
        · intro w' hSw
          skip
          go_simp
          try with_reducible rfl
        try simp only [Act.put, List.setIfInBounds_toArray, List.set_cons_zero, List.set_cons_succ, List.getElem_toArray, List.getElem_cons_succ, List.getElem_cons_zero]
        refine wpAnyH_take (i := 21) (v := ?_) rfl (by kernel_rfl) (by kernel_rfl) (by kernel_rfl) (fun _ _ _ h => h) (Or.inl ⟨by rfl, ?_⟩) (by assumption) ?_
        rotate_left
        · intro w' hSw
          skip
          go_simp
          try with_reducible rfl
        try simp only [Act.put, List.setIfInBounds_toArray, List.set_cons_zero, List.set_cons_succ, List.getElem_toArray, List.getElem_cons_succ, List.getElem_cons_zero]
        refine wpAnyH_ready (rs := [22]) (by kernel_rfl) (by simp) ?_
        refine AllReadyH.cons rfl (fun K hK => ?_) AllReadyH.nil
        rw [if_pos (by rfl)]
        refine wp_store1 (v := .slice A9 (zv.length + 1) cap9) rfl rfl (by rfl) (by rfl) hb9 info_z rfl (show 1 < 6 by decide) ?_
        have hS := Fr.set (w := w9) (a := ⟨g, 1, none⟩) (v := .slice A9 (zv.length + 1) cap9) (S := fun i => i = g) rfl
        refine hK.out _ _ ⟨(World.cell?_setCell_other _ _ _ _ (by simp)).trans (blkc hb9 4 _ rfl), hS.blk hq9 (fun e => absurd (blk_same hq9 (e ▸ hb9)) (by decide))⟩ (fun _ => ?_)
        clear hK K
        refine wpAnyH_done (by kernel_rfl) ?_ _
        have hGR : GR w9 B vr (.slice A9 (zv.length + 1) cap9) vl vd (zoneD s i x) := ⟨far_tb hr2.r hf9 (by decide), HZS.out, far_tb hr2.l hf9 (by decide), far_tb hr2.d hf9 (by decide)⟩
        have HGW := Lib.hid (hGR.g hS hlt)
        have hbW := hb9.put' 1 (.slice A9 (zv.length + 1) cap9) rfl
        have hqW := hS.blk hq9 (fun e => absurd (blk_same hq9 (e ▸ hb9)) (by decide))
        have cW19 := blkc hqW 19 (.bool x.era.til.has) rfl
        have cW5 := blkc hbW 5 _ rfl
        have fW5 := free_at hbW 5
        have HBx := Lib.hid hbW
        have HFx := Lib.hid (gx_trans HF2.out (gx_trans (gx_none (Fr.drew w2 _)) (gx_new hf15 (tb_gx (g := g) hf9 (by decide)))))
        clear hbW hqW hGR hS hb9 hq9 hf9 hr2 hoz2 hbA hE hL hE9 hL9
        go_wp2_with fail
        go_end0
        exact ⟨rfl, gat_put hlt HBx.out rfl ⟨HGW.out.r, HGW.out.z, HGW.out.l, HGW.out.d⟩, gx_put (gx_put HFx.out)⟩
  ·
    rw [if_pos (by rfl)]
    refine wp_built (e := 3) (cs := #[intV i]) rfl (by rfl) (info_zl i) ?_
    generalize hwn17 : World.alloc _ _ = wn17
    have hfr17 : Fr _ wn17 (fun _ => False) := hwn17 ▸ Fr.new _ _ _
    have hL := hwn17 ▸ own_made (f := intL) (x := i) (base := w2.drew.heap.size) (e := 3) (Fr.refl w2.drew (fun _ => False)).size rfl rfl
    have hf17 := ff0 (Fr.refl w2.drew (fun _ => False)) hfr17
    refine hK.out _ _ (keep hfr17 hHeld) (fun hH17 => ?_)
    clear hK K
    try simp only [Act.put, List.setIfInBounds_toArray, List.set_cons_zero, List.set_cons_succ, List.getElem_toArray, List.getElem_cons_succ, List.getElem_cons_zero]
    refine wpAnyH_ready (rs := [5, 10]) (by kernel_rfl) (by simp) ?_
    refine AllReadyH.cons rfl (fun K hK => ?_) (AllReadyH.cons rfl (fun K hK => ?_) AllReadyH.nil)
    ·
      have hbn18 := hf17.blk HBW.out (fun h => h)
      rw [if_pos (by rfl)]
      refine wp_load1 rfl (by rfl) (blkc hbn18 1 _ rfl) Tryz.underlying54 rfl ?_
      refine hK.out _ _ hH17 (fun hH18 => ?_)
      clear hK K hbn18
      try simp only [Act.put, List.setIfInBounds_toArray, List.set_cons_zero, List.set_cons_succ, List.getElem_toArray, List.getElem_cons_succ, List.getElem_cons_zero]
      refine wpAnyH_ready (rs := [10]) (by kernel_rfl) (by simp) ?_
      refine AllReadyH.cons rfl (fun K hK => ?_) AllReadyH.nil
      rw [if_pos (by rfl)]
      refine wp_built (e := 69) (cs := (eraC x.era)) rfl (by rfl) (info_ze x) ?_
      generalize hwn19 : World.alloc _ _ = wn19
      have hfr19 : Fr _ wn19 (fun _ => False) := hwn19 ▸ Fr.new _ _ _
      have hE := hwn19 ▸ own_made (f := eraL) (x := x.era) (base := w2.drew.heap.size) (e := 69) hf17.size rfl rfl
      have hL := hL.kept hfr19
      have hf19 := ff0 hf17 hfr19
      refine hK.out _ _ (keep hfr19 hH18) (fun hH19 => ?_)
      clear hK K
      try simp only [Act.put, List.setIfInBounds_toArray, List.set_cons_zero, List.set_cons_succ, List.getElem_toArray, List.getElem_cons_succ, List.getElem_cons_zero]
      refine wpAnyH_take (i := 16) (v := _) rfl (by kernel_rfl) (by kernel_rfl) (by kernel_rfl) (fun _ _ _ h => h) ((Or.inl ⟨by rfl, fun w' _ => by kernel_rfl⟩ : YieldsIf _ _ _ _ (.agg #[strV x.name, (Value.slice (some ⟨wn17.heap.size, 0, none⟩) 1 1), (Value.slice (some ⟨w2.drew.heap.size, 0, none⟩) 1 1)]) _)) (by assumption) ?_
      try simp only [Act.put, List.setIfInBounds_toArray, List.set_cons_zero, List.set_cons_succ, List.getElem_toArray, List.getElem_cons_succ, List.getElem_cons_zero]
      refine wpAnyH_ready (rs := [17]) (by kernel_rfl) (by simp) ?_
      refine AllReadyH.cons rfl (fun K hK => ?_) AllReadyH.nil
      rw [if_pos (by rfl)]
      refine wp_built (e := 101) (cs := #[strV x.name, (Value.slice (some ⟨wn17.heap.size, 0, none⟩) 1 1), (Value.slice (some ⟨w2.drew.heap.size, 0, none⟩) 1 1)]) rfl (by rfl) (info_zz _ _ _ rfl rfl rfl) ?_
      generalize hwn20 : World.alloc _ _ = wn20
      have hfr20 : Fr _ wn20 (fun _ => False) := hwn20 ▸ Fr.new _ _ _
      have hx := hwn20 ▸ rd_made wn19 101 #[strV x.name, (Value.slice (some ⟨wn17.heap.size, 0, none⟩) 1 1), (Value.slice (some ⟨w2.drew.heap.size, 0, none⟩) 1 1)]
      have hE := hE.kept hfr20
      have hL := hL.kept hfr20
      have hf20 := ff0 hf19 hfr20
      refine hK.out _ _ (keep hfr20 hH19) (fun hH20 => ?_)
      clear hK K
      try simp only [Act.put, List.setIfInBounds_toArray, List.set_cons_zero, List.set_cons_succ, List.getElem_toArray, List.getElem_cons_succ, List.getElem_cons_zero]
      have hoz2 := hoz0.kept hf20
      have hr2 := HRD.out.kept hf20
      have hbA := hf20.blk HBW.out (fun h => h)
      refine wpAnyH_ready (rs := [18]) (by kernel_rfl) (by simp) ?_
      refine AllReadyH.cons rfl (fun K hK => ?_) AllReadyH.nil
      rw [if_pos (by rfl)]
      refine wp_append_rd _ (.tmp 11) (.tmp 23) 54 rfl B 101 i0 _ 3 64 Tryz.underlying54 hi0 hz0 hz1 hz2 rfl (by decide) _ _ _ rfl hoz2 _ 1 1 #[strV x.name, (Value.slice (some ⟨wn17.heap.size, 0, none⟩) 1 1), (Value.slice (some ⟨w2.drew.heap.size, 0, none⟩) 1 1)].toList rfl hx (one_made (cs := #[strV x.name, (Value.slice (some ⟨wn17.heap.size, 0, none⟩) 1 1), (Value.slice (some ⟨w2.drew.heap.size, 0, none⟩) 1 1)]) (by simp [Value.oneCell'])) (by simp only [maxLen]; omega) (by omega) hr2.base ?_
      intro v9 w9 hown9 hg9 _
      obtain ⟨A9, cap9, rfl⟩ := Go.Mem.own_slice hown9
      have hf9 := tb_own hoz2 (Fr.ofGrown hg9)
      have hb9 := (Fr.ofGrown hg9).blk hbA (fun e => by have := (own_block hoz2 e.symm).1; omega)
      have hq9 := (tb_gx (g := g) hf9 (by decide)).blk hH20.2 (gx_line hbA hH20.2)
      have hE9 := far_tb hE hf9 (by decide)
      have hL9 := far_tb hL hf9 (by decide)
      have hzs := zs_snoc (z := ((⟨x.name, [x.era], [i]⟩, (Value.slice (some ⟨wn17.heap.size, 0, none⟩) 1 1), (Value.slice (some ⟨w2.drew.heap.size, 0, none⟩) 1 1)) : ZV)) hall0 (tb_new hf20 hf9) (own_more (x := ((⟨x.name, [x.era], [i]⟩, (Value.slice (some ⟨wn17.heap.size, 0, none⟩) 1 1), (Value.slice (some ⟨w2.drew.heap.size, 0, none⟩) 1 1)) : ZV)) hown9 rfl) ⟨hE9, hL9⟩ hBw
      rw [HO.out, HZ.out] at hzs
      have HZS := Lib.hid hzs
      refine hK.out _ _ ⟨blkc hb9 4 _ rfl, hq9⟩ (fun hH9 => ?_)
      clear hK K hx hown9 hzs
      try simp only [Act.put, List.setIfInBounds_toArray, List.set_cons_zero, List.set_cons_succ, List.getElem_toArray, List.getElem_cons_succ, List.getElem_cons_zero]
      refine wpAnyH_take (i := 19) (v := ?_) rfl (by kernel_rfl) (by kernel_rfl) (by kernel_rfl) (fun _ _ _ h => h) (Or.inl ⟨by rfl, ?_⟩) (by assumption) ?_
      rotate_left
      · intro w' hSw
        skip
        go_simp
        try with_reducible rfl
      try simp only [Act.put, List.setIfInBounds_toArray, List.set_cons_zero, List.set_cons_succ, List.getElem_toArray, List.getElem_cons_succ, List.getElem_cons_zero]
      refine wpAnyH_take (i := 20) (v := ?_) rfl (by kernel_rfl) (by kernel_rfl) (by kernel_rfl) (fun _ _ _ h => h) (Or.inl ⟨by rfl, ?_⟩) (by assumption) ?_
      rotate_left
      · intro w' hSw
        skip
        go_simp
        try with_reducible rfl
      try simp only [Act.put, List.setIfInBounds_toArray, List.set_cons_zero, List.set_cons_succ, List.getElem_toArray, List.getElem_cons_succ, List.getElem_cons_zero]
      refine wpAnyH_take (i := 21) (v := ?_) rfl (by kernel_rfl) (by kernel_rfl) (by kernel_rfl) (fun _ _ _ h => h) (Or.inl ⟨by rfl, ?_⟩) (by assumption) ?_
      rotate_left
      · intro w' hSw
        skip
        go_simp
        try with_reducible rfl
      try simp only [Act.put, List.setIfInBounds_toArray, List.set_cons_zero, List.set_cons_succ, List.getElem_toArray, List.getElem_cons_succ, List.getElem_cons_zero]
      refine wpAnyH_ready (rs := [22]) (by kernel_rfl) (by simp) ?_
      refine AllReadyH.cons rfl (fun K hK => ?_) AllReadyH.nil
      rw [if_pos (by rfl)]
      refine wp_store1 (v := .slice A9 (zv.length + 1) cap9) rfl rfl (by rfl) (by rfl) hb9 info_z rfl (show 1 < 6 by decide) ?_
      have hS := Fr.set (w := w9) (a := ⟨g, 1, none⟩) (v := .slice A9 (zv.length + 1) cap9) (S := fun i => i = g) rfl
      refine hK.out _ _ ⟨(World.cell?_setCell_other _ _ _ _ (by simp)).trans (blkc hb9 4 _ rfl), hS.blk hq9 (fun e => absurd (blk_same hq9 (e ▸ hb9)) (by decide))⟩ (fun _ => ?_)
      clear hK K
      refine wpAnyH_done (by kernel_rfl) ?_ _
      have hGR : GR w9 B vr (.slice A9 (zv.length + 1) cap9) vl vd (zoneD s i x) := ⟨far_tb hr2.r hf9 (by decide), HZS.out, far_tb hr2.l hf9 (by decide), far_tb hr2.d hf9 (by decide)⟩
      have HGW := Lib.hid (hGR.g hS hlt)
      have hbW := hb9.put' 1 (.slice A9 (zv.length + 1) cap9) rfl
      have hqW := hS.blk hq9 (fun e => absurd (blk_same hq9 (e ▸ hb9)) (by decide))
      have cW19 := blkc hqW 19 (.bool x.era.til.has) rfl
      have cW5 := blkc hbW 5 _ rfl
      have fW5 := free_at hbW 5
      have HBx := Lib.hid hbW
      have HFx := Lib.hid (gx_trans HF2.out (gx_trans (gx_none (Fr.drew w2 _)) (gx_new hf20 (tb_gx (g := g) hf9 (by decide)))))
      clear hbW hqW hGR hS hb9 hq9 hf9 hr2 hoz2 hbA hE hL hE9 hL9
      go_wp2_with fail
      go_end0
      exact ⟨rfl, gat_put hlt HBx.out rfl ⟨HGW.out.r, HGW.out.z, HGW.out.l, HGW.out.d⟩, gx_put (gx_put HFx.out)⟩
    ·
      rw [if_pos (by rfl)]
      refine wp_built (e := 69) (cs := (eraC x.era)) rfl (by rfl) (info_ze x) ?_
      generalize hwn21 : World.alloc _ _ = wn21
      have hfr21 : Fr _ wn21 (fun _ => False) := hwn21 ▸ Fr.new _ _ _
      have hE := hwn21 ▸ own_made (f := eraL) (x := x.era) (base := w2.drew.heap.size) (e := 69) hf17.size rfl rfl
      have hL := hL.kept hfr21
      have hf21 := ff0 hf17 hfr21
      refine hK.out _ _ (keep hfr21 hH17) (fun hH21 => ?_)
      clear hK K
      try simp only [Act.put, List.setIfInBounds_toArray, List.set_cons_zero, List.set_cons_succ, List.getElem_toArray, List.getElem_cons_succ, List.getElem_cons_zero]
      refine wpAnyH_take (i := 16) (v := _) rfl (by kernel_rfl) (by kernel_rfl) (by kernel_rfl) (fun _ _ _ h => h) ((Or.inl ⟨by rfl, fun w' _ => by kernel_rfl⟩ : YieldsIf _ _ _ _ (.agg #[strV x.name, (Value.slice (some ⟨wn17.heap.size, 0, none⟩) 1 1), (Value.slice (some ⟨w2.drew.heap.size, 0, none⟩) 1 1)]) _)) (by assumption) ?_
      try simp only [Act.put, List.setIfInBounds_toArray, List.set_cons_zero, List.set_cons_succ, List.getElem_toArray, List.getElem_cons_succ, List.getElem_cons_zero]
      refine wpAnyH_ready (rs := [5, 17]) (by kernel_rfl) (by simp) ?_
      refine AllReadyH.cons rfl (fun K hK => ?_) (AllReadyH.cons rfl (fun K hK => ?_) AllReadyH.nil)
      ·
        have hbn22 := hf21.blk HBW.out (fun h => h)
        rw [if_pos (by rfl)]
        refine wp_load1 rfl (by rfl) (blkc hbn22 1 _ rfl) Tryz.underlying54 rfl ?_
        refine hK.out _ _ hH21 (fun hH22 => ?_)
        clear hK K hbn22
        try simp only [Act.put, List.setIfInBounds_toArray, List.set_cons_zero, List.set_cons_succ, List.getElem_toArray, List.getElem_cons_succ, List.getElem_cons_zero]
        refine wpAnyH_ready (rs := [17]) (by kernel_rfl) (by simp) ?_
        refine AllReadyH.cons rfl (fun K hK => ?_) AllReadyH.nil
        rw [if_pos (by rfl)]
        refine wp_built (e := 101) (cs := #[strV x.name, (Value.slice (some ⟨wn17.heap.size, 0, none⟩) 1 1), (Value.slice (some ⟨w2.drew.heap.size, 0, none⟩) 1 1)]) rfl (by rfl) (info_zz _ _ _ rfl rfl rfl) ?_
        generalize hwn23 : World.alloc _ _ = wn23
        have hfr23 : Fr _ wn23 (fun _ => False) := hwn23 ▸ Fr.new _ _ _
        have hx := hwn23 ▸ rd_made wn21 101 #[strV x.name, (Value.slice (some ⟨wn17.heap.size, 0, none⟩) 1 1), (Value.slice (some ⟨w2.drew.heap.size, 0, none⟩) 1 1)]
        have hE := hE.kept hfr23
        have hL := hL.kept hfr23
        have hf23 := ff0 hf21 hfr23
        refine hK.out _ _ (keep hfr23 hH22) (fun hH23 => ?_)
        clear hK K
        try simp only [Act.put, List.setIfInBounds_toArray, List.set_cons_zero, List.set_cons_succ, List.getElem_toArray, List.getElem_cons_succ, List.getElem_cons_zero]
        have hoz2 := hoz0.kept hf23
        have hr2 := HRD.out.kept hf23
        have hbA := hf23.blk HBW.out (fun h => h)
        refine wpAnyH_ready (rs := [18]) (by kernel_rfl) (by simp) ?_
        refine AllReadyH.cons rfl (fun K hK => ?_) AllReadyH.nil
        rw [if_pos (by rfl)]
        refine wp_append_rd _ (.tmp 11) (.tmp 23) 54 rfl B 101 i0 _ 3 64 Tryz.underlying54 hi0 hz0 hz1 hz2 rfl (by decide) _ _ _ rfl hoz2 _ 1 1 #[strV x.name, (Value.slice (some ⟨wn17.heap.size, 0, none⟩) 1 1), (Value.slice (some ⟨w2.drew.heap.size, 0, none⟩) 1 1)].toList rfl hx (one_made (cs := #[strV x.name, (Value.slice (some ⟨wn17.heap.size, 0, none⟩) 1 1), (Value.slice (some ⟨w2.drew.heap.size, 0, none⟩) 1 1)]) (by simp [Value.oneCell'])) (by simp only [maxLen]; omega) (by omega) hr2.base ?_
        intro v9 w9 hown9 hg9 _
        obtain ⟨A9, cap9, rfl⟩ := Go.Mem.own_slice hown9
        have hf9 := tb_own hoz2 (Fr.ofGrown hg9)
        have hb9 := (Fr.ofGrown hg9).blk hbA (fun e => by have := (own_block hoz2 e.symm).1; omega)
        have hq9 := (tb_gx (g := g) hf9 (by decide)).blk hH23.2 (gx_line hbA hH23.2)
        have hE9 := far_tb hE hf9 (by decide)
        have hL9 := far_tb hL hf9 (by decide)
        have hzs := zs_snoc (z := ((⟨x.name, [x.era], [i]⟩, (Value.slice (some ⟨wn17.heap.size, 0, none⟩) 1 1), (Value.slice (some ⟨w2.drew.heap.size, 0, none⟩) 1 1)) : ZV)) hall0 (tb_new hf23 hf9) (own_more (x := ((⟨x.name, [x.era], [i]⟩, (Value.slice (some ⟨wn17.heap.size, 0, none⟩) 1 1), (Value.slice (some ⟨w2.drew.heap.size, 0, none⟩) 1 1)) : ZV)) hown9 rfl) ⟨hE9, hL9⟩ hBw
        rw [HO.out, HZ.out] at hzs
        have HZS := Lib.hid hzs
        refine hK.out _ _ ⟨blkc hb9 4 _ rfl, hq9⟩ (fun hH9 => ?_)
        clear hK K hx hown9 hzs
        try simp only [Act.put, List.setIfInBounds_toArray, List.set_cons_zero, List.set_cons_succ, List.getElem_toArray, List.getElem_cons_succ, List.getElem_cons_zero]
        refine wpAnyH_take (i := 19) (v := ?_) rfl (by kernel_rfl) (by kernel_rfl) (by kernel_rfl) (fun _ _ _ h => h) (Or.inl ⟨by rfl, ?_⟩) (by assumption) ?_
        rotate_left
        · intro w' hSw
          skip
          go_simp
          try with_reducible rfl
        try simp only [Act.put, List.setIfInBounds_toArray, List.set_cons_zero, List.set_cons_succ, List.getElem_toArray, List.getElem_cons_succ, List.getElem_cons_zero]
        refine wpAnyH_take (i := 20) (v := ?_) rfl (by kernel_rfl) (by kernel_rfl) (by kernel_rfl) (fun _ _ _ h => h) (Or.inl ⟨by rfl, ?_⟩) (by assumption) ?_
        rotate_left
        · intro w' hSw
          skip
          go_simp
          try with_reducible rfl
        try simp only [Act.put, List.setIfInBounds_toArray, List.set_cons_zero, List.set_cons_succ, List.getElem_toArray, List.getElem_cons_succ, List.getElem_cons_zero]
        refine wpAnyH_take (i := 21) (v := ?_) rfl (by kernel_rfl) (by kernel_rfl) (by kernel_rfl) (fun _ _ _ h => h) (Or.inl ⟨by rfl, ?_⟩) (by assumption) ?_
        rotate_left
        · intro w' hSw
          skip
          go_simp
          try with_reducible rfl
        try simp only [Act.put, List.setIfInBounds_toArray, List.set_cons_zero, List.set_cons_succ, List.getElem_toArray, List.getElem_cons_succ, List.getElem_cons_zero]
        refine wpAnyH_ready (rs := [22]) (by kernel_rfl) (by simp) ?_
        refine AllReadyH.cons rfl (fun K hK => ?_) AllReadyH.nil
        rw [if_pos (by rfl)]
        refine wp_store1 (v := .slice A9 (zv.length + 1) cap9) rfl rfl (by rfl) (by rfl) hb9 info_z rfl (show 1 < 6 by decide) ?_
        have hS := Fr.set (w := w9) (a := ⟨g, 1, none⟩) (v := .slice A9 (zv.length + 1) cap9) (S := fun i => i = g) rfl
        refine hK.out _ _ ⟨(World.cell?_setCell_other _ _ _ _ (by simp)).trans (blkc hb9 4 _ rfl), hS.blk hq9 (fun e => absurd (blk_same hq9 (e ▸ hb9)) (by decide))⟩ (fun _ => ?_)
        clear hK K
        refine wpAnyH_done (by kernel_rfl) ?_ _
        have hGR : GR w9 B vr (.slice A9 (zv.length + 1) cap9) vl vd (zoneD s i x) := ⟨far_tb hr2.r hf9 (by decide), HZS.out, far_tb hr2.l hf9 (by decide), far_tb hr2.d hf9 (by decide)⟩
        have HGW := Lib.hid (hGR.g hS hlt)
        have hbW := hb9.put' 1 (.slice A9 (zv.length + 1) cap9) rfl
        have hqW := hS.blk hq9 (fun e => absurd (blk_same hq9 (e ▸ hb9)) (by decide))
        have cW19 := blkc hqW 19 (.bool x.era.til.has) rfl
        have cW5 := blkc hbW 5 _ rfl
        have fW5 := free_at hbW 5
        have HBx := Lib.hid hbW
        have HFx := Lib.hid (gx_trans HF2.out (gx_trans (gx_none (Fr.drew w2 _)) (gx_new hf23 (tb_gx (g := g) hf9 (by decide)))))
        clear hbW hqW hGR hS hb9 hq9 hf9 hr2 hoz2 hbA hE hL hE9 hL9
        go_wp2_with fail
        go_end0
        exact ⟨rfl, gat_put hlt HBx.out rfl ⟨HGW.out.r, HGW.out.z, HGW.out.l, HGW.out.d⟩, gx_put (gx_put HFx.out)⟩
      ·
        rw [if_pos (by rfl)]
        refine wp_built (e := 101) (cs := #[strV x.name, (Value.slice (some ⟨wn17.heap.size, 0, none⟩) 1 1), (Value.slice (some ⟨w2.drew.heap.size, 0, none⟩) 1 1)]) rfl (by rfl) (info_zz _ _ _ rfl rfl rfl) ?_
        generalize hwn24 : World.alloc _ _ = wn24
        have hfr24 : Fr _ wn24 (fun _ => False) := hwn24 ▸ Fr.new _ _ _
        have hx := hwn24 ▸ rd_made wn21 101 #[strV x.name, (Value.slice (some ⟨wn17.heap.size, 0, none⟩) 1 1), (Value.slice (some ⟨w2.drew.heap.size, 0, none⟩) 1 1)]
        have hE := hE.kept hfr24
        have hL := hL.kept hfr24
        have hf24 := ff0 hf21 hfr24
        refine hK.out _ _ (keep hfr24 hH21) (fun hH24 => ?_)
        clear hK K
        try simp only [Act.put, List.setIfInBounds_toArray, List.set_cons_zero, List.set_cons_succ, List.getElem_toArray, List.getElem_cons_succ, List.getElem_cons_zero]
        refine wpAnyH_ready (rs := [5]) (by kernel_rfl) (by simp) ?_
        refine AllReadyH.cons rfl (fun K hK => ?_) AllReadyH.nil
        have hbn25 := hf24.blk HBW.out (fun h => h)
        rw [if_pos (by rfl)]
        refine wp_load1 rfl (by rfl) (blkc hbn25 1 _ rfl) Tryz.underlying54 rfl ?_
        refine hK.out _ _ hH24 (fun hH25 => ?_)
        clear hK K hbn25
        try simp only [Act.put, List.setIfInBounds_toArray, List.set_cons_zero, List.set_cons_succ, List.getElem_toArray, List.getElem_cons_succ, List.getElem_cons_zero]
        have hoz2 := hoz0.kept hf24
        have hr2 := HRD.out.kept hf24
        have hbA := hf24.blk HBW.out (fun h => h)
        refine wpAnyH_ready (rs := [18]) (by kernel_rfl) (by simp) ?_
        refine AllReadyH.cons rfl (fun K hK => ?_) AllReadyH.nil
        rw [if_pos (by rfl)]
        refine wp_append_rd _ (.tmp 11) (.tmp 23) 54 rfl B 101 i0 _ 3 64 Tryz.underlying54 hi0 hz0 hz1 hz2 rfl (by decide) _ _ _ rfl hoz2 _ 1 1 #[strV x.name, (Value.slice (some ⟨wn17.heap.size, 0, none⟩) 1 1), (Value.slice (some ⟨w2.drew.heap.size, 0, none⟩) 1 1)].toList rfl hx (one_made (cs := #[strV x.name, (Value.slice (some ⟨wn17.heap.size, 0, none⟩) 1 1), (Value.slice (some ⟨w2.drew.heap.size, 0, none⟩) 1 1)]) (by simp [Value.oneCell'])) (by simp only [maxLen]; omega) (by omega) hr2.base ?_
        intro v9 w9 hown9 hg9 _
        obtain ⟨A9, cap9, rfl⟩ := Go.Mem.own_slice hown9
        have hf9 := tb_own hoz2 (Fr.ofGrown hg9)
        have hb9 := (Fr.ofGrown hg9).blk hbA (fun e => by have := (own_block hoz2 e.symm).1; omega)
        have hq9 := (tb_gx (g := g) hf9 (by decide)).blk hH25.2 (gx_line hbA hH25.2)
        have hE9 := far_tb hE hf9 (by decide)
        have hL9 := far_tb hL hf9 (by decide)
        have hzs := zs_snoc (z := ((⟨x.name, [x.era], [i]⟩, (Value.slice (some ⟨wn17.heap.size, 0, none⟩) 1 1), (Value.slice (some ⟨w2.drew.heap.size, 0, none⟩) 1 1)) : ZV)) hall0 (tb_new hf24 hf9) (own_more (x := ((⟨x.name, [x.era], [i]⟩, (Value.slice (some ⟨wn17.heap.size, 0, none⟩) 1 1), (Value.slice (some ⟨w2.drew.heap.size, 0, none⟩) 1 1)) : ZV)) hown9 rfl) ⟨hE9, hL9⟩ hBw
        rw [HO.out, HZ.out] at hzs
        have HZS := Lib.hid hzs
        refine hK.out _ _ ⟨blkc hb9 4 _ rfl, hq9⟩ (fun hH9 => ?_)
        clear hK K hx hown9 hzs
        try simp only [Act.put, List.setIfInBounds_toArray, List.set_cons_zero, List.set_cons_succ, List.getElem_toArray, List.getElem_cons_succ, List.getElem_cons_zero]
        refine wpAnyH_take (i := 19) (v := ?_) rfl (by kernel_rfl) (by kernel_rfl) (by kernel_rfl) (fun _ _ _ h => h) (Or.inl ⟨by rfl, ?_⟩) (by assumption) ?_
        rotate_left
        · intro w' hSw
          skip
          go_simp
          try with_reducible rfl
        try simp only [Act.put, List.setIfInBounds_toArray, List.set_cons_zero, List.set_cons_succ, List.getElem_toArray, List.getElem_cons_succ, List.getElem_cons_zero]
        refine wpAnyH_take (i := 20) (v := ?_) rfl (by kernel_rfl) (by kernel_rfl) (by kernel_rfl) (fun _ _ _ h => h) (Or.inl ⟨by rfl, ?_⟩) (by assumption) ?_
        rotate_left
        · intro w' hSw
          skip
          go_simp
          try with_reducible rfl
        try simp only [Act.put, List.setIfInBounds_toArray, List.set_cons_zero, List.set_cons_succ, List.getElem_toArray, List.getElem_cons_succ, List.getElem_cons_zero]
        refine wpAnyH_take (i := 21) (v := ?_) rfl (by kernel_rfl) (by kernel_rfl) (by kernel_rfl) (fun _ _ _ h => h) (Or.inl ⟨by rfl, ?_⟩) (by assumption) ?_
        rotate_left
        · intro w' hSw
          skip
          go_simp
          try with_reducible rfl
        try simp only [Act.put, List.setIfInBounds_toArray, List.set_cons_zero, List.set_cons_succ, List.getElem_toArray, List.getElem_cons_succ, List.getElem_cons_zero]
        refine wpAnyH_ready (rs := [22]) (by kernel_rfl) (by simp) ?_
        refine AllReadyH.cons rfl (fun K hK => ?_) AllReadyH.nil
        rw [if_pos (by rfl)]
        refine wp_store1 (v := .slice A9 (zv.length + 1) cap9) rfl rfl (by rfl) (by rfl) hb9 info_z rfl (show 1 < 6 by decide) ?_
        have hS := Fr.set (w := w9) (a := ⟨g, 1, none⟩) (v := .slice A9 (zv.length + 1) cap9) (S := fun i => i = g) rfl
        refine hK.out _ _ ⟨(World.cell?_setCell_other _ _ _ _ (by simp)).trans (blkc hb9 4 _ rfl), hS.blk hq9 (fun e => absurd (blk_same hq9 (e ▸ hb9)) (by decide))⟩ (fun _ => ?_)
        clear hK K
        refine wpAnyH_done (by kernel_rfl) ?_ _
        have hGR : GR w9 B vr (.slice A9 (zv.length + 1) cap9) vl vd (zoneD s i x) := ⟨far_tb hr2.r hf9 (by decide), HZS.out, far_tb hr2.l hf9 (by decide), far_tb hr2.d hf9 (by decide)⟩
        have HGW := Lib.hid (hGR.g hS hlt)
        have hbW := hb9.put' 1 (.slice A9 (zv.length + 1) cap9) rfl
        have hqW := hS.blk hq9 (fun e => absurd (blk_same hq9 (e ▸ hb9)) (by decide))
        have cW19 := blkc hqW 19 (.bool x.era.til.has) rfl
        have cW5 := blkc hbW 5 _ rfl
        have fW5 := free_at hbW 5
        have HBx := Lib.hid hbW
        have HFx := Lib.hid (gx_trans HF2.out (gx_trans (gx_none (Fr.drew w2 _)) (gx_new hf24 (tb_gx (g := g) hf9 (by decide)))))
        clear hbW hqW hGR hS hb9 hq9 hf9 hr2 hoz2 hbA hE hL hE9 hL9
        go_wp2_with fail
        go_end0
        exact ⟨rfl, gat_put hlt HBx.out rfl ⟨HGW.out.r, HGW.out.z, HGW.out.l, HGW.out.d⟩, gx_put (gx_put HFx.out)⟩
end Go.Proofs.YtodcnbejnchmhaaGreatDoor
