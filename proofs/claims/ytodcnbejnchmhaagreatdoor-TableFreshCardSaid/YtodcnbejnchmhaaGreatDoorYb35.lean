import Derived.Test.YtodcnbejnchmhaaGreatDoorYb34
namespace Go.Proofs.YtodcnbejnchmhaaGreatDoor
open Go.RowKit Go.Mem Go.Lin Go.Dcm

theorem infoRdoc : (Tryz.prog.info? 51).map (·.size) = some 4 := by kernel_rfl
theorem info_rrules : (Tryz.prog.info? 46).map (·.size) = some 1 := by kernel_rfl
theorem info_rzones : (Tryz.prog.info? 47).map (·.size) = some 1 := by kernel_rfl
theorem info_rlinks : (Tryz.prog.info? 48).map (·.size) = some 1 := by kernel_rfl
/-- what is made so far of a document -/
structure BkS (W0 W : World) (D B : Nat) (vr vz vl vd : Value) (R : List (RuleL × Int)) (Z : List ZV) (L : List LinkL) : Prop where
  b : Blk W D 51 #[vr, vz, vl, vd]
  r : Own W B 91 12 ruleL vr R
  z : Own W B 95 3 zoneL vz Z
  l : Own W B 99 3 linkL vl L
  f : Fr W0 W (fun i => D ≤ i)
/-- a row of another type stays where x.f = append(x.f, y) -/
theorem own_pb {X : Type} {w W : World} {D B B' : Nat} {e e' : TypeId} {k : Nat} {f : X → List Value} {v : Value} {l : List X} (h : Own w B' e k f v l) (hf : Fr w W (PB D B e' w)) (hne : e ≠ e') (hD : D < B') : Own W B' e k f v l :=
  own_far h hf fun i cs hi hb hx => by
    rcases hx with hx | hx
    · omega
    · exact hne (blk_same hb hx.2.choose_spec)
theorem pb_ge {w W : World} {D B : Nat} {e : TypeId} (hf : Fr w W (PB D B e w)) (hD : D ≤ B) : Fr w W (fun i => D ≤ i) := hf.mono fun i _ h => by
  rcases h with h | h
  · omega
  · have := h.1; omega
theorem ge_trans {a b c : World} {D : Nat} (h : Fr a b (fun i => D ≤ i)) (k : Fr b c (fun i => D ≤ i)) : Fr a c (fun i => D ≤ i) := h.trans k (fun _ _ h => h) (fun _ _ h => h)
def BackPost (d : DocL) (vd : Value) (zv : List ZV) (w : World) (e : Ending) (w' : World) : Prop := ∃ vr vz vl, e = .returned (.agg #[vr, vz, vl, vd]) ∧ Own w' w.heap.size 91 12 ruleL vr d.rules ∧ Own w' w.heap.size 95 3 zoneL vz zv ∧ Own w' w.heap.size 99 3 linkL vl d.links ∧ Fr w w' (fun _ => False)
theorem res_back {w : World} {q : Nat} {cs : Array Value} (hs : cs.size = 4) (hb : Blk w q 51 cs) (tmps : Array Value) (hp : tmps.getD 2 undef = .pointer (some ⟨q, 0, none⟩)) : (results Tryz.f22 tmps).run Tryz.prog w = .ok (.agg cs) w :=
  results_cell_row (P := Tryz.prog) (fn := Tryz.f22) (p := 2) (ty := 51) rfl tmps _ q 51 cs (0, 0) _ hp hb Tryz.underlying51 rfl (by rw [hs]; exact infoRdoc)
set_option maxRecDepth 100000 in
set_option maxHeartbeats 6400000 in
theorem Back_any (d : DocL) (vr vz vl vd : Value) (B1 : Nat) (w : World) (zv : List ZV) (hzv : zv.map (·.1) = d.zones) (hr : Own w B1 100 12 ruleL vr d.rules) (hz : Own w B1 101 3 zoneL vz zv) (hall : ∀ x ∈ zv, ZAt w B1 x) (hl : Own w B1 102 3 linkL vl d.links) (hd : Own w B1 125 4 diagL vd d.diags)
    (h1 : d.rules.length ≤ 100000) (h2 : d.zones.length ≤ 100000) (h3 : d.links.length ≤ 100000) : Calls Tryz.prog 22 #[.agg #[vr, vz, vl, vd]] w (BackPost d vd zv w) := by
  obtain ⟨Ar, cr, rfl, -, -, hrr⟩ := hr.rd
  obtain ⟨Az, cz, rfl, -, -, hrz⟩ := hz.rd
  obtain ⟨Al, cl, rfl, -, -, hrl⟩ := hl.rd
  obtain ⟨Ad, cd, rfl⟩ := hd.slice
  have hzl : zv.length = d.zones.length := by rw [← hzv, List.length_map]
  rw [hzl]
  have s1 : (w.alloc (.cells #[.slice Ar d.rules.length cr, .slice Az d.zones.length cz, .slice Al d.links.length cl, .slice Ad d.diags.length cd] 57)).heap.size = w.heap.size + 1 := by simp
  have s2 : ((w.alloc (.cells #[.slice Ar d.rules.length cr, .slice Az d.zones.length cz, .slice Al d.links.length cl, .slice Ad d.diags.length cd] 57)).alloc (.cells #[.slice none 0 0, .slice none 0 0, .slice none 0 0, .slice none 0 0] 51)).heap.size = w.heap.size + 2 := by simp
  have s3 : (((w.alloc (.cells #[.slice Ar d.rules.length cr, .slice Az d.zones.length cz, .slice Al d.links.length cl, .slice Ad d.diags.length cd] 57)).alloc (.cells #[.slice none 0 0, .slice none 0 0, .slice none 0 0, .slice none 0 0] 51)).alloc (.cells #[.slice none 0 0, .slice none 0 0, .slice none 0 0, .slice Ad d.diags.length cd] 51)).heap.size = w.heap.size + 3 := by simp
  have n1 := Fr.new w (.cells #[.slice Ar d.rules.length cr, .slice Az d.zones.length cz, .slice Al d.links.length cl, .slice Ad d.diags.length cd] 57) (fun _ => False)
  have n2 := Fr.new (w.alloc (.cells #[.slice Ar d.rules.length cr, .slice Az d.zones.length cz, .slice Al d.links.length cl, .slice Ad d.diags.length cd] 57)) (.cells #[.slice none 0 0, .slice none 0 0, .slice none 0 0, .slice none 0 0] 51) (fun _ => False)
  have n3 := Fr.new ((w.alloc (.cells #[.slice Ar d.rules.length cr, .slice Az d.zones.length cz, .slice Al d.links.length cl, .slice Ad d.diags.length cd] 57)).alloc (.cells #[.slice none 0 0, .slice none 0 0, .slice none 0 0, .slice none 0 0] 51)) (.cells #[.slice none 0 0, .slice none 0 0, .slice none 0 0, .slice Ad d.diags.length cd] 51) (fun _ => False)
  have hf3 : Fr w (((w.alloc (.cells #[.slice Ar d.rules.length cr, .slice Az d.zones.length cz, .slice Al d.links.length cl, .slice Ad d.diags.length cd] 57)).alloc (.cells #[.slice none 0 0, .slice none 0 0, .slice none 0 0, .slice none 0 0] 51)).alloc (.cells #[.slice none 0 0, .slice none 0 0, .slice none 0 0, .slice Ad d.diags.length cd] 51)) (fun _ => False) := ff0 (ff0 n1 n2) n3
  have hp := n3.blk (n2.blk (Blk.made w 57 #[.slice Ar d.rules.length cr, .slice Az d.zones.length cz, .slice Al d.links.length cl, .slice Ad d.diags.length cd]) (fun h => h)) (fun h => h)
  have hq := n3.blk (Blk.made (w.alloc (.cells #[.slice Ar d.rules.length cr, .slice Az d.zones.length cz, .slice Al d.links.length cl, .slice Ad d.diags.length cd] 57)) 51 #[.slice none 0 0, .slice none 0 0, .slice none 0 0, .slice none 0 0]) (fun h => h)
  have hD := Blk.made ((w.alloc (.cells #[.slice Ar d.rules.length cr, .slice Az d.zones.length cz, .slice Al d.links.length cl, .slice Ad d.diags.length cd] 57)).alloc (.cells #[.slice none 0 0, .slice none 0 0, .slice none 0 0, .slice none 0 0] 51)) 51 #[.slice none 0 0, .slice none 0 0, .slice none 0 0, .slice Ad d.diags.length cd]
  rw [s1] at hq
  rw [s2] at hD
  obtain ⟨W0, hW0⟩ : ∃ W, (((w.alloc (.cells #[.slice Ar d.rules.length cr, .slice Az d.zones.length cz, .slice Al d.links.length cl, .slice Ad d.diags.length cd] 57)).alloc (.cells #[.slice none 0 0, .slice none 0 0, .slice none 0 0, .slice none 0 0] 51)).alloc (.cells #[.slice none 0 0, .slice none 0 0, .slice none 0 0, .slice Ad d.diags.length cd] 51)) = W := ⟨_, rfl⟩
  rw [hW0] at hp hq hD hf3 s3
  have HS := Lib.hid (show BkS W0 W0 (w.heap.size + 2) (w.heap.size + 3) (.slice none 0 0) (.slice none 0 0) (.slice none 0 0) (.slice Ad d.diags.length cd) (d.rules.take 0) (zv.take 0) (d.links.take 0) from ⟨hD, own_none _ _ _ _ _, own_none _ _ _ _ _, own_none _ _ _ _ _, Fr.refl _ _⟩)
  have HP := Lib.hid hp
  have HQ := Lib.hid hq
  have HF0 := Lib.hid hf3
  have HRR := Lib.hid hrr
  have HRZ := Lib.hid hrz
  have HRL := Lib.hid hrl
  have HAL := Lib.hid hall
  clear n1 n2 n3 hr hz hl hd hrr hrz hrl hall hf3 hp hq hD s1 s2
  go_enter Tryz.func22, Tryz.ntmps22
  go_wp2_with fail
  clear hW0
  go_loopg [4] d.rules.length (fun k v4 wr => ∃ (i : Nat) (vr : Value), i + k = d.rules.length ∧ v4 = intV (i : Int) ∧ BkS W0 wr (w.heap.size + 2) (w.heap.size + 3) vr (.slice none 0 0) (.slice none 0 0) (.slice Ad d.diags.length cd) (d.rules.take i) (zv.take 0) (d.links.take 0))
  case atStart => exact ⟨0, _, by simp, rfl, HS.out⟩
  case round =>
    obtain ⟨i, vr, hik, rfl, hS⟩ := hrel
    have a0 := cell_far hS.f (blkc HP.out 0 _ rfl) (by omega)
    have hwr := hS.f.size
    have HSr := Lib.hid hS
    by_cases hlt : i < d.rules.length
    · have hi1 : (i : Int) < (d.rules.length : Int) := by omega
      obtain ⟨x1, o1, rfl, c1⟩ := elem_at ruleL_len HRR.out hlt
      have hx1 : x1 < w.heap.size := by
        have := c1 0 (show 0 < 12 by decide)
        rw [Array.getElem?_eq_getElem (show 0 < 12 by decide)] at this
        exact World.block_lt_of_cell? w _ this
      have c1 := cells_far hS.f (cells_far HF0.out c1 (Nat.le_refl _) (fun h => h)) (Nat.le_refl _) (by omega)
      have HT := Lib.hid (show d.rules.take (i + 1) = d.rules.take i ++ [d.rules[i]] from List.take_succ_eq_append_getElem hlt)
      obtain ⟨x, hx⟩ : ∃ x, d.rules[i] = x := ⟨_, rfl⟩
      rw [hx] at c1 HT
      have C1 := Lib.hid (fun j (hj : j < (ruleC x.1).size) => (c1 j (Nat.lt_of_lt_of_le hj (show 11 ≤ 12 by decide))).trans (show (ruleL x).toArray[j]? = (ruleC x.1)[j]? by rw [List.getElem?_toArray]; exact rule_part x j hj))
      have c11 := c1 11 (show 11 < 12 by decide)
      have c11 : wr.cell? ⟨x1, o1 + i * 12 + 11, none⟩ = some (intV x.2) := c11
      have hn : (d.rules.take i).length = i := by rw [List.length_take]; omega
      obtain ⟨A, c, hv⟩ := hS.r.slice
      rw [hn] at hv
      subst hv
      have HBW := Lib.hid ((Fr.drew wr (fun _ => False)).blk hS.b (fun h => h))
      have HOW := Lib.hid (hS.r.kept (Fr.drew wr (fun _ => False)))
      have hbase : w.heap.size + 3 ≤ wr.drew.heap.size := by rw [← s3]; exact hwr
      clear c1 hx hS
      go_wp2_with fail
      refine wp_region_held_drew (S := fun w' => Fr wr w' (fun i => w.heap.size + 2 ≤ i)) (by kernel_rfl) (Fr.drew wr _) (fun hHeld => ?_)
      refine wpAnyH_take (i := 0) (v := ?_) rfl (by kernel_rfl) (by kernel_rfl) (by kernel_rfl) (fun _ _ _ h => h) (Or.inl ⟨by rfl, ?_⟩) (by assumption) ?_
      rotate_left
      · intro w' hSw
        skip
        go_simp
        try with_reducible rfl
      try simp only [Act.put, List.setIfInBounds_toArray, List.set_cons_zero, List.set_cons_succ, List.getElem_toArray, List.getElem_cons_zero]
      refine wpAnyH_take (i := 2) (v := ?_) rfl (by kernel_rfl) (by kernel_rfl) (by kernel_rfl) (fun _ _ _ h => h) (Or.inl ⟨by rfl, ?_⟩) (by assumption) ?_
      rotate_left
      · intro w' hSw
        skip
        go_simp
        try with_reducible rfl
      try simp only [Act.put, List.setIfInBounds_toArray, List.set_cons_zero, List.set_cons_succ, List.getElem_toArray, List.getElem_cons_succ, List.getElem_cons_zero]
      refine wpAnyH_take (i := 3) (v := ?_) rfl (by kernel_rfl) (by kernel_rfl) (by kernel_rfl) (fun _ _ _ h => h) (Or.inl ⟨by rfl, ?_⟩) (by assumption) ?_
      rotate_left
      · intro w' hSw
        have ka := cell_far hSw a0 (by omega)
        go_simp
        try with_reducible rfl
      try simp only [Act.put, List.setIfInBounds_toArray, List.set_cons_zero, List.set_cons_succ, List.getElem_toArray, List.getElem_cons_succ, List.getElem_cons_zero]
      refine wpAnyH_take (i := 4) (v := ?_) rfl (by kernel_rfl) (by kernel_rfl) (by kernel_rfl) (fun _ _ _ h => h) (Or.inl ⟨by rfl, ?_⟩) (by assumption) ?_
      rotate_left
      · intro w' hSw
        skip
        go_simp
        try with_reducible rfl
      try simp only [Act.put, List.setIfInBounds_toArray, List.set_cons_zero, List.set_cons_succ, List.getElem_toArray, List.getElem_cons_succ, List.getElem_cons_zero]
      refine wpAnyH_take (i := 5) (v := ?_) rfl (by kernel_rfl) (by kernel_rfl) (by kernel_rfl) (fun _ _ _ h => h) (Or.inl ⟨by rfl, ?_⟩) (by assumption) ?_
      rotate_left
      · intro w' hSw
        skip
        go_simp
        try with_reducible rfl
      try simp only [Act.put, List.setIfInBounds_toArray, List.set_cons_zero, List.set_cons_succ, List.getElem_toArray, List.getElem_cons_succ, List.getElem_cons_zero]
      refine wpAnyH_take (i := 6) (v := ?_) rfl (by kernel_rfl) (by kernel_rfl) (by kernel_rfl) (fun _ _ _ h => h) (Or.inl ⟨by rfl, ?_⟩) (by assumption) ?_
      rotate_left
      · intro w' hSw
        skip
        go_simp
        try with_reducible rfl
      try simp only [Act.put, List.setIfInBounds_toArray, List.set_cons_zero, List.set_cons_succ, List.getElem_toArray, List.getElem_cons_succ, List.getElem_cons_zero]
      refine wpAnyH_take (i := 7) (v := _) rfl (by kernel_rfl) (by kernel_rfl) (by kernel_rfl) (fun _ _ _ h => h) (yields_at 65 _ x1 (o1 + i * 12) (ruleC x.1) _ (by rfl) rfl (by rfl) (fun w' h => cells_far h C1.out (Nat.le_refl _) (by omega)) Tryz.underlying65 rfl (infoR _)) (by assumption) ?_
      try simp only [Act.put, List.setIfInBounds_toArray, List.set_cons_zero, List.set_cons_succ, List.getElem_toArray, List.getElem_cons_succ, List.getElem_cons_zero]
      refine wpAnyH_take (i := 8) (v := ?_) rfl (by kernel_rfl) (by kernel_rfl) (by kernel_rfl) (fun _ _ _ h => h) (Or.inl ⟨by rfl, ?_⟩) (by assumption) ?_
      rotate_left
      · intro w' hSw
        skip
        go_simp
        try with_reducible rfl
      try simp only [Act.put, List.setIfInBounds_toArray, List.set_cons_zero, List.set_cons_succ, List.getElem_toArray, List.getElem_cons_succ, List.getElem_cons_zero]
      refine wpAnyH_take (i := 9) (v := ?_) rfl (by kernel_rfl) (by kernel_rfl) (by kernel_rfl) (fun _ _ _ h => h) (Or.inl ⟨by rfl, ?_⟩) (by assumption) ?_
      rotate_left
      · intro w' hSw
        have ka := cell_far hSw a0 (by omega)
        go_simp
        try with_reducible rfl
      try simp only [Act.put, List.setIfInBounds_toArray, List.set_cons_zero, List.set_cons_succ, List.getElem_toArray, List.getElem_cons_succ, List.getElem_cons_zero]
      refine wpAnyH_take (i := 10) (v := ?_) rfl (by kernel_rfl) (by kernel_rfl) (by kernel_rfl) (fun _ _ _ h => h) (Or.inl ⟨by rfl, ?_⟩) (by assumption) ?_
      rotate_left
      · intro w' hSw
        skip
        go_simp
        try with_reducible rfl
      try simp only [Act.put, List.setIfInBounds_toArray, List.set_cons_zero, List.set_cons_succ, List.getElem_toArray, List.getElem_cons_succ, List.getElem_cons_zero]
      refine wpAnyH_take (i := 11) (v := ?_) rfl (by kernel_rfl) (by kernel_rfl) (by kernel_rfl) (fun _ _ _ h => h) (Or.inl ⟨by rfl, ?_⟩) (by assumption) ?_
      rotate_left
      · intro w' hSw
        skip
        go_simp
        try with_reducible rfl
      try simp only [Act.put, List.setIfInBounds_toArray, List.set_cons_zero, List.set_cons_succ, List.getElem_toArray, List.getElem_cons_succ, List.getElem_cons_zero]
      refine wpAnyH_take (i := 12) (v := ?_) rfl (by kernel_rfl) (by kernel_rfl) (by kernel_rfl) (fun _ _ _ h => h) (Or.inl ⟨by rfl, ?_⟩) (by assumption) ?_
      rotate_left
      · intro w' hSw
        skip
        go_simp
        try with_reducible rfl
      try simp only [Act.put, List.setIfInBounds_toArray, List.set_cons_zero, List.set_cons_succ, List.getElem_toArray, List.getElem_cons_succ, List.getElem_cons_zero]
      refine wpAnyH_take (i := 13) (v := ?_) rfl (by kernel_rfl) (by kernel_rfl) (by kernel_rfl) (fun _ _ _ h => h) (Or.inl ⟨by rfl, ?_⟩) (by assumption) ?_
      rotate_left
      · intro w' hSw
        have k11 := cell_far hSw c11 (by omega)
        go_simp
        try with_reducible rfl
      try simp only [Act.put, List.setIfInBounds_toArray, List.set_cons_zero, List.set_cons_succ, List.getElem_toArray, List.getElem_cons_succ, List.getElem_cons_zero]
      refine wpAnyH_take (i := 14) (v := _) rfl (by kernel_rfl) (by kernel_rfl) (by kernel_rfl) (fun _ _ _ h => h) ((Or.inl ⟨by rfl, fun w' _ => by kernel_rfl⟩ : YieldsIf _ _ _ _ (.agg (ruleL x).toArray) _)) (by assumption) ?_
      try simp only [Act.put, List.setIfInBounds_toArray, List.set_cons_zero, List.set_cons_succ, List.getElem_toArray, List.getElem_cons_succ, List.getElem_cons_zero]
      refine wpAnyH_push (f := ruleL) 1 15 16 _ _ _ rfl rfl rfl (by kernel_rfl) (by kernel_rfl) (by kernel_rfl) (by kernel_rfl) (by decide) rfl rfl rfl rfl rfl rfl rfl (by decide) rfl
        (w.heap.size + 2) 0 (w.heap.size + 3) 51 _ _ _ _ (ruleL x).toArray (.agg (ruleL x).toArray) x (by omega) HBW.out rfl hn.symm rfl rfl rfl rfl (fun w => by kernel_rfl) rfl (by simp [ruleL, ruleC, Value.oneCell']) rfl rfl _ 12 112 Tryz.underlying46 infoRrule rfl (by decide) rfl HOW.out (by omega) (by decide) hbase
        (fun W hf => (Fr.drew wr _).trans hf (fun _ _ h => h) (fun i _ h => by have := h.1; omega)) ?_
      intro A9 c9 w9 hS9 ho9 hb9 hf9
      clear hHeld
      try simp only [Act.put, List.setIfInBounds_toArray, List.set_cons_zero, List.set_cons_succ, List.getElem_toArray, List.getElem_cons_succ, List.getElem_cons_zero]
      refine wpAnyH_take (i := 17) (v := ?_) rfl (by kernel_rfl) (by kernel_rfl) (by kernel_rfl) (fun _ _ _ h => h) (Or.inl ⟨by rfl, ?_⟩) (by assumption) ?_
      rotate_left
      · intro w' hSw
        skip
        go_simp
        try with_reducible rfl
      try simp only [Act.put, List.setIfInBounds_toArray, List.set_cons_zero, List.set_cons_succ, List.getElem_toArray, List.getElem_cons_succ, List.getElem_cons_zero]
      refine wpAnyH_put 18 _ rfl (by kernel_rfl) (by kernel_rfl) rfl rfl rfl (w.heap.size + 2) 0 _ _ (.slice A9 (i + 1) c9) hb9 (show 0 < 4 by decide) rfl rfl rfl info_rrules (fun W hf => hS9.trans hf (fun _ _ h => h) (fun i _ h => by have h : i = w.heap.size + 2 := h; omega)) ?_
      intro W9 hs9 hb9
      have ho9 := far_g ho9 hs9 (by omega)
      have hf9 := (hf9.mono (U := PB (w.heap.size + 2) (w.heap.size + 3) 91 wr.drew) (fun _ _ h => Or.inr h)).trans hs9 (fun _ _ h => h) (fun _ _ h => Or.inl h)
      have HE := Lib.hid (show BkS W0 W9 (w.heap.size + 2) (w.heap.size + 3) (.slice A9 (i + 1) c9) (.slice none 0 0) (.slice none 0 0) (.slice Ad d.diags.length cd) (d.rules.take (i + 1)) (zv.take 0) (d.links.take 0) from
        ⟨hb9, by rw [HT.out]; exact ho9, own_none _ _ _ _ _, own_none _ _ _ _ _, ge_trans HSr.out.f (ge_trans (Fr.drew wr _) (pb_ge hf9 (by omega)))⟩)
      clear ho9 hb9 hf9 hs9 hS9
      try simp only [Act.put, List.setIfInBounds_toArray, List.set_cons_zero, List.set_cons_succ, List.getElem_toArray, List.getElem_cons_succ, List.getElem_cons_zero]
      go_wp2_with fail
      go_roundg (d.rules.length - (i + 1))
      case measure => omega
      case rel => exact ⟨i + 1, _, by omega, by go_num, HE.out⟩
    · obtain rfl : i = d.rules.length := by omega
      have hi1 : (d.rules.length : Int) ≤ (d.rules.length : Int) := Int.le_refl _
      have a1 := cell_far hS.f (blkc HP.out 1 _ rfl) (by omega)
      clear hS
      go_wp2_with fail
      clear a0 a1
      have HSR := HSr
      clear HSr
      go_loopg [5] d.zones.length (fun k v5 wr => ∃ (i : Nat) (vz : Value), i + k = d.zones.length ∧ v5 = intV (i : Int) ∧ BkS W0 wr (w.heap.size + 2) (w.heap.size + 3) vr vz (.slice none 0 0) (.slice Ad d.diags.length cd) (d.rules.take d.rules.length) (zv.take i) (d.links.take 0))
      case atStart => exact ⟨0, _, by simp, rfl, HSR.out⟩
      case round =>
        obtain ⟨i, vz, hik, rfl, hS⟩ := hrel
        have a0 := cell_far hS.f (blkc HP.out 1 _ rfl) (by omega)
        have hwr := hS.f.size
        have HSr := Lib.hid hS
        by_cases hlt : i < d.zones.length
        · have hi1 : (i : Int) < (d.zones.length : Int) := by omega
          have hltz : i < zv.length := by omega
          obtain ⟨x1, o1, rfl, c1⟩ := elem_at zoneL_len HRZ.out hltz
          have hx1 : x1 < w.heap.size := by
            have := c1 0 (show 0 < 3 by decide)
            rw [Array.getElem?_eq_getElem (show 0 < 3 by decide)] at this
            exact World.block_lt_of_cell? w _ this
          have c1 := cells_far hS.f (cells_far HF0.out c1 (Nat.le_refl _) (fun h => h)) (Nat.le_refl _) (by omega)
          have HT := Lib.hid (show zv.take (i + 1) = zv.take i ++ [zv[i]] from List.take_succ_eq_append_getElem hltz)
          have hxa := HAL.out zv[i] (List.getElem_mem hltz)
          obtain ⟨⟨z, ve, vn⟩, hx⟩ : ∃ x, zv[i] = x := ⟨_, rfl⟩
          rw [hx] at c1 HT hxa
          obtain ⟨Ae, ce, hve⟩ : ∃ A c, ve = .slice A z.eras.length c := hxa.e.slice
          obtain ⟨An, cn, hvn⟩ : ∃ A c, vn = .slice A z.lines.length c := hxa.l.slice
          subst hve hvn
          have k0 : wr.cell? ⟨x1, o1 + i * 3, none⟩ = some (strV z.name) := c1 0 (show 0 < 3 by decide)
          have k1 : wr.cell? ⟨x1, o1 + i * 3 + 1, none⟩ = some (.slice Ae z.eras.length ce) := c1 1 (show 1 < 3 by decide)
          have k2 : wr.cell? ⟨x1, o1 + i * 3 + 2, none⟩ = some (.slice An z.lines.length cn) := c1 2 (show 2 < 3 by decide)
          have hn : (zv.take i).length = i := by rw [List.length_take]; omega
          obtain ⟨A, c, hv⟩ := hS.z.slice
          rw [hn] at hv
          subst hv
          have HBW := Lib.hid ((Fr.drew wr (fun _ => False)).blk hS.b (fun h => h))
          have HOW := Lib.hid (hS.z.kept (Fr.drew wr (fun _ => False)))
          have HOR := Lib.hid (hS.r.kept (Fr.drew wr (fun _ => False)))
          have hbase : w.heap.size + 3 ≤ wr.drew.heap.size := by rw [← s3]; exact hwr
          clear c1 hx hS hxa
          go_wp2_with fail
          refine wp_region_held_drew (S := fun w' => Fr wr w' (fun i => w.heap.size + 2 ≤ i)) (by kernel_rfl) (Fr.drew wr _) (fun hHeld => ?_)
          refine wpAnyH_take (i := 0) (v := ?_) rfl (by kernel_rfl) (by kernel_rfl) (by kernel_rfl) (fun _ _ _ h => h) (Or.inl ⟨by rfl, ?_⟩) (by assumption) ?_
          rotate_left
          · intro w' hSw
            skip
            go_simp
            try with_reducible rfl
          try simp only [Act.put, List.setIfInBounds_toArray, List.set_cons_zero, List.set_cons_succ, List.getElem_toArray, List.getElem_cons_zero]
          refine wpAnyH_take (i := 2) (v := ?_) rfl (by kernel_rfl) (by kernel_rfl) (by kernel_rfl) (fun _ _ _ h => h) (Or.inl ⟨by rfl, ?_⟩) (by assumption) ?_
          rotate_left
          · intro w' hSw
            skip
            go_simp
            try with_reducible rfl
          try simp only [Act.put, List.setIfInBounds_toArray, List.set_cons_zero, List.set_cons_succ, List.getElem_toArray, List.getElem_cons_succ, List.getElem_cons_zero]
          refine wpAnyH_take (i := 3) (v := ?_) rfl (by kernel_rfl) (by kernel_rfl) (by kernel_rfl) (fun _ _ _ h => h) (Or.inl ⟨by rfl, ?_⟩) (by assumption) ?_
          rotate_left
          · intro w' hSw
            have ka := cell_far hSw a0 (by omega)
            go_simp
            try with_reducible rfl
          try simp only [Act.put, List.setIfInBounds_toArray, List.set_cons_zero, List.set_cons_succ, List.getElem_toArray, List.getElem_cons_succ, List.getElem_cons_zero]
          refine wpAnyH_take (i := 4) (v := ?_) rfl (by kernel_rfl) (by kernel_rfl) (by kernel_rfl) (fun _ _ _ h => h) (Or.inl ⟨by rfl, ?_⟩) (by assumption) ?_
          rotate_left
          · intro w' hSw
            skip
            go_simp
            try with_reducible rfl
          try simp only [Act.put, List.setIfInBounds_toArray, List.set_cons_zero, List.set_cons_succ, List.getElem_toArray, List.getElem_cons_succ, List.getElem_cons_zero]
          refine wpAnyH_take (i := 5) (v := ?_) rfl (by kernel_rfl) (by kernel_rfl) (by kernel_rfl) (fun _ _ _ h => h) (Or.inl ⟨by rfl, ?_⟩) (by assumption) ?_
          rotate_left
          · intro w' hSw
            skip
            go_simp
            try with_reducible rfl
          try simp only [Act.put, List.setIfInBounds_toArray, List.set_cons_zero, List.set_cons_succ, List.getElem_toArray, List.getElem_cons_succ, List.getElem_cons_zero]
          refine wpAnyH_take (i := 6) (v := ?_) rfl (by kernel_rfl) (by kernel_rfl) (by kernel_rfl) (fun _ _ _ h => h) (Or.inl ⟨by rfl, ?_⟩) (by assumption) ?_
          rotate_left
          · intro w' hSw
            skip
            go_simp
            try with_reducible rfl
          try simp only [Act.put, List.setIfInBounds_toArray, List.set_cons_zero, List.set_cons_succ, List.getElem_toArray, List.getElem_cons_succ, List.getElem_cons_zero]
          refine wpAnyH_take (i := 7) (v := ?_) rfl (by kernel_rfl) (by kernel_rfl) (by kernel_rfl) (fun _ _ _ h => h) (Or.inl ⟨by rfl, ?_⟩) (by assumption) ?_
          rotate_left
          · intro w' hSw
            have kk := cell_far hSw k0 (by omega)
            go_simp
            try with_reducible rfl
          try simp only [Act.put, List.setIfInBounds_toArray, List.set_cons_zero, List.set_cons_succ, List.getElem_toArray, List.getElem_cons_succ, List.getElem_cons_zero]
          refine wpAnyH_take (i := 8) (v := ?_) rfl (by kernel_rfl) (by kernel_rfl) (by kernel_rfl) (fun _ _ _ h => h) (Or.inl ⟨by rfl, ?_⟩) (by assumption) ?_
          rotate_left
          · intro w' hSw
            skip
            go_simp
            try with_reducible rfl
          try simp only [Act.put, List.setIfInBounds_toArray, List.set_cons_zero, List.set_cons_succ, List.getElem_toArray, List.getElem_cons_succ, List.getElem_cons_zero]
          refine wpAnyH_take (i := 9) (v := ?_) rfl (by kernel_rfl) (by kernel_rfl) (by kernel_rfl) (fun _ _ _ h => h) (Or.inl ⟨by rfl, ?_⟩) (by assumption) ?_
          rotate_left
          · intro w' hSw
            have ka := cell_far hSw a0 (by omega)
            go_simp
            try with_reducible rfl
          try simp only [Act.put, List.setIfInBounds_toArray, List.set_cons_zero, List.set_cons_succ, List.getElem_toArray, List.getElem_cons_succ, List.getElem_cons_zero]
          refine wpAnyH_take (i := 10) (v := ?_) rfl (by kernel_rfl) (by kernel_rfl) (by kernel_rfl) (fun _ _ _ h => h) (Or.inl ⟨by rfl, ?_⟩) (by assumption) ?_
          rotate_left
          · intro w' hSw
            skip
            go_simp
            try with_reducible rfl
          try simp only [Act.put, List.setIfInBounds_toArray, List.set_cons_zero, List.set_cons_succ, List.getElem_toArray, List.getElem_cons_succ, List.getElem_cons_zero]
          refine wpAnyH_take (i := 11) (v := ?_) rfl (by kernel_rfl) (by kernel_rfl) (by kernel_rfl) (fun _ _ _ h => h) (Or.inl ⟨by rfl, ?_⟩) (by assumption) ?_
          rotate_left
          · intro w' hSw
            skip
            go_simp
            try with_reducible rfl
          try simp only [Act.put, List.setIfInBounds_toArray, List.set_cons_zero, List.set_cons_succ, List.getElem_toArray, List.getElem_cons_succ, List.getElem_cons_zero]
          refine wpAnyH_take (i := 12) (v := ?_) rfl (by kernel_rfl) (by kernel_rfl) (by kernel_rfl) (fun _ _ _ h => h) (Or.inl ⟨by rfl, ?_⟩) (by assumption) ?_
          rotate_left
          · intro w' hSw
            skip
            go_simp
            try with_reducible rfl
          try simp only [Act.put, List.setIfInBounds_toArray, List.set_cons_zero, List.set_cons_succ, List.getElem_toArray, List.getElem_cons_succ, List.getElem_cons_zero]
          refine wpAnyH_take (i := 13) (v := ?_) rfl (by kernel_rfl) (by kernel_rfl) (by kernel_rfl) (fun _ _ _ h => h) (Or.inl ⟨by rfl, ?_⟩) (by assumption) ?_
          rotate_left
          · intro w' hSw
            have kk := cell_far hSw k1 (by omega)
            go_simp
            try with_reducible rfl
          try simp only [Act.put, List.setIfInBounds_toArray, List.set_cons_zero, List.set_cons_succ, List.getElem_toArray, List.getElem_cons_succ, List.getElem_cons_zero]
          refine wpAnyH_take (i := 14) (v := ?_) rfl (by kernel_rfl) (by kernel_rfl) (by kernel_rfl) (fun _ _ _ h => h) (Or.inl ⟨by rfl, ?_⟩) (by assumption) ?_
          rotate_left
          · intro w' hSw
            skip
            go_simp
            try with_reducible rfl
          try simp only [Act.put, List.setIfInBounds_toArray, List.set_cons_zero, List.set_cons_succ, List.getElem_toArray, List.getElem_cons_succ, List.getElem_cons_zero]
          refine wpAnyH_take (i := 15) (v := ?_) rfl (by kernel_rfl) (by kernel_rfl) (by kernel_rfl) (fun _ _ _ h => h) (Or.inl ⟨by rfl, ?_⟩) (by assumption) ?_
          rotate_left
          · intro w' hSw
            have ka := cell_far hSw a0 (by omega)
            go_simp
            try with_reducible rfl
          try simp only [Act.put, List.setIfInBounds_toArray, List.set_cons_zero, List.set_cons_succ, List.getElem_toArray, List.getElem_cons_succ, List.getElem_cons_zero]
          refine wpAnyH_take (i := 16) (v := ?_) rfl (by kernel_rfl) (by kernel_rfl) (by kernel_rfl) (fun _ _ _ h => h) (Or.inl ⟨by rfl, ?_⟩) (by assumption) ?_
          rotate_left
          · intro w' hSw
            skip
            go_simp
            try with_reducible rfl
          try simp only [Act.put, List.setIfInBounds_toArray, List.set_cons_zero, List.set_cons_succ, List.getElem_toArray, List.getElem_cons_succ, List.getElem_cons_zero]
          refine wpAnyH_take (i := 17) (v := ?_) rfl (by kernel_rfl) (by kernel_rfl) (by kernel_rfl) (fun _ _ _ h => h) (Or.inl ⟨by rfl, ?_⟩) (by assumption) ?_
          rotate_left
          · intro w' hSw
            skip
            go_simp
            try with_reducible rfl
          try simp only [Act.put, List.setIfInBounds_toArray, List.set_cons_zero, List.set_cons_succ, List.getElem_toArray, List.getElem_cons_succ, List.getElem_cons_zero]
          refine wpAnyH_take (i := 18) (v := ?_) rfl (by kernel_rfl) (by kernel_rfl) (by kernel_rfl) (fun _ _ _ h => h) (Or.inl ⟨by rfl, ?_⟩) (by assumption) ?_
          rotate_left
          · intro w' hSw
            skip
            go_simp
            try with_reducible rfl
          try simp only [Act.put, List.setIfInBounds_toArray, List.set_cons_zero, List.set_cons_succ, List.getElem_toArray, List.getElem_cons_succ, List.getElem_cons_zero]
          refine wpAnyH_take (i := 19) (v := ?_) rfl (by kernel_rfl) (by kernel_rfl) (by kernel_rfl) (fun _ _ _ h => h) (Or.inl ⟨by rfl, ?_⟩) (by assumption) ?_
          rotate_left
          · intro w' hSw
            have kk := cell_far hSw k2 (by omega)
            go_simp
            try with_reducible rfl
          try simp only [Act.put, List.setIfInBounds_toArray, List.set_cons_zero, List.set_cons_succ, List.getElem_toArray, List.getElem_cons_succ, List.getElem_cons_zero]
          refine wpAnyH_take (i := 20) (v := _) rfl (by kernel_rfl) (by kernel_rfl) (by kernel_rfl) (fun _ _ _ h => h) ((Or.inl ⟨by rfl, fun w' _ => by kernel_rfl⟩ : YieldsIf _ _ _ _ (.agg #[strV z.name, .slice Ae z.eras.length ce, .slice An z.lines.length cn]) _)) (by assumption) ?_
          try simp only [Act.put, List.setIfInBounds_toArray, List.set_cons_zero, List.set_cons_succ, List.getElem_toArray, List.getElem_cons_succ, List.getElem_cons_zero]
          refine wpAnyH_push (f := zoneL) 1 21 22 _ _ _ rfl rfl rfl (by kernel_rfl) (by kernel_rfl) (by kernel_rfl) (by kernel_rfl) (by decide) rfl rfl rfl rfl rfl rfl rfl (by decide) rfl
            (w.heap.size + 2) 1 (w.heap.size + 3) 51 _ _ _ _ #[strV z.name, .slice Ae z.eras.length ce, .slice An z.lines.length cn] (.agg #[strV z.name, .slice Ae z.eras.length ce, .slice An z.lines.length cn]) (z, .slice Ae z.eras.length ce, .slice An z.lines.length cn) (by omega) HBW.out rfl hn.symm rfl rfl rfl rfl (fun w => by kernel_rfl) rfl (by simp [Value.oneCell']) rfl rfl _ 3 64 Tryz.underlying47 infoRzone rfl (by decide) rfl HOW.out (by omega) (by decide) hbase
            (fun W hf => (Fr.drew wr _).trans hf (fun _ _ h => h) (fun i _ h => by have := h.1; omega)) ?_
          intro A9 c9 w9 hS9 ho9 hb9 hf9
          clear hHeld
          try simp only [Act.put, List.setIfInBounds_toArray, List.set_cons_zero, List.set_cons_succ, List.getElem_toArray, List.getElem_cons_succ, List.getElem_cons_zero]
          refine wpAnyH_take (i := 23) (v := ?_) rfl (by kernel_rfl) (by kernel_rfl) (by kernel_rfl) (fun _ _ _ h => h) (Or.inl ⟨by rfl, ?_⟩) (by assumption) ?_
          rotate_left
          · intro w' hSw
            skip
            go_simp
            try with_reducible rfl
          try simp only [Act.put, List.setIfInBounds_toArray, List.set_cons_zero, List.set_cons_succ, List.getElem_toArray, List.getElem_cons_succ, List.getElem_cons_zero]
          refine wpAnyH_put 24 _ rfl (by kernel_rfl) (by kernel_rfl) rfl rfl rfl (w.heap.size + 2) 1 _ _ (.slice A9 (i + 1) c9) hb9 (show 1 < 4 by decide) rfl rfl rfl info_rzones (fun W hf => hS9.trans hf (fun _ _ h => h) (fun i _ h => by have h : i = w.heap.size + 2 := h; omega)) ?_
          intro W9 hs9 hb9
          have ho9 := far_g ho9 hs9 (by omega)
          have hf9 := (hf9.mono (U := PB (w.heap.size + 2) (w.heap.size + 3) 95 wr.drew) (fun _ _ h => Or.inr h)).trans hs9 (fun _ _ h => h) (fun _ _ h => Or.inl h)
          have HE := Lib.hid (show BkS W0 W9 (w.heap.size + 2) (w.heap.size + 3) vr (.slice A9 (i + 1) c9) (.slice none 0 0) (.slice Ad d.diags.length cd) (d.rules.take d.rules.length) (zv.take (i + 1)) (d.links.take 0) from
            ⟨hb9, own_pb HOR.out hf9 (by decide) (by omega), by rw [HT.out]; exact ho9, own_none _ _ _ _ _, ge_trans HSr.out.f (ge_trans (Fr.drew wr _) (pb_ge hf9 (by omega)))⟩)
          clear ho9 hb9 hf9 hs9 hS9
          try simp only [Act.put, List.setIfInBounds_toArray, List.set_cons_zero, List.set_cons_succ, List.getElem_toArray, List.getElem_cons_succ, List.getElem_cons_zero]
          go_wp2_with fail
          go_roundg (d.zones.length - (i + 1))
          case measure => omega
          case rel => exact ⟨i + 1, _, by omega, by go_num, HE.out⟩
        · obtain rfl : i = d.zones.length := by omega
          have hi1 : (d.zones.length : Int) ≤ (d.zones.length : Int) := Int.le_refl _
          have a1 := cell_far hS.f (blkc HP.out 2 _ rfl) (by omega)
          clear hS HSR
          go_wp2_with fail
          clear a0 a1
          have HSR := HSr
          clear HSr
          go_loopg [6] d.links.length (fun k v6 wr => ∃ (i : Nat) (vl : Value), i + k = d.links.length ∧ v6 = intV (i : Int) ∧ BkS W0 wr (w.heap.size + 2) (w.heap.size + 3) vr vz vl (.slice Ad d.diags.length cd) (d.rules.take d.rules.length) (zv.take d.zones.length) (d.links.take i))
          case atStart => exact ⟨0, _, by simp, rfl, HSR.out⟩
          case round =>
            obtain ⟨i, vl, hik, rfl, hS⟩ := hrel
            have a0 := cell_far hS.f (blkc HP.out 2 _ rfl) (by omega)
            have hwr := hS.f.size
            have HSr := Lib.hid hS
            by_cases hlt : i < d.links.length
            · have hi1 : (i : Int) < (d.links.length : Int) := by omega
              obtain ⟨x1, o1, rfl, c1⟩ := elem_at linkL_len HRL.out hlt
              have hx1 : x1 < w.heap.size := by
                have := c1 0 (show 0 < 3 by decide)
                rw [Array.getElem?_eq_getElem (show 0 < 3 by decide)] at this
                exact World.block_lt_of_cell? w _ this
              have c1 := cells_far hS.f (cells_far HF0.out c1 (Nat.le_refl _) (fun h => h)) (Nat.le_refl _) (by omega)
              have HT := Lib.hid (show d.links.take (i + 1) = d.links.take i ++ [d.links[i]] from List.take_succ_eq_append_getElem hlt)
              obtain ⟨x, hx⟩ : ∃ x, d.links[i] = x := ⟨_, rfl⟩
              rw [hx] at c1 HT
              have k0 : wr.cell? ⟨x1, o1 + i * 3, none⟩ = some (strV x.target) := c1 0 (show 0 < 3 by decide)
              have k1 : wr.cell? ⟨x1, o1 + i * 3 + 1, none⟩ = some (strV x.name) := c1 1 (show 1 < 3 by decide)
              have k2 : wr.cell? ⟨x1, o1 + i * 3 + 2, none⟩ = some (intV x.line) := c1 2 (show 2 < 3 by decide)
              have hn : (d.links.take i).length = i := by rw [List.length_take]; omega
              obtain ⟨A, c, hv⟩ := hS.l.slice
              rw [hn] at hv
              subst hv
              have HBW := Lib.hid ((Fr.drew wr (fun _ => False)).blk hS.b (fun h => h))
              have HOW := Lib.hid (hS.l.kept (Fr.drew wr (fun _ => False)))
              have HOR := Lib.hid (hS.r.kept (Fr.drew wr (fun _ => False)))
              have HOZ := Lib.hid (hS.z.kept (Fr.drew wr (fun _ => False)))
              have hbase : w.heap.size + 3 ≤ wr.drew.heap.size := by rw [← s3]; exact hwr
              clear c1 hx hS
              go_wp2_with fail
              refine wp_region_held_drew (S := fun w' => Fr wr w' (fun i => w.heap.size + 2 ≤ i)) (by kernel_rfl) (Fr.drew wr _) (fun hHeld => ?_)
              refine wpAnyH_take (i := 0) (v := ?_) rfl (by kernel_rfl) (by kernel_rfl) (by kernel_rfl) (fun _ _ _ h => h) (Or.inl ⟨by rfl, ?_⟩) (by assumption) ?_
              rotate_left
              · intro w' hSw
                skip
                go_simp
                try with_reducible rfl
              try simp only [Act.put, List.setIfInBounds_toArray, List.set_cons_zero, List.set_cons_succ, List.getElem_toArray, List.getElem_cons_zero]
              refine wpAnyH_take (i := 2) (v := ?_) rfl (by kernel_rfl) (by kernel_rfl) (by kernel_rfl) (fun _ _ _ h => h) (Or.inl ⟨by rfl, ?_⟩) (by assumption) ?_
              rotate_left
              · intro w' hSw
                skip
                go_simp
                try with_reducible rfl
              try simp only [Act.put, List.setIfInBounds_toArray, List.set_cons_zero, List.set_cons_succ, List.getElem_toArray, List.getElem_cons_succ, List.getElem_cons_zero]
              refine wpAnyH_take (i := 3) (v := ?_) rfl (by kernel_rfl) (by kernel_rfl) (by kernel_rfl) (fun _ _ _ h => h) (Or.inl ⟨by rfl, ?_⟩) (by assumption) ?_
              rotate_left
              · intro w' hSw
                have ka := cell_far hSw a0 (by omega)
                go_simp
                try with_reducible rfl
              try simp only [Act.put, List.setIfInBounds_toArray, List.set_cons_zero, List.set_cons_succ, List.getElem_toArray, List.getElem_cons_succ, List.getElem_cons_zero]
              refine wpAnyH_take (i := 4) (v := ?_) rfl (by kernel_rfl) (by kernel_rfl) (by kernel_rfl) (fun _ _ _ h => h) (Or.inl ⟨by rfl, ?_⟩) (by assumption) ?_
              rotate_left
              · intro w' hSw
                skip
                go_simp
                try with_reducible rfl
              try simp only [Act.put, List.setIfInBounds_toArray, List.set_cons_zero, List.set_cons_succ, List.getElem_toArray, List.getElem_cons_succ, List.getElem_cons_zero]
              refine wpAnyH_take (i := 5) (v := ?_) rfl (by kernel_rfl) (by kernel_rfl) (by kernel_rfl) (fun _ _ _ h => h) (Or.inl ⟨by rfl, ?_⟩) (by assumption) ?_
              rotate_left
              · intro w' hSw
                skip
                go_simp
                try with_reducible rfl
              try simp only [Act.put, List.setIfInBounds_toArray, List.set_cons_zero, List.set_cons_succ, List.getElem_toArray, List.getElem_cons_succ, List.getElem_cons_zero]
              refine wpAnyH_take (i := 6) (v := ?_) rfl (by kernel_rfl) (by kernel_rfl) (by kernel_rfl) (fun _ _ _ h => h) (Or.inl ⟨by rfl, ?_⟩) (by assumption) ?_
              rotate_left
              · intro w' hSw
                skip
                go_simp
                try with_reducible rfl
              try simp only [Act.put, List.setIfInBounds_toArray, List.set_cons_zero, List.set_cons_succ, List.getElem_toArray, List.getElem_cons_succ, List.getElem_cons_zero]
              refine wpAnyH_take (i := 7) (v := ?_) rfl (by kernel_rfl) (by kernel_rfl) (by kernel_rfl) (fun _ _ _ h => h) (Or.inl ⟨by rfl, ?_⟩) (by assumption) ?_
              rotate_left
              · intro w' hSw
                have kk := cell_far hSw k0 (by omega)
                go_simp
                try with_reducible rfl
              try simp only [Act.put, List.setIfInBounds_toArray, List.set_cons_zero, List.set_cons_succ, List.getElem_toArray, List.getElem_cons_succ, List.getElem_cons_zero]
              refine wpAnyH_take (i := 8) (v := ?_) rfl (by kernel_rfl) (by kernel_rfl) (by kernel_rfl) (fun _ _ _ h => h) (Or.inl ⟨by rfl, ?_⟩) (by assumption) ?_
              rotate_left
              · intro w' hSw
                skip
                go_simp
                try with_reducible rfl
              try simp only [Act.put, List.setIfInBounds_toArray, List.set_cons_zero, List.set_cons_succ, List.getElem_toArray, List.getElem_cons_succ, List.getElem_cons_zero]
              refine wpAnyH_take (i := 9) (v := ?_) rfl (by kernel_rfl) (by kernel_rfl) (by kernel_rfl) (fun _ _ _ h => h) (Or.inl ⟨by rfl, ?_⟩) (by assumption) ?_
              rotate_left
              · intro w' hSw
                have ka := cell_far hSw a0 (by omega)
                go_simp
                try with_reducible rfl
              try simp only [Act.put, List.setIfInBounds_toArray, List.set_cons_zero, List.set_cons_succ, List.getElem_toArray, List.getElem_cons_succ, List.getElem_cons_zero]
              refine wpAnyH_take (i := 10) (v := ?_) rfl (by kernel_rfl) (by kernel_rfl) (by kernel_rfl) (fun _ _ _ h => h) (Or.inl ⟨by rfl, ?_⟩) (by assumption) ?_
              rotate_left
              · intro w' hSw
                skip
                go_simp
                try with_reducible rfl
              try simp only [Act.put, List.setIfInBounds_toArray, List.set_cons_zero, List.set_cons_succ, List.getElem_toArray, List.getElem_cons_succ, List.getElem_cons_zero]
              refine wpAnyH_take (i := 11) (v := ?_) rfl (by kernel_rfl) (by kernel_rfl) (by kernel_rfl) (fun _ _ _ h => h) (Or.inl ⟨by rfl, ?_⟩) (by assumption) ?_
              rotate_left
              · intro w' hSw
                skip
                go_simp
                try with_reducible rfl
              try simp only [Act.put, List.setIfInBounds_toArray, List.set_cons_zero, List.set_cons_succ, List.getElem_toArray, List.getElem_cons_succ, List.getElem_cons_zero]
              refine wpAnyH_take (i := 12) (v := ?_) rfl (by kernel_rfl) (by kernel_rfl) (by kernel_rfl) (fun _ _ _ h => h) (Or.inl ⟨by rfl, ?_⟩) (by assumption) ?_
              rotate_left
              · intro w' hSw
                skip
                go_simp
                try with_reducible rfl
              try simp only [Act.put, List.setIfInBounds_toArray, List.set_cons_zero, List.set_cons_succ, List.getElem_toArray, List.getElem_cons_succ, List.getElem_cons_zero]
              refine wpAnyH_take (i := 13) (v := ?_) rfl (by kernel_rfl) (by kernel_rfl) (by kernel_rfl) (fun _ _ _ h => h) (Or.inl ⟨by rfl, ?_⟩) (by assumption) ?_
              rotate_left
              · intro w' hSw
                have kk := cell_far hSw k1 (by omega)
                go_simp
                try with_reducible rfl
              try simp only [Act.put, List.setIfInBounds_toArray, List.set_cons_zero, List.set_cons_succ, List.getElem_toArray, List.getElem_cons_succ, List.getElem_cons_zero]
              refine wpAnyH_take (i := 14) (v := ?_) rfl (by kernel_rfl) (by kernel_rfl) (by kernel_rfl) (fun _ _ _ h => h) (Or.inl ⟨by rfl, ?_⟩) (by assumption) ?_
              rotate_left
              · intro w' hSw
                skip
                go_simp
                try with_reducible rfl
              try simp only [Act.put, List.setIfInBounds_toArray, List.set_cons_zero, List.set_cons_succ, List.getElem_toArray, List.getElem_cons_succ, List.getElem_cons_zero]
              refine wpAnyH_take (i := 15) (v := ?_) rfl (by kernel_rfl) (by kernel_rfl) (by kernel_rfl) (fun _ _ _ h => h) (Or.inl ⟨by rfl, ?_⟩) (by assumption) ?_
              rotate_left
              · intro w' hSw
                have ka := cell_far hSw a0 (by omega)
                go_simp
                try with_reducible rfl
              try simp only [Act.put, List.setIfInBounds_toArray, List.set_cons_zero, List.set_cons_succ, List.getElem_toArray, List.getElem_cons_succ, List.getElem_cons_zero]
              refine wpAnyH_take (i := 16) (v := ?_) rfl (by kernel_rfl) (by kernel_rfl) (by kernel_rfl) (fun _ _ _ h => h) (Or.inl ⟨by rfl, ?_⟩) (by assumption) ?_
              rotate_left
              · intro w' hSw
                skip
                go_simp
                try with_reducible rfl
              try simp only [Act.put, List.setIfInBounds_toArray, List.set_cons_zero, List.set_cons_succ, List.getElem_toArray, List.getElem_cons_succ, List.getElem_cons_zero]
              refine wpAnyH_take (i := 17) (v := ?_) rfl (by kernel_rfl) (by kernel_rfl) (by kernel_rfl) (fun _ _ _ h => h) (Or.inl ⟨by rfl, ?_⟩) (by assumption) ?_
              rotate_left
              · intro w' hSw
                skip
                go_simp
                try with_reducible rfl
              try simp only [Act.put, List.setIfInBounds_toArray, List.set_cons_zero, List.set_cons_succ, List.getElem_toArray, List.getElem_cons_succ, List.getElem_cons_zero]
              refine wpAnyH_take (i := 18) (v := ?_) rfl (by kernel_rfl) (by kernel_rfl) (by kernel_rfl) (fun _ _ _ h => h) (Or.inl ⟨by rfl, ?_⟩) (by assumption) ?_
              rotate_left
              · intro w' hSw
                skip
                go_simp
                try with_reducible rfl
              try simp only [Act.put, List.setIfInBounds_toArray, List.set_cons_zero, List.set_cons_succ, List.getElem_toArray, List.getElem_cons_succ, List.getElem_cons_zero]
              refine wpAnyH_take (i := 19) (v := ?_) rfl (by kernel_rfl) (by kernel_rfl) (by kernel_rfl) (fun _ _ _ h => h) (Or.inl ⟨by rfl, ?_⟩) (by assumption) ?_
              rotate_left
              · intro w' hSw
                have kk := cell_far hSw k2 (by omega)
                go_simp
                try with_reducible rfl
              try simp only [Act.put, List.setIfInBounds_toArray, List.set_cons_zero, List.set_cons_succ, List.getElem_toArray, List.getElem_cons_succ, List.getElem_cons_zero]
              refine wpAnyH_take (i := 20) (v := _) rfl (by kernel_rfl) (by kernel_rfl) (by kernel_rfl) (fun _ _ _ h => h) ((Or.inl ⟨by rfl, fun w' _ => by kernel_rfl⟩ : YieldsIf _ _ _ _ (.agg #[strV x.target, strV x.name, intV x.line]) _)) (by assumption) ?_
              try simp only [Act.put, List.setIfInBounds_toArray, List.set_cons_zero, List.set_cons_succ, List.getElem_toArray, List.getElem_cons_succ, List.getElem_cons_zero]
              refine wpAnyH_push (f := linkL) 1 21 22 _ _ _ rfl rfl rfl (by kernel_rfl) (by kernel_rfl) (by kernel_rfl) (by kernel_rfl) (by decide) rfl rfl rfl rfl rfl rfl rfl (by decide) rfl
                (w.heap.size + 2) 2 (w.heap.size + 3) 51 _ _ _ _ #[strV x.target, strV x.name, intV x.line] (.agg #[strV x.target, strV x.name, intV x.line]) x (by omega) HBW.out rfl hn.symm rfl rfl rfl rfl (fun w => by kernel_rfl) rfl (by simp [Value.oneCell']) rfl rfl _ 3 40 Tryz.underlying48 infoRlink rfl (by decide) rfl HOW.out (by omega) (by decide) hbase
                (fun W hf => (Fr.drew wr _).trans hf (fun _ _ h => h) (fun i _ h => by have := h.1; omega)) ?_
              intro A9 c9 w9 hS9 ho9 hb9 hf9
              clear hHeld
              try simp only [Act.put, List.setIfInBounds_toArray, List.set_cons_zero, List.set_cons_succ, List.getElem_toArray, List.getElem_cons_succ, List.getElem_cons_zero]
              refine wpAnyH_take (i := 23) (v := ?_) rfl (by kernel_rfl) (by kernel_rfl) (by kernel_rfl) (fun _ _ _ h => h) (Or.inl ⟨by rfl, ?_⟩) (by assumption) ?_
              rotate_left
              · intro w' hSw
                skip
                go_simp
                try with_reducible rfl
              try simp only [Act.put, List.setIfInBounds_toArray, List.set_cons_zero, List.set_cons_succ, List.getElem_toArray, List.getElem_cons_succ, List.getElem_cons_zero]
              refine wpAnyH_put 24 _ rfl (by kernel_rfl) (by kernel_rfl) rfl rfl rfl (w.heap.size + 2) 2 _ _ (.slice A9 (i + 1) c9) hb9 (show 2 < 4 by decide) rfl rfl rfl info_rlinks (fun W hf => hS9.trans hf (fun _ _ h => h) (fun i _ h => by have h : i = w.heap.size + 2 := h; omega)) ?_
              intro W9 hs9 hb9
              have ho9 := far_g ho9 hs9 (by omega)
              have hf9 := (hf9.mono (U := PB (w.heap.size + 2) (w.heap.size + 3) 99 wr.drew) (fun _ _ h => Or.inr h)).trans hs9 (fun _ _ h => h) (fun _ _ h => Or.inl h)
              have HE := Lib.hid (show BkS W0 W9 (w.heap.size + 2) (w.heap.size + 3) vr vz (.slice A9 (i + 1) c9) (.slice Ad d.diags.length cd) (d.rules.take d.rules.length) (zv.take d.zones.length) (d.links.take (i + 1)) from
                ⟨hb9, own_pb HOR.out hf9 (by decide) (by omega), own_pb HOZ.out hf9 (by decide) (by omega), by rw [HT.out]; exact ho9, ge_trans HSr.out.f (ge_trans (Fr.drew wr _) (pb_ge hf9 (by omega)))⟩)
              clear ho9 hb9 hf9 hs9 hS9
              try simp only [Act.put, List.setIfInBounds_toArray, List.set_cons_zero, List.set_cons_succ, List.getElem_toArray, List.getElem_cons_succ, List.getElem_cons_zero]
              go_wp2_with fail
              go_roundg (d.links.length - (i + 1))
              case measure => omega
              case rel => exact ⟨i + 1, _, by omega, by go_num, HE.out⟩
            · obtain rfl : i = d.links.length := by omega
              have hi1 : (d.links.length : Int) ≤ (d.links.length : Int) := Int.le_refl _
              have hq2 := hS.f.blk HQ.out (by omega)
              have hE := hS
              rw [List.take_length, List.take_length, ← hzl, List.take_length] at hE
              have HEnd := Lib.hid hE
              have hone : (#[vr, vz, vl, .slice Ad d.diags.length cd] : Array Value).all (·.oneCell') = true := by
                obtain ⟨_, _, rfl⟩ := hS.r.slice
                obtain ⟨_, _, rfl⟩ := hS.z.slice
                obtain ⟨_, _, rfl⟩ := hS.l.slice
                simp [Value.oneCell']
              have HQ2 := Lib.hid hq2
              clear hS HSR hE hq2
              go_wp2_with (first
                | (refine wpList_load_blk 51 _ (w.heap.size + 2) 0 51 #[vr, vz, vl, .slice Ad d.diags.length cd] #[vr, vz, vl, .slice Ad d.diags.length cd] _ (by rfl) rfl rfl HEnd.out.b Tryz.underlying51 rfl infoRdoc (zero_part _) ?_)
                | (refine wpList_store_blk 51 _ _ (w.heap.size + 1) 0 51 _ #[vr, vz, vl, .slice Ad d.diags.length cd] #[vr, vz, vl, .slice Ad d.diags.length cd] (by rfl) rfl rfl rfl rfl HQ2.out infoRdoc hone (show 0 + 4 ≤ 4 by decide) rfl ?_
                   intro W9 hf9 hb9
                   have HE9 := Lib.hid hb9
                   have HF9 := Lib.hid hf9
                   clear hf9 hb9))
              (try simp only [Exit.inBlock, Exit.then])
              refine bodyPost_ret (res_back rfl HE9.out _ rfl) rfl ?_
              have hown : ∀ {X : Type} {e : TypeId} {k : Nat} {f : X → List Value} {v : Value} {l : List X}, Own wr (w.heap.size + 3) e k f v l → Own W9 w.heap.size e k f v l := fun h =>
                own_base (own_far h HF9.out (fun i cs hi _ hx => by have hx : i = w.heap.size + 1 := hx; omega)) (by omega)
              exact ⟨vr, vz, vl, rfl, hown HEnd.out.r, hown HEnd.out.z, hown HEnd.out.l, (HF0.out.fresh HEnd.out.f (fun i h => by have h : w.heap.size + 2 ≤ i := h; omega)).fresh HF9.out (fun i h => by have h : i = w.heap.size + 1 := h; omega)⟩
end Go.Proofs.YtodcnbejnchmhaaGreatDoor
