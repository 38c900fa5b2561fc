import Derived.Test.YtodcnbejnchmhaaGreatDoorYb26
import Derived.Deep.RegionWith
import Derived.Deep.LoopGhost
import Derived.Laws.EntriesVeiled
namespace Go.Proofs.YtodcnbejnchmhaaGreatDoor
open Go.RowKit Go.Mem Go.Lin

/-- what a closure of until answers -/
def UPost (fs : List FPair) (g b u n : Nat) (r : Except Er UntilL) (w : World) (e : Ending) (w' : World) : Prop := match r with
  | .ok V => e = .returned (.tuple #[]) ∧ Blk w' u 67 (tilC V) ∧ LeftAt w' b g (fs.drop n) ∧ Fr w w' (fun i => i = b ∨ i = u)
  | .error x => e = Raised (wrongL x.2 (colOf fs x.1)) ∧ Fr w w' (fun i => i = b ∨ i = u)
theorem res_until1 (tmps : Array Value) (w : World) : (results Tryz.f205 tmps).run Tryz.prog w = .ok (.tuple #[]) w := by simp [results, Tryz.results205]
theorem res_until2 (tmps : Array Value) (w : World) : (results Tryz.f206 tmps).run Tryz.prog w = .ok (.tuple #[]) w := by simp [results, Tryz.results206]
theorem res_until3 (tmps : Array Value) (w : World) : (results Tryz.f207 tmps).run Tryz.prog w = .ok (.tuple #[]) w := by simp [results, Tryz.results207]
theorem res_until4 (tmps : Array Value) (w : World) : (results Tryz.f208 tmps).run Tryz.prog w = .ok (.tuple #[]) w := by simp [results, Tryz.results208]
theorem set3 (w : World) (u i j k : Nat) (x y z : Value) : Fr w (((w.setCell ⟨u, i, none⟩ x).setCell ⟨u, j, none⟩ y).setCell ⟨u, k, none⟩ z) (· = u) := ((Fr.set (S := (· = u)) rfl).trans (Fr.set (S := (· = u)) rfl) (fun _ _ h => h) (fun _ _ h => h)).trans (Fr.set (S := (· = u)) rfl) (fun _ _ h => h) (fun _ _ h => h)
theorem fr_l {a c : World} {b u : Nat} (h : Fr a c (· = b)) : Fr a c (fun i => i = b ∨ i = u) := h.mono (fun _ _ h => .inl h)
theorem fr_r {a c d : World} {b u : Nat} (h : Fr a c (· = b)) (h2 : Fr c d (· = u)) : Fr a d (fun i => i = b ∨ i = u) := h.trans h2 (fun _ _ h => .inl h) (fun _ _ h => .inr h)
set_option maxRecDepth 100000 in
set_option maxHeartbeats 1600000 in
theorem until1_any (fs : List FPair) (hz : ∀ x ∈ fs, x.1.length ≤ 100000) (a : Nat) (hp0 : a < fs.length) (U : UntilL) (w0 w : World) (b g q u : Nat) (ho : Ok w0 w b g) (h : LeftAt w b g (fs.drop (a))) (hq : w.cell? ⟨q, 0, none⟩ = some (.pointer (some ⟨b, 0, none⟩))) (hb : Blk w u 67 (tilC U)) (hub : u ≠ b) (hug : g ≠ u) :
    Calls Tryz.prog 205 #[.pointer (some ⟨q, 0, none⟩), .pointer (some ⟨u, 0, none⟩)] w (UPost fs g b u (a + 1) (stepP (fs.map (·.1)) a 0 U) w) := by
  obtain ⟨R, hR⟩ : ∃ R, stepP (fs.map (·.1)) a 0 U = R := ⟨_, rfl⟩
  rw [hR]
  unfold stepP at hR
  simp only [Nat.reduceEqDiff, if_false, if_true] at hR
  have HO := Lib.hid ho
  have HL := Lib.hid h
  have HB := Lib.hid hb
  have HG := Lib.hid (gt_len hz)
  clear ho h hb hz
  rcases (from_cases (gt (fs.map (·.1)) (a))).symm with ⟨hv, hp⟩ | ⟨y, hv, hp⟩
  · rw [hp] at hR
    simp only [req_none, bind_err] at hR
    subst hR
    go_enter Tryz.func205, Tryz.ntmps205
    go_wp2_with fail
    refine (takeI_err 161 (fun a W => Tryz.call161 a W) #[] #[strV (gt (fs.map (·.1)) (a))] _ b g fs (a) hp0 HL.out rfl 0 8 (by decide) (by intro W f; with_reducible exact from_any _ (HG.out _) W (HO.out.at_ f) _ _ hv)).mono ?_
    rintro e wn ⟨rfl, hfn⟩
    have HFn := Lib.hid hfn
    clear hfn
    go_wp2_with fail
    exact ⟨rfl, rfl, fr_l (fr_b HFn.out)⟩
  · rw [hp] at hR
    simp only [req_some, bind_ok] at hR
    subst hR
    go_enter Tryz.func205, Tryz.ntmps205
    go_wp2_with fail
    refine (takeI_at 161 (fun a W => Tryz.call161 a W) #[] #[strV (gt (fs.map (·.1)) (a))] _ b g fs (a) hp0 HL.out rfl HO.out.hg y (by intro W f; with_reducible exact from_any _ (HG.out _) W (HO.out.at_ f) _ _ hv)).mono ?_
    rintro e w2 ⟨rfl, hl2, hf2⟩
    have HL2 := Lib.hid hl2
    have HF2 := Lib.hid hf2
    have HB2 := Lib.hid (hf2.blk HB.out hub)
    clear hl2 hf2 hv hp
    go_wp2_with (
      refine wpList_store_cell 3 _ _ u 1 67 (tilC U) (tilC { U with year := y }) (intV y) (by rfl) rfl rfl rfl rfl HB2.out info_int (by rfl) (show 1 < 8 by decide) (put_u1 _ _) ?_
      intro w3 hf3 hb3
      have HB3 := Lib.hid hb3
      have HF3 := Lib.hid (fr_r HF2.out hf3)
      have HL3 := Lib.hid (HL2.out.fr hf3 (fun e => hub e.symm) hug)
      clear hf3 hb3)
    exact bodyPost_end (res_until1 _ _) rfl ⟨rfl, HB3.out, HL3.out, HF3.out⟩
set_option maxRecDepth 100000 in
set_option maxHeartbeats 1600000 in
theorem until2_any (fs : List FPair) (hz : ∀ x ∈ fs, x.1.length ≤ 100000) (a : Nat) (hp0 : a + 1 < fs.length) (U : UntilL) (w0 w : World) (b g q u : Nat) (ho : Ok w0 w b g) (h : LeftAt w b g (fs.drop (a + 1))) (hq : w.cell? ⟨q, 0, none⟩ = some (.pointer (some ⟨b, 0, none⟩))) (hb : Blk w u 67 (tilC U)) (hub : u ≠ b) (hug : g ≠ u) :
    Calls Tryz.prog 206 #[.pointer (some ⟨q, 0, none⟩), .pointer (some ⟨u, 0, none⟩)] w (UPost fs g b u (a + 1 + 1) (stepP (fs.map (·.1)) a 1 U) w) := by
  obtain ⟨R, hR⟩ : ∃ R, stepP (fs.map (·.1)) a 1 U = R := ⟨_, rfl⟩
  rw [hR]
  unfold stepP at hR
  simp only [Nat.reduceEqDiff, if_false, if_true] at hR
  have HO := Lib.hid ho
  have HL := Lib.hid h
  have HB := Lib.hid hb
  have HG := Lib.hid (gt_len hz)
  clear ho h hb hz
  rcases (month_cases (gt (fs.map (·.1)) (a + 1))).symm with ⟨hn, hp⟩ | ⟨n, hn, hk, hp⟩
  · rw [hp] at hR
    simp only [req_none, bind_err] at hR
    subst hR
    go_enter Tryz.func206, Tryz.ntmps206
    go_wp2_with fail
    refine (takeI_err 165 (fun a W => Tryz.call165 a W) #[] #[strV (gt (fs.map (·.1)) (a + 1))] _ b g fs (a + 1) hp0 HL.out rfl ((0 : Nat) : Int) 6 (by decide) (by intro W f; with_reducible exact monthF_any _ (HG.out _) W 0 hn 6 (if_pos rfl))).mono ?_
    rintro e wn ⟨rfl, hfn⟩
    have HFn := Lib.hid hfn
    clear hfn
    go_wp2_with fail
    exact ⟨rfl, rfl, fr_l (fr_b HFn.out)⟩
  · rw [hp] at hR
    simp only [req_some, bind_ok] at hR
    subst hR
    go_enter Tryz.func206, Tryz.ntmps206
    go_wp2_with fail
    refine (takeI_at 165 (fun a W => Tryz.call165 a W) #[] #[strV (gt (fs.map (·.1)) (a + 1))] _ b g fs (a + 1) hp0 HL.out rfl HO.out.hg (n : Int) (by intro W f; with_reducible exact monthF_any _ (HG.out _) W n hn 0 hk)).mono ?_
    rintro e w2 ⟨rfl, hl2, hf2⟩
    have HL2 := Lib.hid hl2
    have HF2 := Lib.hid hf2
    have HB2 := Lib.hid (hf2.blk HB.out hub)
    clear hl2 hf2 hn hk hp
    go_wp2_with (
      refine wpList_store_cell 3 _ _ u 2 67 (tilC U) (tilC { U with month := (n : Int) }) (intV (n : Int)) (by rfl) rfl rfl rfl rfl HB2.out info_int (by rfl) (show 2 < 8 by decide) (put_u2 _ _) ?_
      intro w3 hf3 hb3
      have HB3 := Lib.hid hb3
      have HF3 := Lib.hid (fr_r HF2.out hf3)
      have HL3 := Lib.hid (HL2.out.fr hf3 (fun e => hub e.symm) hug)
      clear hf3 hb3)
    exact bodyPost_end (res_until2 _ _) rfl ⟨rfl, HB3.out, HL3.out, HF3.out⟩
set_option maxRecDepth 100000 in
set_option maxHeartbeats 1600000 in
theorem until4_any (fs : List FPair) (hz : ∀ x ∈ fs, x.1.length ≤ 100000) (a : Nat) (hp0 : a + 3 < fs.length) (U : UntilL) (w0 w : World) (b g q u : Nat) (ho : Ok w0 w b g) (h : LeftAt w b g (fs.drop (a + 3))) (hq : w.cell? ⟨q, 0, none⟩ = some (.pointer (some ⟨b, 0, none⟩))) (hb : Blk w u 67 (tilC U)) (hub : u ≠ b) (hug : g ≠ u) :
    Calls Tryz.prog 208 #[.pointer (some ⟨q, 0, none⟩), .pointer (some ⟨u, 0, none⟩)] w (UPost fs g b u (a + 3 + 1) (stepP (fs.map (·.1)) a 3 U) w) := by
  obtain ⟨R, hR⟩ : ∃ R, stepP (fs.map (·.1)) a 3 U = R := ⟨_, rfl⟩
  rw [hR]
  unfold stepP at hR
  simp only [Nat.reduceEqDiff, if_false] at hR
  have HO := Lib.hid ho
  have HL := Lib.hid h
  have HB := Lib.hid hb
  have HG := Lib.hid (gt_len hz)
  clear ho h hb hz
  rcases (time_cases (gt (fs.map (·.1)) (a + 3))).symm with ⟨hv, hp⟩ | ⟨t, hv, hp⟩
  · rw [hp] at hR
    simp only [req_none, bind_err] at hR
    subst hR
    go_enter Tryz.func208, Tryz.ntmps208
    go_wp2_with fail
    refine (takeA_err 169 (fun a W => Tryz.call169 a W) #[] #[strV (gt (fs.map (·.1)) (a + 3))] _ b g fs (a + 3) hp0 HL.out rfl atZ 7 (by decide) (by intro W f; with_reducible exact timeC_any _ (by have := HG.out (a + 3); omega) W _ _ hv)).mono ?_
    rintro e wn ⟨rfl, hfn⟩
    have HFn := Lib.hid hfn
    clear hfn
    go_wp2_with fail
    exact ⟨rfl, rfl, fr_l (fr_b HFn.out)⟩
  · rw [hp] at hR
    simp only [req_some, bind_ok] at hR
    subst hR
    go_enter Tryz.func208, Tryz.ntmps208
    go_wp2_with fail
    refine (takeA_at 169 (fun a W => Tryz.call169 a W) #[] #[strV (gt (fs.map (·.1)) (a + 3))] _ b g fs (a + 3) hp0 HL.out rfl HO.out.hg t (by intro W f; with_reducible exact timeC_any _ (by have := HG.out (a + 3); omega) W _ _ hv)).mono ?_
    rintro e w2 ⟨rfl, hl2, hf2⟩
    have HL2 := Lib.hid hl2
    have HF2 := Lib.hid hf2
    have HB2 := Lib.hid (hf2.blk HB.out hub)
    clear hl2 hf2 hv hp
    go_wp2_with (
      refine wpList_store_blk 63 _ _ u 6 67 (tilC U) (atC t) (tilC { U with at_ := t }) (by rfl) rfl rfl rfl rfl HB2.out (infoA _) (atC_one _) (show 6 + 2 ≤ 8 by decide) (put_u6 _ _) ?_
      intro w3 hf3 hb3
      have HB3 := Lib.hid hb3
      have HF3 := Lib.hid (fr_r HF2.out hf3)
      have HL3 := Lib.hid (HL2.out.fr hf3 (fun e => hub e.symm) hug)
      clear hf3 hb3)
    exact bodyPost_end (res_until4 _ _) rfl ⟨rfl, HB3.out, HL3.out, HF3.out⟩
set_option maxRecDepth 100000 in
set_option maxHeartbeats 1600000 in
theorem until3_any (fs : List FPair) (hz : ∀ x ∈ fs, x.1.length ≤ 100000) (a : Nat) (hp0 : a + 2 < fs.length) (U : UntilL) (w0 w : World) (b g q u : Nat) (ho : Ok w0 w b g) (h : LeftAt w b g (fs.drop (a + 2))) (hq : w.cell? ⟨q, 0, none⟩ = some (.pointer (some ⟨b, 0, none⟩))) (hb : Blk w u 67 (tilC U)) (hub : u ≠ b) (hug : g ≠ u) :
    Calls Tryz.prog 207 #[.pointer (some ⟨q, 0, none⟩), .pointer (some ⟨u, 0, none⟩)] w (UPost fs g b u (a + 2 + 1) (stepP (fs.map (·.1)) a 2 U) w) := by
  obtain ⟨R, hR⟩ : ∃ R, stepP (fs.map (·.1)) a 2 U = R := ⟨_, rfl⟩
  rw [hR]
  unfold stepP at hR
  simp only [Nat.reduceEqDiff, if_false, if_true] at hR
  have HO := Lib.hid ho
  have HL := Lib.hid h
  have HB := Lib.hid hb
  have HG := Lib.hid (gt_len hz)
  clear ho h hb hz
  have c1 := blk_cell HB.out 1 (intV U.year) rfl
  have c2 := blk_cell HB.out 2 (intV U.month) rfl
  rcases (day_cases (gt (fs.map (·.1)) (a + 2)) U.year U.month).symm with ⟨d, hv, hp⟩ | ⟨d, hv, hp, hc⟩
  · have hR : Except.error (a + 2, 6) = R := by
      rcases hp with hp | ⟨hp, hc⟩
      · rw [hp] at hR
        simpa only [req_none, bind_err] using hR
      · rw [hp] at hR
        simp only [req_some, bind_ok] at hR
        rw [hc] at hR
        simpa only [chk_false, bind_err] using hR
    subst hR
    have HD := Lib.hid (fun (W : World) (f : Fr w W (fun _ => False)) => dayIn_any U.year U.month W)
    have HT := Lib.hid (fun (W : World) (q1 q2 : Nat) (hfd : Fr w W (fun _ => False)) (hq1 : W.cell? ⟨q1, 0, none⟩ = some (intV U.year)) (hq2 : W.cell? ⟨q2, 0, none⟩ = some (intV U.month)) => takeD_err 189 (fun a W => Tryz.call189 a W) #[.pointer (some ⟨q1, 0, none⟩), .pointer (some ⟨q2, 0, none⟩)] #[strV (gt (fs.map (·.1)) (a + 2)), .pointer (some ⟨q1, 0, none⟩), .pointer (some ⟨q2, 0, none⟩)] W b g fs (a + 2) hp0 (HL.out.fr hfd (fun h => h) (fun h => h)) rfl d 6 (by decide) (by intro W f; with_reducible exact dayF_any _ (HG.out _) U.year U.month q1 q2 W (HO.out.at_ (ff hfd f)) (f.cell0 hq1) (f.cell0 hq2) _ _ hv))
    clear hv hp hp0
    go_enter Tryz.func207, Tryz.ntmps207
    go_wp2_with fail
    refine wp_region_held_drew (S := fun w' => Fr w w' (fun _ => False)) (by kernel_rfl) (Fr.drew _ _) (fun hHeld => ?_)
    refine wpAnyH_take (i := 0) (v := ?_) rfl (by kernel_rfl) (by kernel_rfl) (by kernel_rfl) (fun _ _ _ h => h) (Or.inl ⟨by rfl, ?_⟩) (by assumption) ?_
    rotate_left
    · intro w' hSw
      have k0 := hSw.cell0 hq; have k1 := hSw.cell0 c1; have k2 := hSw.cell0 c2
      go_simp
      try with_reducible rfl
    try simp only [Act.put, List.setIfInBounds_toArray, List.set_cons_zero, List.set_cons_succ, List.getElem_toArray, List.getElem_cons_zero]
    refine wpAnyH_take (i := 1) (v := ?_) rfl (by kernel_rfl) (by kernel_rfl) (by kernel_rfl) (fun _ _ _ h => h) (Or.inl ⟨by rfl, ?_⟩) (by assumption) ?_
    rotate_left
    · intro w' hSw
      have k0 := hSw.cell0 hq; have k1 := hSw.cell0 c1; have k2 := hSw.cell0 c2
      go_simp
      try with_reducible rfl
    try simp only [Act.put, List.setIfInBounds_toArray, List.set_cons_zero, List.set_cons_succ, List.getElem_toArray, List.getElem_cons_succ, List.getElem_cons_zero]
    refine wpAnyH_take (i := 2) (v := ?_) rfl (by kernel_rfl) (by kernel_rfl) (by kernel_rfl) (fun _ _ _ h => h) (Or.inl ⟨by rfl, ?_⟩) (by assumption) ?_
    rotate_left
    · intro w' hSw
      have k0 := hSw.cell0 hq; have k1 := hSw.cell0 c1; have k2 := hSw.cell0 c2
      go_simp
      try with_reducible rfl
    try simp only [Act.put, List.setIfInBounds_toArray, List.set_cons_zero, List.set_cons_succ, List.getElem_toArray, List.getElem_cons_succ, List.getElem_cons_zero]
    refine wpAnyH_take (i := 3) (v := ?_) rfl (by kernel_rfl) (by kernel_rfl) (by kernel_rfl) (fun _ _ _ h => h) (Or.inl ⟨by rfl, ?_⟩) (by assumption) ?_
    rotate_left
    · intro w' hSw
      have k0 := hSw.cell0 hq; have k1 := hSw.cell0 c1; have k2 := hSw.cell0 c2
      go_simp
      try with_reducible rfl
    try simp only [Act.put, List.setIfInBounds_toArray, List.set_cons_zero, List.set_cons_succ, List.getElem_toArray, List.getElem_cons_succ, List.getElem_cons_zero]
    refine wpAnyH_take (i := 4) (v := ?_) rfl (by kernel_rfl) (by kernel_rfl) (by kernel_rfl) (fun _ _ _ h => h) (Or.inl ⟨by rfl, ?_⟩) (by assumption) ?_
    rotate_left
    · intro w' hSw
      have k0 := hSw.cell0 hq; have k1 := hSw.cell0 c1; have k2 := hSw.cell0 c2
      go_simp
      try with_reducible rfl
    try simp only [Act.put, List.setIfInBounds_toArray, List.set_cons_zero, List.set_cons_succ, List.getElem_toArray, List.getElem_cons_succ, List.getElem_cons_zero]
    refine wpAnyH_ready (rs := [5]) (by kernel_rfl) (by simp) ?_
    refine AllReadyH.cons rfl (fun K hK => ?_) AllReadyH.nil
    go_simp
    refine (HD.out _ hHeld).mono ?_
    rintro e wd ⟨q1, q2, rfl, hq1, hq2, hfd0⟩
    have hfd := ff hHeld hfd0
    refine hK.out _ _ hfd (fun hHeld2 => ?_)
    clear hK K
    try simp only [Act.put, List.setIfInBounds_toArray, List.set_cons_zero, List.set_cons_succ, List.getElem_toArray, List.getElem_cons_succ, List.getElem_cons_zero]
    refine wpAnyH_ready (rs := [6]) (by kernel_rfl) (by simp) ?_
    refine AllReadyH.cons rfl (fun K hK => ?_) AllReadyH.nil
    go_simp
    refine (HT.out _ q1 q2 hfd hq1 hq2).mono ?_
    rintro e wn ⟨rfl, hfn⟩
    go_simp
    exact ⟨rfl, rfl, fr_l (fr_b (ff hfd hfn))⟩
  · rw [hp] at hR
    simp only [req_some, bind_ok] at hR
    rw [hc] at hR
    simp only [chk_true, bind_ok] at hR
    subst hR
    have HD := Lib.hid (fun (W : World) (f : Fr w W (fun _ => False)) => dayIn_any U.year U.month W)
    have HT := Lib.hid (fun (W : World) (q1 q2 : Nat) (hfd : Fr w W (fun _ => False)) (hq1 : W.cell? ⟨q1, 0, none⟩ = some (intV U.year)) (hq2 : W.cell? ⟨q2, 0, none⟩ = some (intV U.month)) => (id (takeD_at 189 (fun a W => Tryz.call189 a W) #[.pointer (some ⟨q1, 0, none⟩), .pointer (some ⟨q2, 0, none⟩)] #[strV (gt (fs.map (·.1)) (a + 2)), .pointer (some ⟨q1, 0, none⟩), .pointer (some ⟨q2, 0, none⟩)] W b g fs (a + 2) hp0 (HL.out.fr hfd (fun h => h) (fun h => h)) rfl HO.out.hg d (by intro W f; with_reducible exact dayF_any _ (HG.out _) U.year U.month q1 q2 W (HO.out.at_ (ff hfd f)) (f.cell0 hq1) (f.cell0 hq2) _ _ hv)) : Calls Tryz.prog 166 #[.pointer (some ⟨b, 0, none⟩), .func (.func 189) #[] #[.pointer (some ⟨q1, 0, none⟩), .pointer (some ⟨q2, 0, none⟩)]] W fun e w' => e = .returned (.agg #[intV d.k, intV d.d, intV d.w]) ∧ LeftAt w' b g (fs.drop (a + 2 + 1)) ∧ Fr W w' (· = b)))
    clear hv hp hc hp0
    go_enter Tryz.func207, Tryz.ntmps207
    go_wp2_with fail
    go_region_with (first
      | (go_at_call 167; refine (HD.out _ (Fr.drewN _ _ _)).mono ?_; rintro e wd ⟨q1, q2, rfl, hq1, hq2, hfd⟩; have hfd' := ff (Fr.drewN _ _ _) hfd; have c3 := hfd'.cell0 hq)
      | (go_at_call 166; refine (HT.out _ _ _ hfd' hq1 hq2).mono ?_; rintro e w2 ⟨rfl, hl2, hf2⟩; have HL2 := Lib.hid hl2; have HF2 := Lib.hid (fr_bb (fr_b hfd') hf2); have HB2 := Lib.hid (HF2.out.blk HB.out hub); have d3 := blk_cell HB2.out 3 _ rfl; have d4 := blk_cell HB2.out 4 _ rfl; have d5 := blk_cell HB2.out 5 _ rfl; have f3 := free_at HB2.out 3; have f4 := free_at HB2.out 4; have f5 := free_at HB2.out 5; clear hl2 hf2))
    all_goals
      have hb3 : Blk _ u 67 (tilC { U with on := d }) := ((HB2.out.put 3 (intV d.k)).put 4 (intV d.d)).put 5 (intV d.w)
      have hs3 := set3 w2 u 3 4 5 (intV d.k) (intV d.d) (intV d.w)
      exact bodyPost_end (res_until3 _ _) rfl ⟨rfl, hb3, HL2.out.fr hs3 (fun e => hub e.symm) hug, fr_r HF2.out hs3⟩
end Go.Proofs.YtodcnbejnchmhaaGreatDoor
namespace Go.Proofs.YtodcnbejnchmhaaGreatDoor
open Go.RowKit Go.Mem Go.Lin

theorem res_only {w : World} {q : Nat} {v : UntilL} (hb : Blk w q 67 (tilC v)) (tmps : Array Value) (hp : tmps.getD 2 undef = .pointer (some ⟨q, 0, none⟩)) : (results Tryz.f204 tmps).run Tryz.prog w = .ok (.agg (tilC v)) w :=
  results_cell_row (P := Tryz.prog) (fn := Tryz.f204) (p := 2) (ty := 67) rfl tmps _ q 67 (tilC v) (0, 0) _ hp hb Tryz.underlying67 rfl (infoT v)
theorem res_until {w : World} {q : Nat} {v : UntilL} (hb : Blk w q 67 (tilC v)) (tmps : Array Value) (hp : tmps.getD 2 undef = .pointer (some ⟨q, 0, none⟩)) : (results Tryz.f177 tmps).run Tryz.prog w = .ok (.agg (tilC v)) w :=
  results_cell_row (P := Tryz.prog) (fn := Tryz.f177) (p := 2) (ty := 67) rfl tmps _ q 67 (tilC v) (0, 0) _ hp hb Tryz.underlying67 rfl (infoT v)
set_option maxRecDepth 100000 in
set_option maxHeartbeats 1600000 in
theorem onlyYear_any (y : Int) (w : World) : Calls Tryz.prog 204 #[intV y] w fun e w' => e = .returned (.agg (tilC ⟨true, y, 1, day1, atZ⟩)) ∧ Fr w w' (fun _ => False) := by
  go_enter Tryz.func204, Tryz.ntmps204
  go_wp2_with (
      refine wpList_store_blk 67 _ _ w.heap.size 0 67 (tilC tilZ) (tilC ⟨true, y, 1, day1, atZ⟩) (tilC ⟨true, y, 1, day1, atZ⟩) (by rfl) rfl rfl rfl rfl (Blk.made w 67 (tilC tilZ)) (infoT _) (tilC_one _) (show 0 + 8 ≤ 8 by decide) (put_ua _ _) ?_
      intro w3 hf3 hb3
      have HF3 := Lib.hid ((Fr.new w _ (fun _ => False)).fresh hf3 (fun i e => by omega))
      have HB3 := Lib.hid hb3
      clear hf3 hb3)
  (try simp only [Exit.inBlock, Exit.then])
  exact bodyPost_ret (res_only HB3.out _ rfl) rfl ⟨rfl, HF3.out⟩
theorem fr_bu {a c d : World} {b u : Nat} (h : Fr a c (· = b)) (h2 : Fr c d (fun i => i = b ∨ i = u)) (hu : a.heap.size ≤ u) : Fr a d (· = b) := h.trans h2 (fun _ _ h => h) (fun i hi x => x.elim id (fun e => by omega))
abbrev ptrV (b : Nat) : Value := .pointer (some ⟨b, 0, none⟩)
abbrev cloV (k q u : Nat) : Value := .func (.func k) #[] #[ptrV q, ptrV u]
set_option maxRecDepth 100000 in
set_option maxHeartbeats 3200000 in
theorem until_none (_fs : List FPair) (_w0 w : World) (b g : Nat) (h : LeftAt w b g []) (_hg : g < w.heap.size) :
    Calls Tryz.prog 177 #[ptrV b] w fun e w' => e = .returned (.agg (tilC tilZ)) ∧ LeftAt w' b g [] ∧ Fr w w' (fun _ => False) := by
  have hbs := h.lt
  have hf1 := Fr.new w (.cells #[ptrV b] 175) (fun _ => False)
  have hf2 := Fr.new (w.alloc (.cells #[ptrV b] 175)) (.cells #[.bool false, intV 0, intV 0, intV 0, intV 0, intV 0, intV 0, intV 0] 67) (fun _ => False)
  have hsz : (w.alloc (.cells #[ptrV b] 175)).heap.size = w.heap.size + 1 := by simp
  have hb2 := Blk.made (w.alloc (.cells #[ptrV b] 175)) 67 #[.bool false, intV 0, intV 0, intV 0, intV 0, intV 0, intV 0, intV 0]
  rw [hsz] at hb2
  have HZ := Lib.hid (show Blk _ (w.heap.size + 1) 67 (tilC tilZ) from hb2)
  have HQ := Lib.hid (hf2.blk (Blk.made w 175 #[ptrV b]) (fun h => h))
  have HF := Lib.hid (ff hf1 hf2)
  obtain ⟨A, c, hb, -, -, -⟩ := h.fr HF.out (fun h => h) (fun h => h)
  have d0 := blk_cell hb 0 _ rfl
  simp only [List.length_nil] at d0
  have HL := Lib.hid h
  clear hf1 hf2 hb2 hsz hb h
  go_enter Tryz.func177, Tryz.ntmps177
  go_wp2_with (
      refine wpList_store_blk 67 _ _ (w.heap.size + 1) 0 67 (tilC tilZ) (tilC tilZ) (tilC tilZ) (by rfl) rfl rfl rfl rfl HZ.out (infoT _) (tilC_one _) (show 0 + 8 ≤ 8 by decide) (put_ua _ _) ?_
      intro w3 hf3 hb3
      have HF3 := Lib.hid (HF.out.fresh hf3 (fun i e => by omega))
      have HB3 := Lib.hid hb3
      clear hf3 hb3)
  (try simp only [Exit.inBlock, Exit.then])
  exact bodyPost_ret (res_until HB3.out _ rfl) rfl ⟨rfl, HL.out.fr HF3.out (fun h => h) (fun h => h), HF3.out⟩
set_option maxRecDepth 100000 in
set_option maxHeartbeats 6400000 in
theorem until_some (fs : List FPair) (hz : ∀ x ∈ fs, x.1.length ≤ 100000) (a n : Nat) (hn : a + n = fs.length) (h1 : 1 ≤ n) (h4 : n ≤ 4) (w0 w : World) (b g : Nat) (ho : Ok w0 w b g) (h : LeftAt w b g (fs.drop a)) (hgs : g < w.heap.size) :
    Calls Tryz.prog 177 #[ptrV b] w (Ran fs g b fs.length (restP (fs.map (·.1)) a n 0 tilU0) tilV w) := by
  obtain ⟨R, hR⟩ : ∃ R, restP (fs.map (·.1)) a n 0 tilU0 = R := ⟨_, rfl⟩
  rw [hR]
  have HR := Lib.hid hR
  have hbs := h.lt
  have hf1 := Fr.new w (.cells #[ptrV b] 175) (fun _ => False)
  have hf2 := Fr.new (w.alloc (.cells #[ptrV b] 175)) (.cells #[.bool false, intV 0, intV 0, intV 0, intV 0, intV 0, intV 0, intV 0] 67) (fun _ => False)
  have hsz : (w.alloc (.cells #[ptrV b] 175)).heap.size = w.heap.size + 1 := by simp
  have hb2 := Blk.made (w.alloc (.cells #[ptrV b] 175)) 67 #[.bool false, intV 0, intV 0, intV 0, intV 0, intV 0, intV 0, intV 0]
  rw [hsz] at hb2
  have HZ := Lib.hid (show Blk _ (w.heap.size + 1) 67 (tilC tilZ) from hb2)
  have HQ := Lib.hid (hf2.blk (Blk.made w 175 #[ptrV b]) (fun h => h))
  have HF := Lib.hid (ff hf1 hf2)
  obtain ⟨A, c, hb, -, -, -⟩ := h.fr HF.out (fun h => h) (fun h => h)
  have d0 := blk_cell hb 0 _ rfl
  rw [show (fs.drop a).length = n by rw [List.length_drop]; omega] at d0 hb
  have HB := Lib.hid hb
  have HL := Lib.hid (h.fr HF.out (fun h => h) (fun h => h))
  have HO := Lib.hid ho
  have HY := Lib.hid (fun W => onlyYear_any 0 W)
  have n0 : ((n : Int) == 0) = false := by simp; omega
  have n4 : (n : Int) ≤ 4 := by omega
  have n1 : (0 : Int) ≤ (n : Int) := by omega
  clear hR hf1 hf2 hb2 hsz hb h ho
  go_enter Tryz.func177, Tryz.ntmps177
  go_wp2_with fail
  refine (HY.out _).mono ?_
  rintro e w2 ⟨rfl, hf2⟩
  have hs2 := hf2.size
  simp at hs2
  have HB2 := Lib.hid (hf2.blk HB.out (fun h => h))
  have HZ2 := Lib.hid (hf2.blk HZ.out (fun h => h))
  have HQ2 := Lib.hid (hf2.blk HQ.out (fun h => h))
  have HL2 := Lib.hid (HL.out.fr hf2 (fun h => h) (fun h => h))
  have HF2 := Lib.hid (ff HF.out hf2)
  clear hf2 HB HZ HQ HL HF HY d0
  go_wp2_with (
      refine wpList_store_blk 67 _ _ w2.heap.size 0 67 (tilC tilZ) (tilC tilU0) (tilC tilU0) (by rfl) rfl rfl rfl rfl (Blk.made w2 67 (tilC tilZ)) (infoT _) (tilC_one _) (show 0 + 8 ≤ 8 by decide) (put_ua _ _) ?_
      intro w3 hf3 hb3
      have hf23 := (Fr.new w2 (.cells (tilC tilZ) 67) (fun _ => False)).fresh hf3 (fun i e => by omega)
      have hs3 : w2.heap.size + 1 ≤ w3.heap.size := by have := hf3.size; simp at this; exact this
      have hfa := Fr.new w3 (.cells #[cloV 205 w.heap.size w2.heap.size, cloV 206 w.heap.size w2.heap.size, cloV 207 w.heap.size w2.heap.size, cloV 208 w.heap.size w2.heap.size] 249) (fun _ => False)
      have d3 := blk_cell (hfa.blk (hf23.blk HB2.out (fun h => h)) (fun h => h)) 0 _ rfl
      have q3 := blk_cell (hfa.blk (hf23.blk HQ2.out (fun h => h)) (fun h => h)) 0 _ rfl
      have HQ4 := Lib.hid (hfa.blk (hf23.blk HQ2.out (fun h => h)) (fun h => h))
      have HZ4 := Lib.hid (hfa.blk (hf23.blk HZ2.out (fun h => h)) (fun h => h))
      have HU4 := Lib.hid (hfa.blk hb3 (fun h => h))
      have HL4 := Lib.hid ((HL2.out.fr hf23 (fun h => h) (fun h => h)).fr hfa (fun h => h) (fun h => h))
      have HF4 := Lib.hid (ff (ff HF2.out hf23) hfa)
      have HA3 := Lib.hid (Blk.made w3 249 #[cloV 205 w.heap.size w2.heap.size, cloV 206 w.heap.size w2.heap.size, cloV 207 w.heap.size w2.heap.size, cloV 208 w.heap.size w2.heap.size])
      clear hf3 hb3 hf23 hfa HB2 HZ2 HQ2 HL2 HF2)
  go_loopg [6, 27] n (fun k _ v27 wr => ∃ (j : Nat) (U : UntilL), j + k = n ∧ v27 = .int .i64 (j : Int) ∧ restP (fs.map (·.1)) a k j U = R ∧ Blk wr w2.heap.size 67 (tilC U) ∧ LeftAt wr b g (fs.drop (a + j)) ∧ Blk wr w3.heap.size 249 #[cloV 205 w.heap.size w2.heap.size, cloV 206 w.heap.size w2.heap.size, cloV 207 w.heap.size w2.heap.size, cloV 208 w.heap.size w2.heap.size] ∧ Blk wr w.heap.size 175 #[ptrV b] ∧ Blk wr (w.heap.size + 1) 67 (tilC tilZ) ∧ Fr w wr (· = b))
  case atStart => exact ⟨0, tilU0, by omega, rfl, HR.out, HU4.out, HL4.out, HA3.out, HQ4.out, HZ4.out, fr_b HF4.out⟩
  case round =>
    obtain ⟨j, U, hj, rfl, hr, hu, hl, ha, hq, hzz, hf⟩ := hrel
    have HU := Lib.hid hu
    have HL := Lib.hid hl
    have HA := Lib.hid ha
    have HQ := Lib.hid hq
    have HZ := Lib.hid hzz
    have HF := Lib.hid hf
    have HR1 := Lib.hid hr
    have ho := Ok.on HO.out hf
    have HO1 := Lib.hid ho
    clear hu hl ha hq hzz hf hr ho HR d3 q3 HQ4 HZ4 HU4 HL4 HF4 HA3 HO
    by_cases hlt : j < n
    · obtain ⟨k', rfl⟩ : ∃ k', gk = k' + 1 := ⟨gk - 1, by omega⟩
      have hj4 : j = 0 ∨ j = 1 ∨ j = 2 ∨ j = 3 := by omega
      have i0 : (j : Int) < (n : Int) := by omega
      rcases hj4 with rfl | rfl | rfl | rfl
      · have a0 := blk_cell HA.out 0 _ rfl
        have hr := HR1.out
        rw [restP] at hr
        have HC := Lib.hid (until1_any fs hz a (by omega) U w0 wr b g w.heap.size w2.heap.size HO1.out HL.out (blk_cell HQ.out 0 _ rfl) HU.out (by omega) (by omega))
        obtain ⟨S, hS⟩ : ∃ S, stepP (fs.map (·.1)) a 0 U = S := ⟨_, rfl⟩
        rw [hS] at hr HC
        clear hS HR1
        cases S with
        | error x =>
          have hr : Except.error x = R := hr
          subst hr
          go_wp2_with fail
          refine HC.out.mono ?_
          rintro e w5 ⟨rfl, hf5⟩
          have HF5 := Lib.hid hf5
          clear hf5
          go_wp2_with fail
          exact ⟨rfl, rfl, fr_bu HF.out HF5.out (by omega)⟩
        | ok V =>
          have HV := Lib.hid (show restP (fs.map (·.1)) a k' 1 V = R from hr)
          clear hr
          go_wp2_with fail
          refine HC.out.mono ?_
          rintro e w5 ⟨rfl, hb5, hl5, hf5⟩
          have HB5 := Lib.hid hb5
          have HL5 := Lib.hid hl5
          have HF5 := Lib.hid hf5
          clear hb5 hl5 hf5
          go_wp2_with fail
          go_roundg k'
          case measure => omega
          case rel => exact ⟨1, V, by omega, by first | rfl | go_num, HV.out, HB5.out, HL5.out, HF5.out.blk HA.out (by omega), HF5.out.blk HQ.out (by omega), HF5.out.blk HZ.out (by omega), fr_bu HF.out HF5.out (by omega)⟩
      · have a0 := blk_cell HA.out 1 _ rfl
        have hr := HR1.out
        rw [restP] at hr
        have HC := Lib.hid (until2_any fs hz a (by omega) U w0 wr b g w.heap.size w2.heap.size HO1.out HL.out (blk_cell HQ.out 0 _ rfl) HU.out (by omega) (by omega))
        obtain ⟨S, hS⟩ : ∃ S, stepP (fs.map (·.1)) a 1 U = S := ⟨_, rfl⟩
        rw [hS] at hr HC
        clear hS HR1
        cases S with
        | error x =>
          have hr : Except.error x = R := hr
          subst hr
          go_wp2_with fail
          refine HC.out.mono ?_
          rintro e w5 ⟨rfl, hf5⟩
          have HF5 := Lib.hid hf5
          clear hf5
          go_wp2_with fail
          exact ⟨rfl, rfl, fr_bu HF.out HF5.out (by omega)⟩
        | ok V =>
          have HV := Lib.hid (show restP (fs.map (·.1)) a k' 2 V = R from hr)
          clear hr
          go_wp2_with fail
          refine HC.out.mono ?_
          rintro e w5 ⟨rfl, hb5, hl5, hf5⟩
          have HB5 := Lib.hid hb5
          have HL5 := Lib.hid hl5
          have HF5 := Lib.hid hf5
          clear hb5 hl5 hf5
          go_wp2_with fail
          go_roundg k'
          case measure => omega
          case rel => exact ⟨2, V, by omega, by first | rfl | go_num, HV.out, HB5.out, HL5.out, HF5.out.blk HA.out (by omega), HF5.out.blk HQ.out (by omega), HF5.out.blk HZ.out (by omega), fr_bu HF.out HF5.out (by omega)⟩
      · have a0 := blk_cell HA.out 2 _ rfl
        have hr := HR1.out
        rw [restP] at hr
        have HC := Lib.hid (until3_any fs hz a (by omega) U w0 wr b g w.heap.size w2.heap.size HO1.out HL.out (blk_cell HQ.out 0 _ rfl) HU.out (by omega) (by omega))
        obtain ⟨S, hS⟩ : ∃ S, stepP (fs.map (·.1)) a 2 U = S := ⟨_, rfl⟩
        rw [hS] at hr HC
        clear hS HR1
        cases S with
        | error x =>
          have hr : Except.error x = R := hr
          subst hr
          go_wp2_with fail
          refine HC.out.mono ?_
          rintro e w5 ⟨rfl, hf5⟩
          have HF5 := Lib.hid hf5
          clear hf5
          go_wp2_with fail
          exact ⟨rfl, rfl, fr_bu HF.out HF5.out (by omega)⟩
        | ok V =>
          have HV := Lib.hid (show restP (fs.map (·.1)) a k' 3 V = R from hr)
          clear hr
          go_wp2_with fail
          refine HC.out.mono ?_
          rintro e w5 ⟨rfl, hb5, hl5, hf5⟩
          have HB5 := Lib.hid hb5
          have HL5 := Lib.hid hl5
          have HF5 := Lib.hid hf5
          clear hb5 hl5 hf5
          go_wp2_with fail
          go_roundg k'
          case measure => omega
          case rel => exact ⟨3, V, by omega, by first | rfl | go_num, HV.out, HB5.out, HL5.out, HF5.out.blk HA.out (by omega), HF5.out.blk HQ.out (by omega), HF5.out.blk HZ.out (by omega), fr_bu HF.out HF5.out (by omega)⟩
      · have a0 := blk_cell HA.out 3 _ rfl
        have hr := HR1.out
        rw [restP] at hr
        have HC := Lib.hid (until4_any fs hz a (by omega) U w0 wr b g w.heap.size w2.heap.size HO1.out HL.out (blk_cell HQ.out 0 _ rfl) HU.out (by omega) (by omega))
        obtain ⟨S, hS⟩ : ∃ S, stepP (fs.map (·.1)) a 3 U = S := ⟨_, rfl⟩
        rw [hS] at hr HC
        clear hS HR1
        cases S with
        | error x =>
          have hr : Except.error x = R := hr
          subst hr
          go_wp2_with fail
          refine HC.out.mono ?_
          rintro e w5 ⟨rfl, hf5⟩
          have HF5 := Lib.hid hf5
          clear hf5
          go_wp2_with fail
          exact ⟨rfl, rfl, fr_bu HF.out HF5.out (by omega)⟩
        | ok V =>
          have HV := Lib.hid (show restP (fs.map (·.1)) a k' 4 V = R from hr)
          clear hr
          go_wp2_with fail
          refine HC.out.mono ?_
          rintro e w5 ⟨rfl, hb5, hl5, hf5⟩
          have HB5 := Lib.hid hb5
          have HL5 := Lib.hid hl5
          have HF5 := Lib.hid hf5
          clear hb5 hl5 hf5
          go_wp2_with fail
          go_roundg k'
          case measure => omega
          case rel => exact ⟨4, V, by omega, by first | rfl | go_num, HV.out, HB5.out, HL5.out, HF5.out.blk HA.out (by omega), HF5.out.blk HQ.out (by omega), HF5.out.blk HZ.out (by omega), fr_bu HF.out HF5.out (by omega)⟩
    · obtain rfl : j = n := by omega
      obtain rfl : gk = 0 := by omega
      have hr : Except.ok U = R := HR1.out
      subst hr
      clear HR1
      go_wp2_with (first
        | (refine wpList_load_blk 67 _ w2.heap.size 0 67 (tilC U) (tilC U) _ (by rfl) rfl rfl HU.out Tryz.underlying67 rfl (infoT _) (zero_part _) ?_)
        | (
          refine wpList_store_blk 67 _ _ (w.heap.size + 1) 0 67 (tilC tilZ) (tilC U) (tilC U) (by rfl) rfl rfl rfl rfl HZ.out (infoT _) (tilC_one _) (show 0 + 8 ≤ 8 by decide) (put_ua _ _) ?_
          intro w6 hf6 hb6
          have HB6 := Lib.hid hb6
          have HF6 := Lib.hid (fr_more HF.out hf6 (fun i e => by omega))
          have HL6 := Lib.hid (HL.out.fr hf6 (by omega) (by omega))
          clear hf6 hb6))
      (try simp only [Exit.inBlock, Exit.then])
      have hl6 := HL6.out
      rw [hn] at hl6
      exact bodyPost_ret (res_until HB6.out _ rfl) rfl ⟨rfl, hl6, HF6.out⟩
end Go.Proofs.YtodcnbejnchmhaaGreatDoor
namespace Go.Proofs.YtodcnbejnchmhaaGreatDoor
open Go.RowKit Go.Mem Go.Lin

theorem until_any (fs : List FPair) (hz : ∀ x ∈ fs, x.1.length ≤ 100000) (a : Nat) (h1 : a ≤ fs.length) (h2 : fs.length ≤ a + 4) (w0 w : World) (b g : Nat) (ho : Ok w0 w b g) (h : LeftAt w b g (fs.drop a)) (hgs : g < w.heap.size) :
    Calls Tryz.prog 177 #[ptrV b] w (Ran fs g b fs.length (if a < (fs.map (·.1)).length then untilP (fs.map (·.1)) a else .ok tilZ) tilV w) := by
  have hl : (fs.map (·.1)).length = fs.length := List.length_map _
  by_cases hlt : a < fs.length
  · rw [if_pos (by rw [hl]; exact hlt), until_rest (fs.map (·.1)) a (by rw [hl]; exact hlt) (by rw [hl]; exact h2), hl]
    exact until_some fs hz a (fs.length - a) (by omega) (by omega) (by omega) w0 w b g ho h hgs
  · obtain rfl : a = fs.length := by omega
    rw [if_neg (by rw [hl]; exact hlt)]
    rw [List.drop_length] at h
    refine (until_none fs w0 w b g h hgs).mono ?_
    rintro e w' ⟨rfl, hl2, hf⟩
    exact ⟨rfl, by rw [List.drop_length]; exact hl2, fr_b hf⟩
theorem res_era {w : World} {q : Nat} {v : EraL} (hb : Blk w q 69 (eraC v)) (tmps : Array Value) (hp : tmps.getD 2 undef = .pointer (some ⟨q, 0, none⟩)) : (results Tryz.f144 tmps).run Tryz.prog w = .ok (.agg (eraC v)) w :=
  results_cell_row (P := Tryz.prog) (fn := Tryz.f144) (p := 2) (ty := 69) rfl tmps _ q 69 (eraC v) (0, 0) _ hp hb Tryz.underlying69 rfl (infoE v)
set_option maxRecDepth 100000 in
set_option maxHeartbeats 6400000 in
theorem rera_any (fs : List FPair) (hz : ∀ x ∈ fs, x.1.length ≤ 100000) (a : Nat) (ha : a + 3 ≤ fs.length) (hb7 : fs.length ≤ a + 7) (w0 w : World) (b g : Nat) (ho : Ok w0 w b g) (h : LeftAt w b g (fs.drop a)) :
    Calls Tryz.prog 144 #[.pointer (some ⟨b, 0, none⟩)] w (Ran fs g b fs.length (eraP (fs.map (·.1)) a) eraV w) := by
  have hbs := h.lt
  have hgs : g < w.heap.size := by
    have h2 := h
    rw [gt_at fs a (by omega)] at h2
    obtain ⟨_, _, _, _, cg, _, _⟩ := h2.open
    exact World.block_lt_of_cell? w _ cg
  obtain ⟨R, hR⟩ : ∃ R, eraP (fs.map (·.1)) a = R := ⟨_, rfl⟩
  rw [hR]
  unfold eraP at hR
  have hf1 := Fr.new w (.cells #[intV 0, intV 0, intV 0, .string ⟨#[]⟩, .string ⟨#[]⟩, .bool false, intV 0, intV 0, intV 0, intV 0, intV 0, intV 0, intV 0] 69) (fun _ => False)
  have HZ0 := Lib.hid (show Blk _ w.heap.size 69 (eraC eraZ) from Blk.made w 69 #[intV 0, intV 0, intV 0, .string ⟨#[]⟩, .string ⟨#[]⟩, .bool false, intV 0, intV 0, intV 0, intV 0, intV 0, intV 0, intV 0])
  have HL0 := Lib.hid (h.fr hf1 (fun h => h) (fun h => h))
  have HF0 := Lib.hid (fr_b (b := b) hf1)
  have HO0 := Lib.hid (ho.on HF0.out)
  have HG := Lib.hid (gt_len hz)
  have HN := Lib.hid hz
  clear hf1 h ho hz
  have HR := Lib.hid hR
  clear hR
  go_enter Tryz.func144, Tryz.ntmps144
  go_wp2_with fail
  rcases (amt_cases (gt (fs.map (·.1)) a)).symm with ⟨hv, hp⟩ | ⟨off, hv, hp⟩
  ·
    have hR := HR.out
    rw [hp] at hR
    simp only [req_none, bind_err] at hR
    subst hR
    refine (takeI_err 170 (fun a W => Tryz.call170 a W) #[] #[strV (gt (fs.map (·.1)) a)] _ b g fs a (by omega) HL0.out rfl 0 7 (by decide) (by intro W f; with_reducible exact amount_any _ (by have := HG.out a; omega) W _ _ hv)).mono ?_
    rintro e wn ⟨rfl, hfn⟩
    have HFn := Lib.hid hfn
    clear hfn
    go_wp2_with fail
    exact ⟨rfl, rfl, fr_bb HF0.out (fr_b HFn.out)⟩
  have hR := HR.out
  rw [hp] at hR
  simp only [req_some, bind_ok] at hR
  have HR := Lib.hid hR
  clear hR
  refine (takeI_at 170 (fun a W => Tryz.call170 a W) #[] #[strV (gt (fs.map (·.1)) a)] _ b g fs a (by omega) HL0.out rfl HO0.out.hg off (by intro W f; with_reducible exact amount_any _ (by have := HG.out a; omega) W _ _ hv)).mono ?_
  rintro e wa0 ⟨rfl, hl0, hfa0⟩
  have HL1 := Lib.hid hl0
  have HF1 := Lib.hid (fr_bb HF0.out hfa0)
  have HO1 := Lib.hid (HO0.out.on hfa0)
  have hsa0 := hfa0.size
  have HZ1 := Lib.hid (hfa0.blk HZ0.out (by omega))
  clear hl0 hfa0 HL0 HF0 HO0 HZ0
  simp at hsa0
  clear hv hp
  go_wp2_with fail
  rcases (rules_cases (gt (fs.map (·.1)) (a + 1))).symm with ⟨hv, hp⟩ | ⟨r, hv, hp⟩
  ·
    have hR := HR.out
    rw [hp] at hR
    simp only [req_none, bind_err] at hR
    subst hR
    refine (takeE_err 175 (fun a W => Tryz.call175 a W) #[] #[strV (gt (fs.map (·.1)) (a + 1))] _ b g fs (a + 1) (by omega) HL1.out rfl (rulesE (1, 0, [])) 5 (by decide) (by intro W f; with_reducible exact rules_any _ (HG.out (a + 1)) W _ _ hv)).mono ?_
    rintro e wn ⟨rfl, hfn⟩
    have HFn := Lib.hid hfn
    clear hfn
    go_wp2_with fail
    exact ⟨rfl, rfl, fr_bb HF1.out (fr_b HFn.out)⟩
  have hR := HR.out
  rw [hp] at hR
  simp only [req_some, bind_ok] at hR
  have HR := Lib.hid hR
  clear hR
  refine (takeE_at 175 (fun a W => Tryz.call175 a W) #[] #[strV (gt (fs.map (·.1)) (a + 1))] _ b g fs (a + 1) (by omega) HL1.out rfl HO1.out.hg (rulesE r) (by intro W f; with_reducible exact rules_any _ (HG.out (a + 1)) W _ _ hv)).mono ?_
  rintro e wa1 ⟨rfl, hl1, hfa1⟩
  have HL2 := Lib.hid hl1
  have HF2 := Lib.hid (fr_bb HF1.out hfa1)
  have HO2 := Lib.hid (HO1.out.on hfa1)
  have hsa1 := hfa1.size
  have HZ2 := Lib.hid (hfa1.blk HZ1.out (by omega))
  clear hl1 hfa1 HL1 HF1 HO1 HZ1
  clear hv hp
  have e1 : eraC ⟨off, r.1, r.2.1, r.2.2, [], tilZ⟩ = eraC { rulesE r with off := off } := rfl
  go_wp2_with (first
    | (
      refine wpList_store_blk 69 _ _ wa1.heap.size 0 69 (eraC eraZ) (eraC (rulesE r)) (eraC (rulesE r)) (by rfl) rfl rfl rfl rfl (Blk.made wa1 69 (eraC eraZ)) (infoE _) (eraC_one _) (show 0 + 13 ≤ 13 by decide) (put_ea _ _) ?_
      intro w3 hf3 hb3
      have hf23 := (Fr.new wa1 (.cells (eraC eraZ) 69) (fun _ => False)).fresh hf3 (fun i e => by omega)
      have hs3 : wa1.heap.size + 1 ≤ w3.heap.size := by have := hf3.size; simp at this; exact this
      have HX3 := Lib.hid hb3
      have HZ3 := Lib.hid (hf23.blk HZ2.out (fun h => h))
      have HL3 := Lib.hid (HL2.out.fr hf23 (fun h => h) (fun h => h))
      have HF3 := Lib.hid (fr_bb HF2.out (fr_b hf23))
      have HO3 := Lib.hid (HO2.out.on (fr_b hf23))
      clear hf3 hb3 hf23 HZ2 HL2 HF2 HO2)
    | (
      refine wpList_store_cell 3 _ _ wa1.heap.size 0 69 (eraC (rulesE r)) (eraC ⟨off, r.1, r.2.1, r.2.2, [], tilZ⟩) (intV off) (by rfl) rfl rfl rfl rfl HX3.out info_int (by rfl) (show 0 < 13 by decide) (put_e0 _ _) ?_
      intro w4 hf4 hb4
      have hs4 := hf4.size
      have HX4 := Lib.hid hb4
      have HZ4 := Lib.hid (hf4.blk HZ3.out (by omega))
      have HL4 := Lib.hid (HL3.out.fr hf4 (by omega) (by omega))
      have HF4 := Lib.hid (fr_more HF3.out hf4 (fun i e => by omega))
      have HO4 := Lib.hid (show Ok w0 w4 b g from ⟨HO3.out.lok, HO3.out.fr.fresh hf4 (fun i e => by have := HO3.out.hb; omega), HO3.out.hb, HO3.out.hg⟩)
      clear hf4 hb4 HX3 HZ3 HL3 HF3 HO3))
  clear e1
  cases hp : formatB (gt (fs.map (·.1)) (a + 2))
  ·
    have hR := HR.out
    rw [hp] at hR
    simp only [chk_false, bind_err] at hR
    subst hR
    refine (takeS_err 176 (fun a W => Tryz.call176 a W) #[] #[strV (gt (fs.map (·.1)) (a + 2))] _ b g fs (a + 2) (by omega) HL4.out rfl (gt (fs.map (·.1)) (a + 2)) 15 (by decide) (by intro W f; with_reducible exact format_any _ (HG.out (a + 2)) W (HO4.out.at_ f) 15 (by simp [hp]))).mono ?_
    rintro e wn ⟨rfl, hfn⟩
    have HFn := Lib.hid hfn
    clear hfn
    go_wp2_with fail
    exact ⟨rfl, rfl, fr_bb HF4.out (fr_b HFn.out)⟩
  have hR := HR.out
  rw [hp] at hR
  simp only [chk_true, bind_ok] at hR
  have HR := Lib.hid hR
  clear hR
  refine (takeS_at 176 (fun a W => Tryz.call176 a W) #[] #[strV (gt (fs.map (·.1)) (a + 2))] _ b g fs (a + 2) (by omega) HL4.out rfl HO4.out.hg (gt (fs.map (·.1)) (a + 2)) (by intro W f; with_reducible exact format_any _ (HG.out (a + 2)) W (HO4.out.at_ f) 0 (by simp [hp]))).mono ?_
  rintro e wa4 ⟨rfl, hl4, hfa4⟩
  have HL5 := Lib.hid hl4
  have HF5 := Lib.hid (fr_bb HF4.out hfa4)
  have HO5 := Lib.hid (HO4.out.on hfa4)
  have hsa4 := hfa4.size
  have HZ5 := Lib.hid (hfa4.blk HZ4.out (by omega))
  have HX5 := Lib.hid (hfa4.blk HX4.out (by omega))
  clear hl4 hfa4 HL4 HF4 HO4 HZ4 HX4
  clear hp
  go_wp2_with (
      refine wpList_store_cell 9 _ _ wa1.heap.size 4 69 (eraC ⟨off, r.1, r.2.1, r.2.2, [], tilZ⟩) (eraC ⟨off, r.1, r.2.1, r.2.2, (gt (fs.map (·.1)) (a + 2)), tilZ⟩) (strV (gt (fs.map (·.1)) (a + 2))) (by rfl) rfl rfl rfl rfl HX5.out info_str (by rfl) (show 4 < 13 by decide) (put_e4 _ _) ?_
      intro w6 hf6 hb6
      have hs6 := hf6.size
      have HX6 := Lib.hid hb6
      have HZ6 := Lib.hid (hf6.blk HZ5.out (by omega))
      have HL6 := Lib.hid (HL5.out.fr hf6 (by omega) (by omega))
      have HF6 := Lib.hid (fr_more HF5.out hf6 (fun i e => by omega))
      have HO6 := Lib.hid (show Ok w0 w6 b g from ⟨HO5.out.lok, HO5.out.fr.fresh hf6 (fun i e => by have := HO5.out.hb; omega), HO5.out.hb, HO5.out.hg⟩)
      clear hf6 hb6 HX5 HZ5 HL5 HF5 HO5)
  have HU := Lib.hid (until_any fs HN.out (a + 3) ha (by omega) w0 w6 b g HO6.out HL6.out (by omega))
  have hR := HR.out
  obtain ⟨S, hS⟩ : ∃ S, (if a + 3 < (fs.map (·.1)).length then untilP (fs.map (·.1)) (a + 3) else .ok tilZ) = S := ⟨_, rfl⟩
  rw [hS] at hR HU
  clear hS HR
  cases S with
  | error x =>
    have hR : Except.error x = R := hR
    subst hR
    refine HU.out.mono ?_
    rintro e wn ⟨rfl, hfn⟩
    have HFn := Lib.hid hfn
    clear hfn
    go_wp2_with fail
    exact ⟨rfl, rfl, fr_bb HF6.out HFn.out⟩
  | ok u =>
    have hR : Except.ok (⟨off, r.1, r.2.1, r.2.2, (gt (fs.map (·.1)) (a + 2)), u⟩ : EraL) = R := hR
    subst hR
    refine HU.out.mono ?_
    rintro e w7 ⟨rfl, hl7, hf7⟩
    have hs7 := hf7.size
    have HX7 := Lib.hid (hf7.blk HX6.out (by omega))
    have HZ7 := Lib.hid (hf7.blk HZ6.out (by omega))
    have HL7 := Lib.hid hl7
    have HF7 := Lib.hid (fr_bb HF6.out hf7)
    clear hl7 hf7 HX6 HZ6 HL6 HF6 HU
    go_wp2_with (first
      | (
        refine wpList_store_blk 67 _ _ wa1.heap.size 5 69 (eraC ⟨off, r.1, r.2.1, r.2.2, (gt (fs.map (·.1)) (a + 2)), tilZ⟩) (tilC u) (eraC ⟨off, r.1, r.2.1, r.2.2, (gt (fs.map (·.1)) (a + 2)), u⟩) (by rfl) rfl rfl rfl rfl HX7.out (infoT _) (tilC_one _) (show 5 + 8 ≤ 13 by decide) (put_e5 _ _) ?_
        intro w8 hf8 hb8
        have hs8 := hf8.size
        have HX8 := Lib.hid hb8
        have HZ8 := Lib.hid (hf8.blk HZ7.out (by omega))
        have HL8 := Lib.hid (HL7.out.fr hf8 (by omega) (by omega))
        have HF8 := Lib.hid (fr_more HF7.out hf8 (fun i e => by omega))
        clear hf8 hb8 HX7 HZ7 HL7 HF7)
      | (refine wpList_load_blk 69 _ wa1.heap.size 0 69 (eraC ⟨off, r.1, r.2.1, r.2.2, (gt (fs.map (·.1)) (a + 2)), u⟩) (eraC ⟨off, r.1, r.2.1, r.2.2, (gt (fs.map (·.1)) (a + 2)), u⟩) _ (by rfl) rfl rfl HX8.out Tryz.underlying69 rfl (infoE _) (zero_part _) ?_)
      | (
        refine wpList_store_blk 69 _ _ w.heap.size 0 69 (eraC eraZ) (eraC ⟨off, r.1, r.2.1, r.2.2, (gt (fs.map (·.1)) (a + 2)), u⟩) (eraC ⟨off, r.1, r.2.1, r.2.2, (gt (fs.map (·.1)) (a + 2)), u⟩) (by rfl) rfl rfl rfl rfl HZ8.out (infoE _) (eraC_one _) (show 0 + 13 ≤ 13 by decide) (put_ea _ _) ?_
        intro w9 hf9 hb9
        have HE := Lib.hid hb9
        have HFe := Lib.hid (fr_more HF8.out hf9 (fun i e => by omega))
        have HLe := Lib.hid (HL8.out.fr hf9 (by omega) (by omega))
        clear hf9 hb9))
    (try simp only [Exit.inBlock, Exit.then])
    exact bodyPost_ret (res_era HE.out _ rfl) rfl ⟨rfl, HLe.out, HFe.out⟩
end Go.Proofs.YtodcnbejnchmhaaGreatDoor
