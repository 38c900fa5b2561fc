import Derived.Test.YtgcheollgnhdlaaGreatDoorRul
import Derived.Deep.RegionWith
namespace Go.Proofs.YtgcheollgnhdlaaGreatDoor
open Go.RowKit Go.Mem Go.Lin

/-- what a closure of until answers -/
def UPost (fs : List FPair) (g b u n : Nat) (r : Except Er UntilL) (w : World) (e : Ending) (w' : World) : Prop := match r with
  | .ok V => e = .returned (.tuple #[]) ∧ Blk w' u 29 (tilC V) ∧ LeftAt w' b g (fs.drop n) ∧ Fr w w' (fun i => i = b ∨ i = u)
  | .error x => e = Raised (wrongL x.2 (colOf fs x.1)) ∧ Fr w w' (fun i => i = b ∨ i = u)
theorem res_until1 (tmps : Array Value) (w : World) : (results Tryz.f110 tmps).run Tryz.prog w = .ok (.tuple #[]) w := by simp [results, Tryz.results110]
theorem res_until2 (tmps : Array Value) (w : World) : (results Tryz.f111 tmps).run Tryz.prog w = .ok (.tuple #[]) w := by simp [results, Tryz.results111]
theorem res_until3 (tmps : Array Value) (w : World) : (results Tryz.f112 tmps).run Tryz.prog w = .ok (.tuple #[]) w := by simp [results, Tryz.results112]
theorem res_until4 (tmps : Array Value) (w : World) : (results Tryz.f113 tmps).run Tryz.prog w = .ok (.tuple #[]) w := by simp [results, Tryz.results113]
theorem set3 (w : World) (u i j k : Nat) (x y z : Value) : Fr w (((w.setCell ⟨u, i, none⟩ x).setCell ⟨u, j, none⟩ y).setCell ⟨u, k, none⟩ z) (· = u) := ((Fr.set (S := (· = u)) rfl).trans (Fr.set (S := (· = u)) rfl) (fun _ _ h => h) (fun _ _ h => h)).trans (Fr.set (S := (· = u)) rfl) (fun _ _ h => h) (fun _ _ h => h)
theorem fr_l {a c : World} {b u : Nat} (h : Fr a c (· = b)) : Fr a c (fun i => i = b ∨ i = u) := h.mono (fun _ _ h => .inl h)
theorem fr_r {a c d : World} {b u : Nat} (h : Fr a c (· = b)) (h2 : Fr c d (· = u)) : Fr a d (fun i => i = b ∨ i = u) := h.trans h2 (fun _ _ h => .inl h) (fun _ _ h => .inr h)
set_option maxRecDepth 100000 in
set_option maxHeartbeats 1600000 in
theorem until1_any (fs : List FPair) (hz : ∀ x ∈ fs, x.1.length ≤ 100000) (a : Nat) (hp0 : a < fs.length) (U : UntilL) (w0 w : World) (b g q u : Nat) (ho : Ok w0 w b g) (h : LeftAt w b g (fs.drop (a))) (hq : w.cell? ⟨q, 0, none⟩ = some (.pointer (some ⟨b, 0, none⟩))) (hb : Blk w u 29 (tilC U)) (hub : u ≠ b) (hug : g ≠ u) :
    Calls Tryz.prog 110 #[.pointer (some ⟨q, 0, none⟩), .pointer (some ⟨u, 0, none⟩)] w (UPost fs g b u (a + 1) (stepP (fs.map (·.1)) a 0 U) w) := by
  obtain ⟨R, hR⟩ : ∃ R, stepP (fs.map (·.1)) a 0 U = R := ⟨_, rfl⟩
  rw [hR]
  unfold stepP at hR
  simp only [Nat.reduceEqDiff, if_false, if_true] at hR
  have HO := Lib.hid ho
  have HL := Lib.hid h
  have HB := Lib.hid hb
  have HG := Lib.hid (gt_len hz)
  clear ho h hb hz
  rcases (from_cases (gt (fs.map (·.1)) (a))).symm with ⟨hv, hp⟩ | ⟨y, hv, hp⟩
  · rw [hp] at hR
    simp only [req_none, bind_err] at hR
    subst hR
    go_enter Tryz.func110, Tryz.ntmps110
    go_wp2_with fail
    refine (takeI_err 63 (fun a W => Tryz.call63 a W) #[] #[strV (gt (fs.map (·.1)) (a))] _ b g fs (a) hp0 HL.out rfl 0 8 (by decide) (by intro W f; with_reducible exact from_any _ (HG.out _) W (HO.out.at_ f) _ _ hv)).mono ?_
    rintro e wn ⟨rfl, hfn⟩
    have HFn := Lib.hid hfn
    clear hfn
    go_wp2_with fail
    exact ⟨rfl, rfl, fr_l (fr_b HFn.out)⟩
  · rw [hp] at hR
    simp only [req_some, bind_ok] at hR
    subst hR
    go_enter Tryz.func110, Tryz.ntmps110
    go_wp2_with fail
    refine (takeI_at 63 (fun a W => Tryz.call63 a W) #[] #[strV (gt (fs.map (·.1)) (a))] _ b g fs (a) hp0 HL.out rfl HO.out.hg y (by intro W f; with_reducible exact from_any _ (HG.out _) W (HO.out.at_ f) _ _ hv)).mono ?_
    rintro e w2 ⟨rfl, hl2, hf2⟩
    have HL2 := Lib.hid hl2
    have HF2 := Lib.hid hf2
    have HB2 := Lib.hid (hf2.blk HB.out hub)
    clear hl2 hf2 hv hp
    go_wp2_with (
      refine wpList_store_cell 3 _ _ u 1 29 (tilC U) (tilC { U with year := y }) (intV y) (by rfl) rfl rfl rfl rfl HB2.out info_int (by rfl) (show 1 < 8 by decide) (put_u1 _ _) ?_
      intro w3 hf3 hb3
      have HB3 := Lib.hid hb3
      have HF3 := Lib.hid (fr_r HF2.out hf3)
      have HL3 := Lib.hid (HL2.out.fr hf3 (fun e => hub e.symm) hug)
      clear hf3 hb3)
    exact bodyPost_end (res_until1 _ _) rfl ⟨rfl, HB3.out, HL3.out, HF3.out⟩
set_option maxRecDepth 100000 in
set_option maxHeartbeats 1600000 in
theorem until2_any (fs : List FPair) (hz : ∀ x ∈ fs, x.1.length ≤ 100000) (a : Nat) (hp0 : a + 1 < fs.length) (U : UntilL) (w0 w : World) (b g q u : Nat) (ho : Ok w0 w b g) (h : LeftAt w b g (fs.drop (a + 1))) (hq : w.cell? ⟨q, 0, none⟩ = some (.pointer (some ⟨b, 0, none⟩))) (hb : Blk w u 29 (tilC U)) (hub : u ≠ b) (hug : g ≠ u) :
    Calls Tryz.prog 111 #[.pointer (some ⟨q, 0, none⟩), .pointer (some ⟨u, 0, none⟩)] w (UPost fs g b u (a + 1 + 1) (stepP (fs.map (·.1)) a 1 U) w) := by
  obtain ⟨R, hR⟩ : ∃ R, stepP (fs.map (·.1)) a 1 U = R := ⟨_, rfl⟩
  rw [hR]
  unfold stepP at hR
  simp only [Nat.reduceEqDiff, if_false, if_true] at hR
  have HO := Lib.hid ho
  have HL := Lib.hid h
  have HB := Lib.hid hb
  have HG := Lib.hid (gt_len hz)
  clear ho h hb hz
  rcases (month_cases (gt (fs.map (·.1)) (a + 1))).symm with ⟨hn, hp⟩ | ⟨n, hn, hk, hp⟩
  · rw [hp] at hR
    simp only [req_none, bind_err] at hR
    subst hR
    go_enter Tryz.func111, Tryz.ntmps111
    go_wp2_with fail
    refine (takeI_err 67 (fun a W => Tryz.call67 a W) #[] #[strV (gt (fs.map (·.1)) (a + 1))] _ b g fs (a + 1) hp0 HL.out rfl ((0 : Nat) : Int) 6 (by decide) (by intro W f; with_reducible exact monthF_any _ (HG.out _) W 0 hn 6 (if_pos rfl))).mono ?_
    rintro e wn ⟨rfl, hfn⟩
    have HFn := Lib.hid hfn
    clear hfn
    go_wp2_with fail
    exact ⟨rfl, rfl, fr_l (fr_b HFn.out)⟩
  · rw [hp] at hR
    simp only [req_some, bind_ok] at hR
    subst hR
    go_enter Tryz.func111, Tryz.ntmps111
    go_wp2_with fail
    refine (takeI_at 67 (fun a W => Tryz.call67 a W) #[] #[strV (gt (fs.map (·.1)) (a + 1))] _ b g fs (a + 1) hp0 HL.out rfl HO.out.hg (n : Int) (by intro W f; with_reducible exact monthF_any _ (HG.out _) W n hn 0 hk)).mono ?_
    rintro e w2 ⟨rfl, hl2, hf2⟩
    have HL2 := Lib.hid hl2
    have HF2 := Lib.hid hf2
    have HB2 := Lib.hid (hf2.blk HB.out hub)
    clear hl2 hf2 hn hk hp
    go_wp2_with (
      refine wpList_store_cell 3 _ _ u 2 29 (tilC U) (tilC { U with month := (n : Int) }) (intV (n : Int)) (by rfl) rfl rfl rfl rfl HB2.out info_int (by rfl) (show 2 < 8 by decide) (put_u2 _ _) ?_
      intro w3 hf3 hb3
      have HB3 := Lib.hid hb3
      have HF3 := Lib.hid (fr_r HF2.out hf3)
      have HL3 := Lib.hid (HL2.out.fr hf3 (fun e => hub e.symm) hug)
      clear hf3 hb3)
    exact bodyPost_end (res_until2 _ _) rfl ⟨rfl, HB3.out, HL3.out, HF3.out⟩
set_option maxRecDepth 100000 in
set_option maxHeartbeats 1600000 in
theorem until4_any (fs : List FPair) (hz : ∀ x ∈ fs, x.1.length ≤ 100000) (a : Nat) (hp0 : a + 3 < fs.length) (U : UntilL) (w0 w : World) (b g q u : Nat) (ho : Ok w0 w b g) (h : LeftAt w b g (fs.drop (a + 3))) (hq : w.cell? ⟨q, 0, none⟩ = some (.pointer (some ⟨b, 0, none⟩))) (hb : Blk w u 29 (tilC U)) (hub : u ≠ b) (hug : g ≠ u) :
    Calls Tryz.prog 113 #[.pointer (some ⟨q, 0, none⟩), .pointer (some ⟨u, 0, none⟩)] w (UPost fs g b u (a + 3 + 1) (stepP (fs.map (·.1)) a 3 U) w) := by
  obtain ⟨R, hR⟩ : ∃ R, stepP (fs.map (·.1)) a 3 U = R := ⟨_, rfl⟩
  rw [hR]
  unfold stepP at hR
  simp only [Nat.reduceEqDiff, if_false] at hR
  have HO := Lib.hid ho
  have HL := Lib.hid h
  have HB := Lib.hid hb
  have HG := Lib.hid (gt_len hz)
  clear ho h hb hz
  rcases (time_cases (gt (fs.map (·.1)) (a + 3))).symm with ⟨hv, hp⟩ | ⟨t, hv, hp⟩
  · rw [hp] at hR
    simp only [req_none, bind_err] at hR
    subst hR
    go_enter Tryz.func113, Tryz.ntmps113
    go_wp2_with fail
    refine (takeA_err 71 (fun a W => Tryz.call71 a W) #[] #[strV (gt (fs.map (·.1)) (a + 3))] _ b g fs (a + 3) hp0 HL.out rfl atZ 7 (by decide) (by intro W f; with_reducible exact timeC_any _ (by have := HG.out (a + 3); omega) W _ _ hv)).mono ?_
    rintro e wn ⟨rfl, hfn⟩
    have HFn := Lib.hid hfn
    clear hfn
    go_wp2_with fail
    exact ⟨rfl, rfl, fr_l (fr_b HFn.out)⟩
  · rw [hp] at hR
    simp only [req_some, bind_ok] at hR
    subst hR
    go_enter Tryz.func113, Tryz.ntmps113
    go_wp2_with fail
    refine (takeA_at 71 (fun a W => Tryz.call71 a W) #[] #[strV (gt (fs.map (·.1)) (a + 3))] _ b g fs (a + 3) hp0 HL.out rfl HO.out.hg t (by intro W f; with_reducible exact timeC_any _ (by have := HG.out (a + 3); omega) W _ _ hv)).mono ?_
    rintro e w2 ⟨rfl, hl2, hf2⟩
    have HL2 := Lib.hid hl2
    have HF2 := Lib.hid hf2
    have HB2 := Lib.hid (hf2.blk HB.out hub)
    clear hl2 hf2 hv hp
    go_wp2_with (
      refine wpList_store_blk 25 _ _ u 6 29 (tilC U) (atC t) (tilC { U with at_ := t }) (by rfl) rfl rfl rfl rfl HB2.out (infoA _) (atC_one _) (show 6 + 2 ≤ 8 by decide) (put_u6 _ _) ?_
      intro w3 hf3 hb3
      have HB3 := Lib.hid hb3
      have HF3 := Lib.hid (fr_r HF2.out hf3)
      have HL3 := Lib.hid (HL2.out.fr hf3 (fun e => hub e.symm) hug)
      clear hf3 hb3)
    exact bodyPost_end (res_until4 _ _) rfl ⟨rfl, HB3.out, HL3.out, HF3.out⟩
set_option maxRecDepth 100000 in
set_option maxHeartbeats 1600000 in
theorem until3_any (fs : List FPair) (hz : ∀ x ∈ fs, x.1.length ≤ 100000) (a : Nat) (hp0 : a + 2 < fs.length) (U : UntilL) (w0 w : World) (b g q u : Nat) (ho : Ok w0 w b g) (h : LeftAt w b g (fs.drop (a + 2))) (hq : w.cell? ⟨q, 0, none⟩ = some (.pointer (some ⟨b, 0, none⟩))) (hb : Blk w u 29 (tilC U)) (hub : u ≠ b) (hug : g ≠ u) :
    Calls Tryz.prog 112 #[.pointer (some ⟨q, 0, none⟩), .pointer (some ⟨u, 0, none⟩)] w (UPost fs g b u (a + 2 + 1) (stepP (fs.map (·.1)) a 2 U) w) := by
  obtain ⟨R, hR⟩ : ∃ R, stepP (fs.map (·.1)) a 2 U = R := ⟨_, rfl⟩
  rw [hR]
  unfold stepP at hR
  simp only [Nat.reduceEqDiff, if_false, if_true] at hR
  have HO := Lib.hid ho
  have HL := Lib.hid h
  have HB := Lib.hid hb
  have HG := Lib.hid (gt_len hz)
  clear ho h hb hz
  have c1 := blk_cell HB.out 1 (intV U.year) rfl
  have c2 := blk_cell HB.out 2 (intV U.month) rfl
  rcases (day_cases (gt (fs.map (·.1)) (a + 2)) U.year U.month).symm with ⟨d, hv, hp⟩ | ⟨d, hv, hp, hc⟩
  · have hR : Except.error (a + 2, 6) = R := by
      rcases hp with hp | ⟨hp, hc⟩
      · rw [hp] at hR
        simpa only [req_none, bind_err] using hR
      · rw [hp] at hR
        simp only [req_some, bind_ok] at hR
        rw [hc] at hR
        simpa only [chk_false, bind_err] using hR
    subst hR
    have HD := Lib.hid (fun (W : World) (f : Fr w W (fun _ => False)) => dayIn_any U.year U.month W)
    have HT := Lib.hid (fun (W : World) (q1 q2 : Nat) (hfd : Fr w W (fun _ => False)) (hq1 : W.cell? ⟨q1, 0, none⟩ = some (intV U.year)) (hq2 : W.cell? ⟨q2, 0, none⟩ = some (intV U.month)) => takeD_err 94 (fun a W => Tryz.call94 a W) #[.pointer (some ⟨q1, 0, none⟩), .pointer (some ⟨q2, 0, none⟩)] #[strV (gt (fs.map (·.1)) (a + 2)), .pointer (some ⟨q1, 0, none⟩), .pointer (some ⟨q2, 0, none⟩)] W b g fs (a + 2) hp0 (HL.out.fr hfd (fun h => h) (fun h => h)) rfl d 6 (by decide) (by intro W f; with_reducible exact dayF_any _ (HG.out _) U.year U.month q1 q2 W (HO.out.at_ (ff hfd f)) (f.cell0 hq1) (f.cell0 hq2) _ _ hv))
    clear hv hp hp0
    go_enter Tryz.func112, Tryz.ntmps112
    go_wp2_with fail
    refine wp_region_held_drew (S := fun w' => Fr w w' (fun _ => False)) (by kernel_rfl) (Fr.drew _ _) (fun hHeld => ?_)
    refine wpAnyH_take (i := 0) (v := ?_) rfl (by kernel_rfl) (by kernel_rfl) (by kernel_rfl) (fun _ _ _ h => h) (Or.inl ⟨by rfl, ?_⟩) (by assumption) ?_
    rotate_left
    · intro w' hSw
      have k0 := hSw.cell0 hq; have k1 := hSw.cell0 c1; have k2 := hSw.cell0 c2
      go_simp
      try with_reducible rfl
    try simp only [Act.put, List.setIfInBounds_toArray, List.set_cons_zero, List.set_cons_succ, List.getElem_toArray, List.getElem_cons_zero]
    refine wpAnyH_take (i := 1) (v := ?_) rfl (by kernel_rfl) (by kernel_rfl) (by kernel_rfl) (fun _ _ _ h => h) (Or.inl ⟨by rfl, ?_⟩) (by assumption) ?_
    rotate_left
    · intro w' hSw
      have k0 := hSw.cell0 hq; have k1 := hSw.cell0 c1; have k2 := hSw.cell0 c2
      go_simp
      try with_reducible rfl
    try simp only [Act.put, List.setIfInBounds_toArray, List.set_cons_zero, List.set_cons_succ, List.getElem_toArray, List.getElem_cons_succ, List.getElem_cons_zero]
    refine wpAnyH_take (i := 2) (v := ?_) rfl (by kernel_rfl) (by kernel_rfl) (by kernel_rfl) (fun _ _ _ h => h) (Or.inl ⟨by rfl, ?_⟩) (by assumption) ?_
    rotate_left
    · intro w' hSw
      have k0 := hSw.cell0 hq; have k1 := hSw.cell0 c1; have k2 := hSw.cell0 c2
      go_simp
      try with_reducible rfl
    try simp only [Act.put, List.setIfInBounds_toArray, List.set_cons_zero, List.set_cons_succ, List.getElem_toArray, List.getElem_cons_succ, List.getElem_cons_zero]
    refine wpAnyH_take (i := 3) (v := ?_) rfl (by kernel_rfl) (by kernel_rfl) (by kernel_rfl) (fun _ _ _ h => h) (Or.inl ⟨by rfl, ?_⟩) (by assumption) ?_
    rotate_left
    · intro w' hSw
      have k0 := hSw.cell0 hq; have k1 := hSw.cell0 c1; have k2 := hSw.cell0 c2
      go_simp
      try with_reducible rfl
    try simp only [Act.put, List.setIfInBounds_toArray, List.set_cons_zero, List.set_cons_succ, List.getElem_toArray, List.getElem_cons_succ, List.getElem_cons_zero]
    refine wpAnyH_take (i := 4) (v := ?_) rfl (by kernel_rfl) (by kernel_rfl) (by kernel_rfl) (fun _ _ _ h => h) (Or.inl ⟨by rfl, ?_⟩) (by assumption) ?_
    rotate_left
    · intro w' hSw
      have k0 := hSw.cell0 hq; have k1 := hSw.cell0 c1; have k2 := hSw.cell0 c2
      go_simp
      try with_reducible rfl
    try simp only [Act.put, List.setIfInBounds_toArray, List.set_cons_zero, List.set_cons_succ, List.getElem_toArray, List.getElem_cons_succ, List.getElem_cons_zero]
    refine wpAnyH_ready (rs := [5]) (by kernel_rfl) (by simp) ?_
    refine AllReadyH.cons rfl (fun K hK => ?_) AllReadyH.nil
    go_simp
    refine (HD.out _ hHeld).mono ?_
    rintro e wd ⟨q1, q2, rfl, hq1, hq2, hfd0⟩
    have hfd := ff hHeld hfd0
    refine hK.out _ _ hfd (fun hHeld2 => ?_)
    clear hK K
    try simp only [Act.put, List.setIfInBounds_toArray, List.set_cons_zero, List.set_cons_succ, List.getElem_toArray, List.getElem_cons_succ, List.getElem_cons_zero]
    refine wpAnyH_ready (rs := [6]) (by kernel_rfl) (by simp) ?_
    refine AllReadyH.cons rfl (fun K hK => ?_) AllReadyH.nil
    go_simp
    refine (HT.out _ q1 q2 hfd hq1 hq2).mono ?_
    rintro e wn ⟨rfl, hfn⟩
    go_simp
    exact ⟨rfl, rfl, fr_l (fr_b (ff hfd hfn))⟩
  · rw [hp] at hR
    simp only [req_some, bind_ok] at hR
    rw [hc] at hR
    simp only [chk_true, bind_ok] at hR
    subst hR
    have HD := Lib.hid (fun (W : World) (f : Fr w W (fun _ => False)) => dayIn_any U.year U.month W)
    have HT := Lib.hid (fun (W : World) (q1 q2 : Nat) (hfd : Fr w W (fun _ => False)) (hq1 : W.cell? ⟨q1, 0, none⟩ = some (intV U.year)) (hq2 : W.cell? ⟨q2, 0, none⟩ = some (intV U.month)) => (id (takeD_at 94 (fun a W => Tryz.call94 a W) #[.pointer (some ⟨q1, 0, none⟩), .pointer (some ⟨q2, 0, none⟩)] #[strV (gt (fs.map (·.1)) (a + 2)), .pointer (some ⟨q1, 0, none⟩), .pointer (some ⟨q2, 0, none⟩)] W b g fs (a + 2) hp0 (HL.out.fr hfd (fun h => h) (fun h => h)) rfl HO.out.hg d (by intro W f; with_reducible exact dayF_any _ (HG.out _) U.year U.month q1 q2 W (HO.out.at_ (ff hfd f)) (f.cell0 hq1) (f.cell0 hq2) _ _ hv)) : Calls Tryz.prog 68 #[.pointer (some ⟨b, 0, none⟩), .func (.func 94) #[] #[.pointer (some ⟨q1, 0, none⟩), .pointer (some ⟨q2, 0, none⟩)]] W fun e w' => e = .returned (.agg #[intV d.k, intV d.d, intV d.w]) ∧ LeftAt w' b g (fs.drop (a + 2 + 1)) ∧ Fr W w' (· = b)))
    clear hv hp hc hp0
    go_enter Tryz.func112, Tryz.ntmps112
    go_wp2_with fail
    go_region_with (first
      | (go_at_call 69; refine (HD.out _ (Fr.drewN _ _ _)).mono ?_; rintro e wd ⟨q1, q2, rfl, hq1, hq2, hfd⟩; have hfd' := ff (Fr.drewN _ _ _) hfd; have c3 := hfd'.cell0 hq)
      | (go_at_call 68; refine (HT.out _ _ _ hfd' hq1 hq2).mono ?_; rintro e w2 ⟨rfl, hl2, hf2⟩; have HL2 := Lib.hid hl2; have HF2 := Lib.hid (fr_bb (fr_b hfd') hf2); have HB2 := Lib.hid (HF2.out.blk HB.out hub); have d3 := blk_cell HB2.out 3 _ rfl; have d4 := blk_cell HB2.out 4 _ rfl; have d5 := blk_cell HB2.out 5 _ rfl; have f3 := free_at HB2.out 3; have f4 := free_at HB2.out 4; have f5 := free_at HB2.out 5; clear hl2 hf2))
    all_goals
      have hb3 : Blk _ u 29 (tilC { U with on := d }) := ((HB2.out.put 3 (intV d.k)).put 4 (intV d.d)).put 5 (intV d.w)
      have hs3 := set3 w2 u 3 4 5 (intV d.k) (intV d.d) (intV d.w)
      exact bodyPost_end (res_until3 _ _) rfl ⟨rfl, hb3, HL2.out.fr hs3 (fun e => hub e.symm) hug, fr_r HF2.out hs3⟩
end Go.Proofs.YtgcheollgnhdlaaGreatDoor
