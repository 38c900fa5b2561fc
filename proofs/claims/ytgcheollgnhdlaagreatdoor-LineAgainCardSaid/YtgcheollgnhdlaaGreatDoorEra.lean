import Derived.Test.YtgcheollgnhdlaaGreatDoorUnt
namespace Go.Proofs.YtgcheollgnhdlaaGreatDoor
open Go.RowKit Go.Mem Go.Lin

theorem until_any (fs : List FPair) (hz : ∀ x ∈ fs, x.1.length ≤ 100000) (a : Nat) (h1 : a ≤ fs.length) (h2 : fs.length ≤ a + 4) (w0 w : World) (b g : Nat) (ho : Ok w0 w b g) (h : LeftAt w b g (fs.drop a)) (hgs : g < w.heap.size) :
    Calls Tryz.prog 79 #[ptrV b] w (Ran fs g b fs.length (if a < (fs.map (·.1)).length then untilP (fs.map (·.1)) a else .ok tilZ) tilV w) := by
  have hl : (fs.map (·.1)).length = fs.length := List.length_map _
  by_cases hlt : a < fs.length
  · rw [if_pos (by rw [hl]; exact hlt), until_rest (fs.map (·.1)) a (by rw [hl]; exact hlt) (by rw [hl]; exact h2), hl]
    exact until_some fs hz a (fs.length - a) (by omega) (by omega) (by omega) w0 w b g ho h hgs
  · obtain rfl : a = fs.length := by omega
    rw [if_neg (by rw [hl]; exact hlt)]
    rw [List.drop_length] at h
    refine (until_none fs w0 w b g h hgs).mono ?_
    rintro e w' ⟨rfl, hl2, hf⟩
    exact ⟨rfl, by rw [List.drop_length]; exact hl2, fr_b hf⟩
theorem res_era {w : World} {q : Nat} {v : EraL} (hb : Blk w q 31 (eraC v)) (tmps : Array Value) (hp : tmps.getD 2 undef = .pointer (some ⟨q, 0, none⟩)) : (results Tryz.f48 tmps).run Tryz.prog w = .ok (.agg (eraC v)) w :=
  results_cell_row (P := Tryz.prog) (fn := Tryz.f48) (p := 2) (ty := 31) rfl tmps _ q 31 (eraC v) (0, 0) _ hp hb Tryz.underlying31 rfl (infoE v)
set_option maxRecDepth 100000 in
set_option maxHeartbeats 6400000 in
theorem rera_any (fs : List FPair) (hz : ∀ x ∈ fs, x.1.length ≤ 100000) (a : Nat) (ha : a + 3 ≤ fs.length) (hb7 : fs.length ≤ a + 7) (w0 w : World) (b g : Nat) (ho : Ok w0 w b g) (h : LeftAt w b g (fs.drop a)) :
    Calls Tryz.prog 48 #[.pointer (some ⟨b, 0, none⟩)] w (Ran fs g b fs.length (eraP (fs.map (·.1)) a) eraV w) := by
  have hbs := h.lt
  have hgs : g < w.heap.size := by
    have h2 := h
    rw [gt_at fs a (by omega)] at h2
    obtain ⟨_, _, _, _, cg, _, _⟩ := h2.open
    exact World.block_lt_of_cell? w _ cg
  obtain ⟨R, hR⟩ : ∃ R, eraP (fs.map (·.1)) a = R := ⟨_, rfl⟩
  rw [hR]
  unfold eraP at hR
  have hf1 := Fr.new w (.cells #[intV 0, intV 0, intV 0, .string ⟨#[]⟩, .string ⟨#[]⟩, .bool false, intV 0, intV 0, intV 0, intV 0, intV 0, intV 0, intV 0] 31) (fun _ => False)
  have HZ0 := Lib.hid (show Blk _ w.heap.size 31 (eraC eraZ) from Blk.made w 31 #[intV 0, intV 0, intV 0, .string ⟨#[]⟩, .string ⟨#[]⟩, .bool false, intV 0, intV 0, intV 0, intV 0, intV 0, intV 0, intV 0])
  have HL0 := Lib.hid (h.fr hf1 (fun h => h) (fun h => h))
  have HF0 := Lib.hid (fr_b (b := b) hf1)
  have HO0 := Lib.hid (ho.on HF0.out)
  have HG := Lib.hid (gt_len hz)
  have HN := Lib.hid hz
  clear hf1 h ho hz
  have HR := Lib.hid hR
  clear hR
  go_enter Tryz.func48, Tryz.ntmps48
  go_wp2_with fail
  rcases (amt_cases (gt (fs.map (·.1)) a)).symm with ⟨hv, hp⟩ | ⟨off, hv, hp⟩
  ·
    have hR := HR.out
    rw [hp] at hR
    simp only [req_none, bind_err] at hR
    subst hR
    refine (takeI_err 72 (fun a W => Tryz.call72 a W) #[] #[strV (gt (fs.map (·.1)) a)] _ b g fs a (by omega) HL0.out rfl 0 7 (by decide) (by intro W f; with_reducible exact amount_any _ (by have := HG.out a; omega) W _ _ hv)).mono ?_
    rintro e wn ⟨rfl, hfn⟩
    have HFn := Lib.hid hfn
    clear hfn
    go_wp2_with fail
    exact ⟨rfl, rfl, fr_bb HF0.out (fr_b HFn.out)⟩
  have hR := HR.out
  rw [hp] at hR
  simp only [req_some, bind_ok] at hR
  have HR := Lib.hid hR
  clear hR
  refine (takeI_at 72 (fun a W => Tryz.call72 a W) #[] #[strV (gt (fs.map (·.1)) a)] _ b g fs a (by omega) HL0.out rfl HO0.out.hg off (by intro W f; with_reducible exact amount_any _ (by have := HG.out a; omega) W _ _ hv)).mono ?_
  rintro e wa0 ⟨rfl, hl0, hfa0⟩
  have HL1 := Lib.hid hl0
  have HF1 := Lib.hid (fr_bb HF0.out hfa0)
  have HO1 := Lib.hid (HO0.out.on hfa0)
  have hsa0 := hfa0.size
  have HZ1 := Lib.hid (hfa0.blk HZ0.out (by omega))
  clear hl0 hfa0 HL0 HF0 HO0 HZ0
  simp at hsa0
  clear hv hp
  go_wp2_with fail
  rcases (rules_cases (gt (fs.map (·.1)) (a + 1))).symm with ⟨hv, hp⟩ | ⟨r, hv, hp⟩
  ·
    have hR := HR.out
    rw [hp] at hR
    simp only [req_none, bind_err] at hR
    subst hR
    refine (takeE_err 77 (fun a W => Tryz.call77 a W) #[] #[strV (gt (fs.map (·.1)) (a + 1))] _ b g fs (a + 1) (by omega) HL1.out rfl (rulesE (1, 0, [])) 5 (by decide) (by intro W f; with_reducible exact rules_any _ (HG.out (a + 1)) W _ _ hv)).mono ?_
    rintro e wn ⟨rfl, hfn⟩
    have HFn := Lib.hid hfn
    clear hfn
    go_wp2_with fail
    exact ⟨rfl, rfl, fr_bb HF1.out (fr_b HFn.out)⟩
  have hR := HR.out
  rw [hp] at hR
  simp only [req_some, bind_ok] at hR
  have HR := Lib.hid hR
  clear hR
  refine (takeE_at 77 (fun a W => Tryz.call77 a W) #[] #[strV (gt (fs.map (·.1)) (a + 1))] _ b g fs (a + 1) (by omega) HL1.out rfl HO1.out.hg (rulesE r) (by intro W f; with_reducible exact rules_any _ (HG.out (a + 1)) W _ _ hv)).mono ?_
  rintro e wa1 ⟨rfl, hl1, hfa1⟩
  have HL2 := Lib.hid hl1
  have HF2 := Lib.hid (fr_bb HF1.out hfa1)
  have HO2 := Lib.hid (HO1.out.on hfa1)
  have hsa1 := hfa1.size
  have HZ2 := Lib.hid (hfa1.blk HZ1.out (by omega))
  clear hl1 hfa1 HL1 HF1 HO1 HZ1
  clear hv hp
  have e1 : eraC ⟨off, r.1, r.2.1, r.2.2, [], tilZ⟩ = eraC { rulesE r with off := off } := rfl
  go_wp2_with (first
    | (
      refine wpList_store_blk 31 _ _ wa1.heap.size 0 31 (eraC eraZ) (eraC (rulesE r)) (eraC (rulesE r)) (by rfl) rfl rfl rfl rfl (Blk.made wa1 31 (eraC eraZ)) (infoE _) (eraC_one _) (show 0 + 13 ≤ 13 by decide) (put_ea _ _) ?_
      intro w3 hf3 hb3
      have hf23 := (Fr.new wa1 (.cells (eraC eraZ) 31) (fun _ => False)).fresh hf3 (fun i e => by omega)
      have hs3 : wa1.heap.size + 1 ≤ w3.heap.size := by have := hf3.size; simp at this; exact this
      have HX3 := Lib.hid hb3
      have HZ3 := Lib.hid (hf23.blk HZ2.out (fun h => h))
      have HL3 := Lib.hid (HL2.out.fr hf23 (fun h => h) (fun h => h))
      have HF3 := Lib.hid (fr_bb HF2.out (fr_b hf23))
      have HO3 := Lib.hid (HO2.out.on (fr_b hf23))
      clear hf3 hb3 hf23 HZ2 HL2 HF2 HO2)
    | (
      refine wpList_store_cell 3 _ _ wa1.heap.size 0 31 (eraC (rulesE r)) (eraC ⟨off, r.1, r.2.1, r.2.2, [], tilZ⟩) (intV off) (by rfl) rfl rfl rfl rfl HX3.out info_int (by rfl) (show 0 < 13 by decide) (put_e0 _ _) ?_
      intro w4 hf4 hb4
      have hs4 := hf4.size
      have HX4 := Lib.hid hb4
      have HZ4 := Lib.hid (hf4.blk HZ3.out (by omega))
      have HL4 := Lib.hid (HL3.out.fr hf4 (by omega) (by omega))
      have HF4 := Lib.hid (fr_more HF3.out hf4 (fun i e => by omega))
      have HO4 := Lib.hid (show Ok w0 w4 b g from ⟨HO3.out.lok, HO3.out.fr.fresh hf4 (fun i e => by have := HO3.out.hb; omega), HO3.out.hb, HO3.out.hg⟩)
      clear hf4 hb4 HX3 HZ3 HL3 HF3 HO3))
  clear e1
  cases hp : formatB (gt (fs.map (·.1)) (a + 2))
  ·
    have hR := HR.out
    rw [hp] at hR
    simp only [chk_false, bind_err] at hR
    subst hR
    refine (takeS_err 78 (fun a W => Tryz.call78 a W) #[] #[strV (gt (fs.map (·.1)) (a + 2))] _ b g fs (a + 2) (by omega) HL4.out rfl (gt (fs.map (·.1)) (a + 2)) 15 (by decide) (by intro W f; with_reducible exact format_any _ (HG.out (a + 2)) W (HO4.out.at_ f) 15 (by simp [hp]))).mono ?_
    rintro e wn ⟨rfl, hfn⟩
    have HFn := Lib.hid hfn
    clear hfn
    go_wp2_with fail
    exact ⟨rfl, rfl, fr_bb HF4.out (fr_b HFn.out)⟩
  have hR := HR.out
  rw [hp] at hR
  simp only [chk_true, bind_ok] at hR
  have HR := Lib.hid hR
  clear hR
  refine (takeS_at 78 (fun a W => Tryz.call78 a W) #[] #[strV (gt (fs.map (·.1)) (a + 2))] _ b g fs (a + 2) (by omega) HL4.out rfl HO4.out.hg (gt (fs.map (·.1)) (a + 2)) (by intro W f; with_reducible exact format_any _ (HG.out (a + 2)) W (HO4.out.at_ f) 0 (by simp [hp]))).mono ?_
  rintro e wa4 ⟨rfl, hl4, hfa4⟩
  have HL5 := Lib.hid hl4
  have HF5 := Lib.hid (fr_bb HF4.out hfa4)
  have HO5 := Lib.hid (HO4.out.on hfa4)
  have hsa4 := hfa4.size
  have HZ5 := Lib.hid (hfa4.blk HZ4.out (by omega))
  have HX5 := Lib.hid (hfa4.blk HX4.out (by omega))
  clear hl4 hfa4 HL4 HF4 HO4 HZ4 HX4
  clear hp
  go_wp2_with (
      refine wpList_store_cell 9 _ _ wa1.heap.size 4 31 (eraC ⟨off, r.1, r.2.1, r.2.2, [], tilZ⟩) (eraC ⟨off, r.1, r.2.1, r.2.2, (gt (fs.map (·.1)) (a + 2)), tilZ⟩) (strV (gt (fs.map (·.1)) (a + 2))) (by rfl) rfl rfl rfl rfl HX5.out info_str (by rfl) (show 4 < 13 by decide) (put_e4 _ _) ?_
      intro w6 hf6 hb6
      have hs6 := hf6.size
      have HX6 := Lib.hid hb6
      have HZ6 := Lib.hid (hf6.blk HZ5.out (by omega))
      have HL6 := Lib.hid (HL5.out.fr hf6 (by omega) (by omega))
      have HF6 := Lib.hid (fr_more HF5.out hf6 (fun i e => by omega))
      have HO6 := Lib.hid (show Ok w0 w6 b g from ⟨HO5.out.lok, HO5.out.fr.fresh hf6 (fun i e => by have := HO5.out.hb; omega), HO5.out.hb, HO5.out.hg⟩)
      clear hf6 hb6 HX5 HZ5 HL5 HF5 HO5)
  have HU := Lib.hid (until_any fs HN.out (a + 3) ha (by omega) w0 w6 b g HO6.out HL6.out (by omega))
  have hR := HR.out
  obtain ⟨S, hS⟩ : ∃ S, (if a + 3 < (fs.map (·.1)).length then untilP (fs.map (·.1)) (a + 3) else .ok tilZ) = S := ⟨_, rfl⟩
  rw [hS] at hR HU
  clear hS HR
  cases S with
  | error x =>
    have hR : Except.error x = R := hR
    subst hR
    refine HU.out.mono ?_
    rintro e wn ⟨rfl, hfn⟩
    have HFn := Lib.hid hfn
    clear hfn
    go_wp2_with fail
    exact ⟨rfl, rfl, fr_bb HF6.out HFn.out⟩
  | ok u =>
    have hR : Except.ok (⟨off, r.1, r.2.1, r.2.2, (gt (fs.map (·.1)) (a + 2)), u⟩ : EraL) = R := hR
    subst hR
    refine HU.out.mono ?_
    rintro e w7 ⟨rfl, hl7, hf7⟩
    have hs7 := hf7.size
    have HX7 := Lib.hid (hf7.blk HX6.out (by omega))
    have HZ7 := Lib.hid (hf7.blk HZ6.out (by omega))
    have HL7 := Lib.hid hl7
    have HF7 := Lib.hid (fr_bb HF6.out hf7)
    clear hl7 hf7 HX6 HZ6 HL6 HF6 HU
    go_wp2_with (first
      | (
        refine wpList_store_blk 29 _ _ wa1.heap.size 5 31 (eraC ⟨off, r.1, r.2.1, r.2.2, (gt (fs.map (·.1)) (a + 2)), tilZ⟩) (tilC u) (eraC ⟨off, r.1, r.2.1, r.2.2, (gt (fs.map (·.1)) (a + 2)), u⟩) (by rfl) rfl rfl rfl rfl HX7.out (infoT _) (tilC_one _) (show 5 + 8 ≤ 13 by decide) (put_e5 _ _) ?_
        intro w8 hf8 hb8
        have hs8 := hf8.size
        have HX8 := Lib.hid hb8
        have HZ8 := Lib.hid (hf8.blk HZ7.out (by omega))
        have HL8 := Lib.hid (HL7.out.fr hf8 (by omega) (by omega))
        have HF8 := Lib.hid (fr_more HF7.out hf8 (fun i e => by omega))
        clear hf8 hb8 HX7 HZ7 HL7 HF7)
      | (refine wpList_load_blk 31 _ wa1.heap.size 0 31 (eraC ⟨off, r.1, r.2.1, r.2.2, (gt (fs.map (·.1)) (a + 2)), u⟩) (eraC ⟨off, r.1, r.2.1, r.2.2, (gt (fs.map (·.1)) (a + 2)), u⟩) _ (by rfl) rfl rfl HX8.out Tryz.underlying31 rfl (infoE _) (zero_part _) ?_)
      | (
        refine wpList_store_blk 31 _ _ w.heap.size 0 31 (eraC eraZ) (eraC ⟨off, r.1, r.2.1, r.2.2, (gt (fs.map (·.1)) (a + 2)), u⟩) (eraC ⟨off, r.1, r.2.1, r.2.2, (gt (fs.map (·.1)) (a + 2)), u⟩) (by rfl) rfl rfl rfl rfl HZ8.out (infoE _) (eraC_one _) (show 0 + 13 ≤ 13 by decide) (put_ea _ _) ?_
        intro w9 hf9 hb9
        have HE := Lib.hid hb9
        have HFe := Lib.hid (fr_more HF8.out hf9 (fun i e => by omega))
        have HLe := Lib.hid (HL8.out.fr hf9 (by omega) (by omega))
        clear hf9 hb9))
    (try simp only [Exit.inBlock, Exit.then])
    exact bodyPost_ret (res_era HE.out _ rfl) rfl ⟨rfl, HLe.out, HFe.out⟩
end Go.Proofs.YtgcheollgnhdlaaGreatDoor
