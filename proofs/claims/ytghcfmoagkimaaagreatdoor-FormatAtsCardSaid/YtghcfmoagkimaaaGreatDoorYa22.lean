import Derived.Test.YtghcfmoagkimaaaGreatDoorYa20
import Derived.Test.YtghcfmoagkimaaaGreatDoorYa17
import Derived.Test.YtghcfmoagkimaaaGreatDoorYa19
namespace Go.Proofs.YtghcfmoagkimaaaGreatDoor
open Go.RowKit Go.Mem Go.Lin Go.Fmx

set_option maxHeartbeats 6400000 in
set_option maxRecDepth 100000 in
theorem r16Abbr_any (f letter : Bs) (off : Int) (dst : Bool) (w : World) (hf : f.length ≤ 1000) (hl : letter.length ≤ 1000) : Calls Tryz.prog 30 #[strV f, strV letter, intV off, .bool dst] w fun e w' => e = .returned (.tuple #[strV (abbrD f letter off dst).1, intV (abbrD f letter off dst).2]) ∧ Fr w w' (fun _ => False) := by
  by_cases ho : off < -180000 ∨ 180000 < off
  · have HA := Lib.hid (abbr_arg (f := f) (letter := letter) (dst := dst) ho)
    rcases ho with ho | ho
    · go_enter Tryz.func30, Tryz.ntmps30
      go_wp2_with fail
      go_ret2
      exact ⟨by rw [HA.out]; rfl, Fr.refl _ _⟩
    · have ho2 : -180000 ≤ off := by omega
      go_enter Tryz.func30, Tryz.ntmps30
      go_wp2_with fail
      go_ret2
      exact ⟨by rw [HA.out]; rfl, Fr.refl _ _⟩
  · have HY := Lib.hid (abbr_yes (f := f) (letter := letter) (dst := dst) ho)
    have HN := Lib.hid (abbr_no (f := f) (letter := letter) (dst := dst) ho)
    have o1 : -180000 ≤ off := by omega
    have o2 : off ≤ 180000 := by omega
    have Hs := r16find_any f [37, 115]
    have Hz := r16find_any f [37, 122]
    have Hd := r16find_any f [47]
    clear ho
    cases hs : findD f [37, 115] with
    | some i =>
      have hi := (find_here hs).1.1
      have hi : i + 2 ≤ f.length := hi
      have n1 : (f.take i).length ≤ 1000 := by simp; omega
      have n2 : (f.drop (i + 2)).length ≤ 1000 := by simp; omega
      have S1 := fun w => sl_hi (P := Tryz.prog) w 9 Tryz.underlying9 f (f.take i) (i : Int) i rfl (by omega) rfl
      have S2 := fun w => sl_lo (P := Tryz.prog) w 9 Tryz.underlying9 f (f.drop (i + 2)) ((i : Int) + 2) (i + 2) (by omega) hi rfl
      have HT := abbrT_s (letter := letter) (off := off) (dst := dst) hs
      have i0 : (0 : Int) ≤ (i : Int) := by omega
      have i9 : (i : Int) ≤ 1000 := by omega
      have Fs := Lib.hid (fun w => (by have h := Hs w (by omega) ⟨by decide, by decide⟩; rw [hs] at h; exact h : Calls Tryz.prog 48 #[strV f, strV [37, 115]] w fun e w' => e = .returned (intV (i)) ∧ w' = w))
      rw [HT] at HY HN
      generalize f.take i = X at *
      generalize f.drop (i + 2) = Y at *
      have a1 := fun w => S6.run_add_str (P := Tryz.prog) w X letter (by omega)
      have a2 := fun w => S6.run_add_str (P := Tryz.prog) w (X ++ letter) Y (by simp; omega)
      have HP := r16Plain_any (X ++ letter ++ Y)
      obtain ⟨T, hT⟩ : ∃ T, X ++ letter ++ Y = T := ⟨_, rfl⟩
      have hTl : T.length ≤ 1000000 := by rw [← hT]; simp; omega
      rw [hT] at HY HN HP a2
      have HP := Lib.hid (fun w => HP w hTl)
      clear hs hi HT Hs Hz Hd hTl hT
      cases hb : plainB T with
      | true =>
        have HA := Lib.hid (HY.out hb)
        rw [hb] at HP
        clear HY HN hb
        go_enter Tryz.func30, Tryz.ntmps30
        go_wp2_with fail
        refine (Fs.out _).mono ?_
        rintro e w1 ⟨rfl, rfl⟩
        go_wp2_with fail
        go_quiet (fail)
        go_wp2_with fail
        refine (HP.out _).mono ?_
        rintro e w9 ⟨rfl, rfl⟩
        go_wp2_with fail
        go_ret2
        exact ⟨by rw [HA.out]; rfl, Fr.drewN _ _ _⟩
      | false =>
        have HA := Lib.hid (HN.out hb)
        rw [hb] at HP
        clear HY HN hb
        go_enter Tryz.func30, Tryz.ntmps30
        go_wp2_with fail
        refine (Fs.out _).mono ?_
        rintro e w1 ⟨rfl, rfl⟩
        go_wp2_with fail
        go_quiet (fail)
        go_wp2_with fail
        refine (HP.out _).mono ?_
        rintro e w9 ⟨rfl, rfl⟩
        go_wp2_with fail
        go_ret2
        exact ⟨by rw [HA.out]; rfl, Fr.drewN _ _ _⟩
    | none =>
      cases hz : findD f [37, 122] with
      | some i =>
        have hi := (find_here hz).1.1
        have hi : i + 2 ≤ f.length := hi
        have n1 : (f.take i).length ≤ 1000 := by simp; omega
        have n2 : (f.drop (i + 2)).length ≤ 1000 := by simp; omega
        have S1 := fun w => sl_hi (P := Tryz.prog) w 9 Tryz.underlying9 f (f.take i) (i : Int) i rfl (by omega) rfl
        have S2 := fun w => sl_lo (P := Tryz.prog) w 9 Tryz.underlying9 f (f.drop (i + 2)) ((i : Int) + 2) (i + 2) (by omega) hi rfl
        have hwi : IntKind.i64.wrap ((i : Int) + 2) = (i : Int) + 2 := by rw [IntKind.wrap_i64]; omega
        have n3 := digD_len off
        have HDg := Lib.hid (fun w => r16dig_any off o1 o2 w)
        have HT := abbrT_z (letter := letter) (off := off) (dst := dst) hs hz
        have i0 : (0 : Int) ≤ (i : Int) := by omega
        have i9 : (i : Int) ≤ 1000 := by omega
        have Fs := Lib.hid (fun w => (by have h := Hs w (by omega) ⟨by decide, by decide⟩; rw [hs] at h; exact h : Calls Tryz.prog 48 #[strV f, strV [37, 115]] w fun e w' => e = .returned (intV (-1)) ∧ w' = w))
        have Fz := Lib.hid (fun w => (by have h := Hz w (by omega) ⟨by decide, by decide⟩; rw [hz] at h; exact h : Calls Tryz.prog 48 #[strV f, strV [37, 122]] w fun e w' => e = .returned (intV (i)) ∧ w' = w))
        rw [HT] at HY HN
        generalize f.take i = X at *
        generalize f.drop (i + 2) = Y at *
        generalize digD off = D at *
        have a1 := fun w => S6.run_add_str (P := Tryz.prog) w X D (by omega)
        have a2 := fun w => S6.run_add_str (P := Tryz.prog) w (X ++ D) Y (by simp; omega)
        have HP := r16Plain_any (X ++ D ++ Y)
        obtain ⟨T, hT⟩ : ∃ T, X ++ D ++ Y = T := ⟨_, rfl⟩
        have hTl : T.length ≤ 1000000 := by rw [← hT]; simp; omega
        rw [hT] at HY HN HP a2
        have HP := Lib.hid (fun w => HP w hTl)
        clear hs hz hi HT Hs Hz Hd hTl hT
        cases hb : plainB T with
        | true =>
          have HA := Lib.hid (HY.out hb)
          rw [hb] at HP
          clear HY HN hb
          go_enter Tryz.func30, Tryz.ntmps30
          go_wp2_with fail
          refine (Fs.out _).mono ?_
          rintro e w1 ⟨rfl, rfl⟩
          go_wp2_with fail
          refine (Fz.out _).mono ?_
          rintro e w2 ⟨rfl, rfl⟩
          go_wp2_with fail
          refine wp_region_held_drew (S := fun w' => Fr w2 w' (fun _ => False)) (by kernel_rfl) (Fr.drew w2 _) (fun hHeld => ?_)
          refine wpAnyH_take (i := 0) (v := ?_) rfl (by kernel_rfl) (by kernel_rfl) (by kernel_rfl) (fun _ _ _ h => h) (Or.inl ⟨by rfl, ?_⟩) (by assumption) ?_
          rotate_left
          · intro w' hSw
            go_simp
            try with_reducible rfl
          try simp only [Act.put, List.setIfInBounds_toArray, List.set_cons_zero, List.set_cons_succ, List.getElem_toArray, List.getElem_cons_zero]
          refine wpAnyH_take (i := 1) (v := ?_) rfl (by kernel_rfl) (by kernel_rfl) (by kernel_rfl) (fun _ _ _ h => h) (Or.inl ⟨by rfl, ?_⟩) (by assumption) ?_
          rotate_left
          · intro w' hSw
            go_simp
            try with_reducible rfl
          try simp only [Act.put, List.setIfInBounds_toArray, List.set_cons_zero, List.set_cons_succ, List.getElem_toArray, List.getElem_cons_succ, List.getElem_cons_zero]
          refine wpAnyH_take (i := 2) (v := ?_) rfl (by kernel_rfl) (by kernel_rfl) (by kernel_rfl) (fun _ _ _ h => h) (Or.inl ⟨by rfl, ?_⟩) (by assumption) ?_
          rotate_left
          · intro w' hSw
            go_simp
            try with_reducible rfl
          try simp only [Act.put, List.setIfInBounds_toArray, List.set_cons_zero, List.set_cons_succ, List.getElem_toArray, List.getElem_cons_succ, List.getElem_cons_zero]
          refine wpAnyH_take (i := 3) (v := ?_) rfl (by kernel_rfl) (by kernel_rfl) (by kernel_rfl) (fun _ _ _ h => h) (Or.inl ⟨by rfl, ?_⟩) (by assumption) ?_
          rotate_left
          · intro w' hSw
            go_simp
            try with_reducible rfl
          try simp only [Act.put, List.setIfInBounds_toArray, List.set_cons_zero, List.set_cons_succ, List.getElem_toArray, List.getElem_cons_succ, List.getElem_cons_zero]
          refine wpAnyH_take (i := 6) (v := ?_) rfl (by kernel_rfl) (by kernel_rfl) (by kernel_rfl) (fun _ _ _ h => h) (Or.inl ⟨by rfl, ?_⟩) (by assumption) ?_
          rotate_left
          · intro w' hSw
            go_simp
            try with_reducible rfl
          try simp only [Act.put, List.setIfInBounds_toArray, List.set_cons_zero, List.set_cons_succ, List.getElem_toArray, List.getElem_cons_succ, List.getElem_cons_zero]
          refine wpAnyH_take (i := 7) (v := ?_) rfl (by kernel_rfl) (by kernel_rfl) (by kernel_rfl) (fun _ _ _ h => h) (Or.inl ⟨by rfl, ?_⟩) (by assumption) ?_
          rotate_left
          · intro w' hSw
            go_simp
            try with_reducible rfl
          try simp only [Act.put, List.setIfInBounds_toArray, List.set_cons_zero, List.set_cons_succ, List.getElem_toArray, List.getElem_cons_succ, List.getElem_cons_zero]
          refine wpAnyH_take (i := 8) (v := ?_) rfl (by kernel_rfl) (by kernel_rfl) (by kernel_rfl) (fun _ _ _ h => h) (Or.inl ⟨by rfl, ?_⟩) (by assumption) ?_
          rotate_left
          · intro w' hSw
            go_simp
            try with_reducible rfl
          try simp only [Act.put, List.setIfInBounds_toArray, List.set_cons_zero, List.set_cons_succ, List.getElem_toArray, List.getElem_cons_succ, List.getElem_cons_zero]
          refine wpAnyH_take (i := 9) (v := ?_) rfl (by kernel_rfl) (by kernel_rfl) (by kernel_rfl) (fun _ _ _ h => h) (Or.inl ⟨by rfl, ?_⟩) (by assumption) ?_
          rotate_left
          · intro w' hSw
            go_simp
            try with_reducible rfl
          try simp only [Act.put, List.setIfInBounds_toArray, List.set_cons_zero, List.set_cons_succ, List.getElem_toArray, List.getElem_cons_succ, List.getElem_cons_zero]
          refine wpAnyH_ready (rs := [4]) (by kernel_rfl) (by simp) ?_
          refine AllReadyH.cons rfl (fun K hK => ?_) AllReadyH.nil
          go_simp
          refine (HDg.out _).mono ?_
          rintro e w4 ⟨rfl, hf4⟩
          refine hK.out _ _ (ff4 hHeld hf4) (fun hHeld2 => ?_)
          clear hK K hHeld hf4
          rename_i hHeld2
          have hHeld := hHeld2
          clear hHeld2
          try simp only [Act.put, List.setIfInBounds_toArray, List.set_cons_zero, List.set_cons_succ, List.getElem_toArray, List.getElem_cons_succ, List.getElem_cons_zero]
          refine wpAnyH_take (i := 5) (v := ?_) rfl (by kernel_rfl) (by kernel_rfl) (by kernel_rfl) (fun _ _ _ h => h) (Or.inl ⟨by rfl, ?_⟩) (by assumption) ?_
          rotate_left
          · intro w' hSw
            go_simp
            try with_reducible rfl
          try simp only [Act.put, List.setIfInBounds_toArray, List.set_cons_zero, List.set_cons_succ, List.getElem_toArray, List.getElem_cons_succ, List.getElem_cons_zero]
          refine wpAnyH_take (i := 10) (v := ?_) rfl (by kernel_rfl) (by kernel_rfl) (by kernel_rfl) (fun _ _ _ h => h) (Or.inl ⟨by rfl, ?_⟩) (by assumption) ?_
          rotate_left
          · intro w' hSw
            go_simp
            try with_reducible rfl
          try simp only [Act.put, List.setIfInBounds_toArray, List.set_cons_zero, List.set_cons_succ, List.getElem_toArray, List.getElem_cons_succ, List.getElem_cons_zero]
          refine wpAnyH_take (i := 11) (v := ?_) rfl (by kernel_rfl) (by kernel_rfl) (by kernel_rfl) (fun _ _ _ h => h) (Or.inl ⟨by rfl, ?_⟩) (by assumption) ?_
          rotate_left
          · intro w' hSw
            go_simp
            try with_reducible rfl
          try simp only [Act.put, List.setIfInBounds_toArray, List.set_cons_zero, List.set_cons_succ, List.getElem_toArray, List.getElem_cons_succ, List.getElem_cons_zero]
          refine wpAnyH_done (by kernel_rfl) ?_ _
          go_wp2_with fail
          refine (HP.out _).mono ?_
          rintro e w9 ⟨rfl, rfl⟩
          go_wp2_with fail
          go_ret2
          exact ⟨by rw [HA.out]; rfl, hHeld⟩
        | false =>
          have HA := Lib.hid (HN.out hb)
          rw [hb] at HP
          clear HY HN hb
          go_enter Tryz.func30, Tryz.ntmps30
          go_wp2_with fail
          refine (Fs.out _).mono ?_
          rintro e w1 ⟨rfl, rfl⟩
          go_wp2_with fail
          refine (Fz.out _).mono ?_
          rintro e w2 ⟨rfl, rfl⟩
          go_wp2_with fail
          refine wp_region_held_drew (S := fun w' => Fr w2 w' (fun _ => False)) (by kernel_rfl) (Fr.drew w2 _) (fun hHeld => ?_)
          refine wpAnyH_take (i := 0) (v := ?_) rfl (by kernel_rfl) (by kernel_rfl) (by kernel_rfl) (fun _ _ _ h => h) (Or.inl ⟨by rfl, ?_⟩) (by assumption) ?_
          rotate_left
          · intro w' hSw
            go_simp
            try with_reducible rfl
          try simp only [Act.put, List.setIfInBounds_toArray, List.set_cons_zero, List.set_cons_succ, List.getElem_toArray, List.getElem_cons_zero]
          refine wpAnyH_take (i := 1) (v := ?_) rfl (by kernel_rfl) (by kernel_rfl) (by kernel_rfl) (fun _ _ _ h => h) (Or.inl ⟨by rfl, ?_⟩) (by assumption) ?_
          rotate_left
          · intro w' hSw
            go_simp
            try with_reducible rfl
          try simp only [Act.put, List.setIfInBounds_toArray, List.set_cons_zero, List.set_cons_succ, List.getElem_toArray, List.getElem_cons_succ, List.getElem_cons_zero]
          refine wpAnyH_take (i := 2) (v := ?_) rfl (by kernel_rfl) (by kernel_rfl) (by kernel_rfl) (fun _ _ _ h => h) (Or.inl ⟨by rfl, ?_⟩) (by assumption) ?_
          rotate_left
          · intro w' hSw
            go_simp
            try with_reducible rfl
          try simp only [Act.put, List.setIfInBounds_toArray, List.set_cons_zero, List.set_cons_succ, List.getElem_toArray, List.getElem_cons_succ, List.getElem_cons_zero]
          refine wpAnyH_take (i := 3) (v := ?_) rfl (by kernel_rfl) (by kernel_rfl) (by kernel_rfl) (fun _ _ _ h => h) (Or.inl ⟨by rfl, ?_⟩) (by assumption) ?_
          rotate_left
          · intro w' hSw
            go_simp
            try with_reducible rfl
          try simp only [Act.put, List.setIfInBounds_toArray, List.set_cons_zero, List.set_cons_succ, List.getElem_toArray, List.getElem_cons_succ, List.getElem_cons_zero]
          refine wpAnyH_take (i := 6) (v := ?_) rfl (by kernel_rfl) (by kernel_rfl) (by kernel_rfl) (fun _ _ _ h => h) (Or.inl ⟨by rfl, ?_⟩) (by assumption) ?_
          rotate_left
          · intro w' hSw
            go_simp
            try with_reducible rfl
          try simp only [Act.put, List.setIfInBounds_toArray, List.set_cons_zero, List.set_cons_succ, List.getElem_toArray, List.getElem_cons_succ, List.getElem_cons_zero]
          refine wpAnyH_take (i := 7) (v := ?_) rfl (by kernel_rfl) (by kernel_rfl) (by kernel_rfl) (fun _ _ _ h => h) (Or.inl ⟨by rfl, ?_⟩) (by assumption) ?_
          rotate_left
          · intro w' hSw
            go_simp
            try with_reducible rfl
          try simp only [Act.put, List.setIfInBounds_toArray, List.set_cons_zero, List.set_cons_succ, List.getElem_toArray, List.getElem_cons_succ, List.getElem_cons_zero]
          refine wpAnyH_take (i := 8) (v := ?_) rfl (by kernel_rfl) (by kernel_rfl) (by kernel_rfl) (fun _ _ _ h => h) (Or.inl ⟨by rfl, ?_⟩) (by assumption) ?_
          rotate_left
          · intro w' hSw
            go_simp
            try with_reducible rfl
          try simp only [Act.put, List.setIfInBounds_toArray, List.set_cons_zero, List.set_cons_succ, List.getElem_toArray, List.getElem_cons_succ, List.getElem_cons_zero]
          refine wpAnyH_take (i := 9) (v := ?_) rfl (by kernel_rfl) (by kernel_rfl) (by kernel_rfl) (fun _ _ _ h => h) (Or.inl ⟨by rfl, ?_⟩) (by assumption) ?_
          rotate_left
          · intro w' hSw
            go_simp
            try with_reducible rfl
          try simp only [Act.put, List.setIfInBounds_toArray, List.set_cons_zero, List.set_cons_succ, List.getElem_toArray, List.getElem_cons_succ, List.getElem_cons_zero]
          refine wpAnyH_ready (rs := [4]) (by kernel_rfl) (by simp) ?_
          refine AllReadyH.cons rfl (fun K hK => ?_) AllReadyH.nil
          go_simp
          refine (HDg.out _).mono ?_
          rintro e w4 ⟨rfl, hf4⟩
          refine hK.out _ _ (ff4 hHeld hf4) (fun hHeld2 => ?_)
          clear hK K hHeld hf4
          rename_i hHeld2
          have hHeld := hHeld2
          clear hHeld2
          try simp only [Act.put, List.setIfInBounds_toArray, List.set_cons_zero, List.set_cons_succ, List.getElem_toArray, List.getElem_cons_succ, List.getElem_cons_zero]
          refine wpAnyH_take (i := 5) (v := ?_) rfl (by kernel_rfl) (by kernel_rfl) (by kernel_rfl) (fun _ _ _ h => h) (Or.inl ⟨by rfl, ?_⟩) (by assumption) ?_
          rotate_left
          · intro w' hSw
            go_simp
            try with_reducible rfl
          try simp only [Act.put, List.setIfInBounds_toArray, List.set_cons_zero, List.set_cons_succ, List.getElem_toArray, List.getElem_cons_succ, List.getElem_cons_zero]
          refine wpAnyH_take (i := 10) (v := ?_) rfl (by kernel_rfl) (by kernel_rfl) (by kernel_rfl) (fun _ _ _ h => h) (Or.inl ⟨by rfl, ?_⟩) (by assumption) ?_
          rotate_left
          · intro w' hSw
            go_simp
            try with_reducible rfl
          try simp only [Act.put, List.setIfInBounds_toArray, List.set_cons_zero, List.set_cons_succ, List.getElem_toArray, List.getElem_cons_succ, List.getElem_cons_zero]
          refine wpAnyH_take (i := 11) (v := ?_) rfl (by kernel_rfl) (by kernel_rfl) (by kernel_rfl) (fun _ _ _ h => h) (Or.inl ⟨by rfl, ?_⟩) (by assumption) ?_
          rotate_left
          · intro w' hSw
            go_simp
            try with_reducible rfl
          try simp only [Act.put, List.setIfInBounds_toArray, List.set_cons_zero, List.set_cons_succ, List.getElem_toArray, List.getElem_cons_succ, List.getElem_cons_zero]
          refine wpAnyH_done (by kernel_rfl) ?_ _
          go_wp2_with fail
          refine (HP.out _).mono ?_
          rintro e w9 ⟨rfl, rfl⟩
          go_wp2_with fail
          go_ret2
          exact ⟨by rw [HA.out]; rfl, hHeld⟩
      | none =>
        cases hd : findD f [47] with
        | some i =>
          cases dst with
          | true =>
            have hi := (find_here hd).1.1
            have hi : i + 1 ≤ f.length := hi
            have n2 : (f.drop (i + 1)).length ≤ 1000 := by simp; omega
            have S2 := fun w => sl_lo (P := Tryz.prog) w 9 Tryz.underlying9 f (f.drop (i + 1)) ((i : Int) + 1) (i + 1) (by omega) hi rfl
            have HT := abbrT_d (letter := letter) (off := off) hs hz hd
            have i0 : (0 : Int) ≤ (i : Int) := by omega
            have i9 : (i : Int) ≤ 1000 := by omega
            have Fs := Lib.hid (fun w => (by have h := Hs w (by omega) ⟨by decide, by decide⟩; rw [hs] at h; exact h : Calls Tryz.prog 48 #[strV f, strV [37, 115]] w fun e w' => e = .returned (intV (-1)) ∧ w' = w))
            have Fz := Lib.hid (fun w => (by have h := Hz w (by omega) ⟨by decide, by decide⟩; rw [hz] at h; exact h : Calls Tryz.prog 48 #[strV f, strV [37, 122]] w fun e w' => e = .returned (intV (-1)) ∧ w' = w))
            have Fd := Lib.hid (fun w => (by have h := Hd w (by omega) ⟨by decide, by decide⟩; rw [hd] at h; exact h : Calls Tryz.prog 48 #[strV f, strV [47]] w fun e w' => e = .returned (intV (i)) ∧ w' = w))
            rw [HT] at HY HN
            generalize f.drop (i + 1) = Y at *
            have HP := r16Plain_any (Y)
            have hTl : (Y).length ≤ 1000000 := by omega
            have HP := Lib.hid (fun w => HP w hTl)
            clear hs hz hd hi HT Hs Hz Hd hTl
            cases hb : plainB Y with
            | true =>
              have HA := Lib.hid (HY.out hb)
              rw [hb] at HP
              clear HY HN hb
              go_enter Tryz.func30, Tryz.ntmps30
              go_wp2_with fail
              refine (Fs.out _).mono ?_
              rintro e w1 ⟨rfl, rfl⟩
              go_wp2_with fail
              refine (Fz.out _).mono ?_
              rintro e w2 ⟨rfl, rfl⟩
              go_wp2_with fail
              refine (Fd.out _).mono ?_
              rintro e w3 ⟨rfl, rfl⟩
              go_wp2_with fail
              refine (HP.out _).mono ?_
              rintro e w9 ⟨rfl, rfl⟩
              go_wp2_with fail
              go_ret2
              exact ⟨by rw [HA.out]; rfl, Fr.refl _ _⟩
            | false =>
              have HA := Lib.hid (HN.out hb)
              rw [hb] at HP
              clear HY HN hb
              go_enter Tryz.func30, Tryz.ntmps30
              go_wp2_with fail
              refine (Fs.out _).mono ?_
              rintro e w1 ⟨rfl, rfl⟩
              go_wp2_with fail
              refine (Fz.out _).mono ?_
              rintro e w2 ⟨rfl, rfl⟩
              go_wp2_with fail
              refine (Fd.out _).mono ?_
              rintro e w3 ⟨rfl, rfl⟩
              go_wp2_with fail
              refine (HP.out _).mono ?_
              rintro e w9 ⟨rfl, rfl⟩
              go_wp2_with fail
              go_ret2
              exact ⟨by rw [HA.out]; rfl, Fr.refl _ _⟩
          | false =>
            have hi := (find_here hd).1.1
            have hi : i + 1 ≤ f.length := hi
            have n1 : (f.take i).length ≤ 1000 := by simp; omega
            have S1 := fun w => sl_hi (P := Tryz.prog) w 9 Tryz.underlying9 f (f.take i) (i : Int) i rfl (by omega) rfl
            have HT := abbrT_w (letter := letter) (off := off) hs hz hd
            have i0 : (0 : Int) ≤ (i : Int) := by omega
            have i9 : (i : Int) ≤ 1000 := by omega
            have Fs := Lib.hid (fun w => (by have h := Hs w (by omega) ⟨by decide, by decide⟩; rw [hs] at h; exact h : Calls Tryz.prog 48 #[strV f, strV [37, 115]] w fun e w' => e = .returned (intV (-1)) ∧ w' = w))
            have Fz := Lib.hid (fun w => (by have h := Hz w (by omega) ⟨by decide, by decide⟩; rw [hz] at h; exact h : Calls Tryz.prog 48 #[strV f, strV [37, 122]] w fun e w' => e = .returned (intV (-1)) ∧ w' = w))
            have Fd := Lib.hid (fun w => (by have h := Hd w (by omega) ⟨by decide, by decide⟩; rw [hd] at h; exact h : Calls Tryz.prog 48 #[strV f, strV [47]] w fun e w' => e = .returned (intV (i)) ∧ w' = w))
            rw [HT] at HY HN
            generalize f.take i = X at *
            have HP := r16Plain_any (X)
            have hTl : (X).length ≤ 1000000 := by omega
            have HP := Lib.hid (fun w => HP w hTl)
            clear hs hz hd hi HT Hs Hz Hd hTl
            cases hb : plainB X with
            | true =>
              have HA := Lib.hid (HY.out hb)
              rw [hb] at HP
              clear HY HN hb
              go_enter Tryz.func30, Tryz.ntmps30
              go_wp2_with fail
              refine (Fs.out _).mono ?_
              rintro e w1 ⟨rfl, rfl⟩
              go_wp2_with fail
              refine (Fz.out _).mono ?_
              rintro e w2 ⟨rfl, rfl⟩
              go_wp2_with fail
              refine (Fd.out _).mono ?_
              rintro e w3 ⟨rfl, rfl⟩
              go_wp2_with fail
              refine (HP.out _).mono ?_
              rintro e w9 ⟨rfl, rfl⟩
              go_wp2_with fail
              go_ret2
              exact ⟨by rw [HA.out]; rfl, Fr.refl _ _⟩
            | false =>
              have HA := Lib.hid (HN.out hb)
              rw [hb] at HP
              clear HY HN hb
              go_enter Tryz.func30, Tryz.ntmps30
              go_wp2_with fail
              refine (Fs.out _).mono ?_
              rintro e w1 ⟨rfl, rfl⟩
              go_wp2_with fail
              refine (Fz.out _).mono ?_
              rintro e w2 ⟨rfl, rfl⟩
              go_wp2_with fail
              refine (Fd.out _).mono ?_
              rintro e w3 ⟨rfl, rfl⟩
              go_wp2_with fail
              refine (HP.out _).mono ?_
              rintro e w9 ⟨rfl, rfl⟩
              go_wp2_with fail
              go_ret2
              exact ⟨by rw [HA.out]; rfl, Fr.refl _ _⟩
        | none =>
          have HT := abbrT_n (letter := letter) (off := off) (dst := dst) hs hz hd
          have Fs := Lib.hid (fun w => (by have h := Hs w (by omega) ⟨by decide, by decide⟩; rw [hs] at h; exact h : Calls Tryz.prog 48 #[strV f, strV [37, 115]] w fun e w' => e = .returned (intV (-1)) ∧ w' = w))
          have Fz := Lib.hid (fun w => (by have h := Hz w (by omega) ⟨by decide, by decide⟩; rw [hz] at h; exact h : Calls Tryz.prog 48 #[strV f, strV [37, 122]] w fun e w' => e = .returned (intV (-1)) ∧ w' = w))
          have Fd := Lib.hid (fun w => (by have h := Hd w (by omega) ⟨by decide, by decide⟩; rw [hd] at h; exact h : Calls Tryz.prog 48 #[strV f, strV [47]] w fun e w' => e = .returned (intV (-1)) ∧ w' = w))
          rw [HT] at HY HN
          have HP := r16Plain_any (f)
          have hTl : (f).length ≤ 1000000 := by omega
          have HP := Lib.hid (fun w => HP w hTl)
          clear hs hz hd HT Hs Hz Hd hTl
          cases hb : plainB f with
          | true =>
            have HA := Lib.hid (HY.out hb)
            rw [hb] at HP
            clear HY HN hb
            go_enter Tryz.func30, Tryz.ntmps30
            go_wp2_with fail
            refine (Fs.out _).mono ?_
            rintro e w1 ⟨rfl, rfl⟩
            go_wp2_with fail
            refine (Fz.out _).mono ?_
            rintro e w2 ⟨rfl, rfl⟩
            go_wp2_with fail
            refine (Fd.out _).mono ?_
            rintro e w3 ⟨rfl, rfl⟩
            go_wp2_with fail
            refine (HP.out _).mono ?_
            rintro e w9 ⟨rfl, rfl⟩
            go_wp2_with fail
            go_ret2
            exact ⟨by rw [HA.out]; rfl, Fr.refl _ _⟩
          | false =>
            have HA := Lib.hid (HN.out hb)
            rw [hb] at HP
            clear HY HN hb
            go_enter Tryz.func30, Tryz.ntmps30
            go_wp2_with fail
            refine (Fs.out _).mono ?_
            rintro e w1 ⟨rfl, rfl⟩
            go_wp2_with fail
            refine (Fz.out _).mono ?_
            rintro e w2 ⟨rfl, rfl⟩
            go_wp2_with fail
            refine (Fd.out _).mono ?_
            rintro e w3 ⟨rfl, rfl⟩
            go_wp2_with fail
            refine (HP.out _).mono ?_
            rintro e w9 ⟨rfl, rfl⟩
            go_wp2_with fail
            go_ret2
            exact ⟨by rw [HA.out]; rfl, Fr.refl _ _⟩
end Go.Proofs.YtghcfmoagkimaaaGreatDoor
namespace Go.Proofs.YtghcfmoagkimaaaGreatDoor
open Go.RowKit Go.Mem Go.Lin Go.Xpd Go.Den

theorem infoZn (v : ZnV) : (Tryz.prog.info? 25).map (·.size) = some (zoneC v).size := show _ = some 2 by kernel_rfl
theorem infoTl (u : UntilL) : (Tryz.prog.info? 46).map (·.size) = some (tilC u).size := show _ = some 8 by kernel_rfl
theorem part_til (e : EraL) : ∀ j, j < (tilC e.til).size → (eraC e)[5 + j]? = (tilC e.til)[j]? := by
  intro j hj
  have hj : j < 8 := hj
  match j, hj with
  | 0, _ => rfl
  | 1, _ => rfl
  | 2, _ => rfl
  | 3, _ => rfl
  | 4, _ => rfl
  | 5, _ => rfl
  | 6, _ => rfl
  | 7, _ => rfl
theorem clock_range {u : UntilL} (h : (clockD u).2 = true) (hs : -700000 ≤ u.at_.s ∧ u.at_.s ≤ 700000) : -400000000000 ≤ (clockD u).1 ∧ (clockD u).1 ≤ 400000000000 := by
  unfold clockD at h ⊢
  cases hn : numX u.on u.year u.month with
  | none => rw [hn] at h; cases h
  | some n =>
    have := numX_range hn
    show -400000000000 ≤ n * 86400 + u.at_.s ∧ n * 86400 + u.at_.s ≤ 400000000000
    omega
theorem eraS_range {v : ZnV} (hL : LightZ v) (i : Nat) (t : Int) : -100000 ≤ (eraS (znD v) i t).1 ∧ (eraS (znD v) i t).1 ≤ 100000 := by
  have z : -100000 ≤ ((0 : Int), ([] : Bs)).1 ∧ ((0 : Int), ([] : Bs)).1 ≤ 100000 := by show -100000 ≤ (0 : Int) ∧ (0 : Int) ≤ 100000; omega
  have sv : ∀ (l : List RuleL) off, OkS l → -100000 ≤ (savA l off t).1 ∧ (savA l off t).1 ≤ 100000 := by
    intro l off hl
    unfold savA
    cases reachY t with
    | none => show -100000 ≤ (0 : Int) ∧ (0 : Int) ≤ 100000; omega
    | some y =>
      cases findA l off t with
      | none => show -100000 ≤ (0 : Int) ∧ (0 : Int) ≤ 100000; omega
      | some f => exact hl.sav _
  unfold eraS
  cases he : (znD v).eras[i]? with
  | none => exact z
  | some e =>
    have hok := hL.2.2.2 e (List.mem_of_getElem? he)
    dsimp only
    split
    · exact ⟨hok.2.2.1, hok.2.2.2.1⟩
    · split
      · refine sv _ _ ?_
        show OkS (((v.Z.map (·.l))[i]?).getD [])
        rw [List.getElem?_map]
        cases hx : v.Z[i]? with
        | none => exact ⟨fun r hr => absurd hr (by simp), fun r hr => absurd hr (by simp)⟩
        | some x => exact okS_of (hL.2.2.1 x (List.mem_of_getElem? hx)).2
      · exact z
theorem eraS_far {v : ZnV} {i : Nat} {t : Int} {e : EraL} (h : v.eras[i]? = some e) (hk : e.kind = 2) (hi : v.Z.length ≤ i) : (eraS (znD v) i t).1 = 0 := by
  have e1 : eraS (znD v) i t = savA [] e.off t := by
    unfold eraS
    show (match v.eras[i]? with | none => ((0 : Int), ([] : Bs)) | some e => (if e.kind = 1 then (e.save, []) else if e.kind = 2 then savA (((v.Z.map RuV.l)[i]?).getD []) e.off t else (0, []))) = _
    rw [h]
    show (if e.kind = 1 then (e.save, []) else if e.kind = 2 then savA (((v.Z.map RuV.l)[i]?).getD []) e.off t else ((0 : Int), ([] : Bs))) = _
    rw [if_neg (by omega), if_pos hk, List.getElem?_map, List.getElem?_eq_none hi]
    rfl
  rw [e1]
  rw [savA_nil (find_nil _ _)]
theorem endD_no {v : ZnV} {i : Nat} {e : EraL} (h : v.eras[i]? = some e) (hn : ¬ (e.til.has = true ∧ (clockD e.til).2 = true)) : endD (znD v) i = 0 := by
  unfold endD
  show (match v.eras[i]? with | none => _ | some e => _) = _
  rw [h]
  exact if_neg hn
theorem endD_yes {v : ZnV} {i : Nat} {e : EraL} (h : v.eras[i]? = some e) (hn : e.til.has = true ∧ (clockD e.til).2 = true) :
    endD (znD v) i = if e.til.at_.k = 0 then (clockD e.til).1 - e.off - (eraS (znD v) i ((clockD e.til).1 - e.off - 1)).1 else if e.til.at_.k = 1 then (clockD e.til).1 - e.off else (clockD e.til).1 := by
  unfold endD
  show (match v.eras[i]? with | none => _ | some e => _) = _
  rw [h]
  exact if_pos hn
set_option maxHeartbeats 3200000 in
set_option maxRecDepth 100000 in
theorem zEnd_any (v : ZnV) (i : Nat) (w : World) (hv : ZnAt w v) (hL : LightZ v) (hi : i < v.eras.length) :
    Calls Tryz.prog 28 #[.agg (zoneC v), intV i] w fun e w' => e = .returned (intV (endD (znD v) i)) ∧ Fr w w' (fun _ => False) := by
  obtain ⟨e, he⟩ : ∃ e, v.eras[i]? = some e := ⟨v.eras[i], List.getElem?_eq_getElem hi⟩
  have hok := hL.2.2.2 e (List.mem_of_getElem? he)
  have n1 := Fr.new w (.cells (zoneC v) 25) (fun _ => False)
  have HB1 := Lib.hid (Blk.made w 25 (zoneC v))
  have HF1 := Lib.hid n1
  obtain ⟨b, off, hA, hc⟩ := (hv.e.kept n1).at_ he
  have s1 : (w.alloc (.cells (zoneC v) 25)).heap.size = w.heap.size + 1 := by simp
  have hz := Blk.made (w.alloc (.cells (zoneC v) 25)) 48 (eraC eraZ)
  rw [s1] at hz
  have n2 := Fr.new (w.alloc (.cells (zoneC v) 25)) (.cells (eraC eraZ) 48) (fun _ => False)
  have HBz := Lib.hid hz
  have HF2 := Lib.hid (ff4 n1 n2)
  have HB2 := Lib.hid (n2.blk HB1.out (fun h => h))
  have c0 : (w.alloc (.cells (zoneC v) 25)).cell? ⟨w.heap.size, 0, none⟩ = some (.slice v.Ae v.eras.length v.ce) := blkc HB1.out 0 _ rfl
  have c5 : (w.alloc (.cells (zoneC v) 25)).cell? ⟨b, off + i * 13 + 5, none⟩ = some (.bool e.til.has) := hc 5 (show 5 < 13 by decide)
  have HV := Lib.hid hv
  have HLz := Lib.hid hL
  have HCx := Lib.hid hc
  have HE := Lib.hid he
  have i0 : (i : Int) < (v.eras.length : Int) := by omega
  rw [hA] at c0
  have HQ := Lib.hid (fun W => clock_any e.til W ⟨hok.2.2.2.2.1, hok.2.2.2.2.2.1⟩)
  have HA0 := Lib.hid hA
  clear n1 n2 hz s1 hc hv hL
  by_cases hh : e.til.has = true
  · rw [hh] at c5
    go_enter Tryz.func28, Tryz.ntmps28
    go_wp2_with (first
      | ((with_reducible refine at_load4 48 ?_); refine wpList_load_at 48 _ b (off + i * 13) (eraC e) _ (by rfl) rfl rfl HCx.out Tryz.underlying48 rfl (infoE _) ?_)
      | ((with_reducible refine at_load4 46 ?_); refine wpList_load_blk 46 _ (w.heap.size + 1) 5 48 (eraC e) (tilC e.til) _ (by rfl) rfl rfl HE4.out Tryz.underlying46 rfl (infoTl _) (part_til e) ?_)
      | ((with_reducible refine at_store4 48 ?_); refine wpList_store_blk 48 _ _ (w.heap.size + 1) 0 48 (eraC eraZ) (eraC e) (eraC e) (by rfl) rfl rfl rfl rfl HBz.out (infoE _) (eraC_one _) (show 0 + 13 ≤ 13 by decide) (put_er _ _) ?_
         intro W4 hf4 hb4
         have HF4 := Lib.hid (HF2.out.fresh hf4 (fun i e => by have e : i = w.heap.size + 1 := e; omega))
         have HB4 := Lib.hid (hf4.blk HB2.out (fun e => by have e : w.heap.size = w.heap.size + 1 := e; omega))
         have HE4 := Lib.hid hb4
         clear hf4 hb4 c0 c5))
    refine (HQ.out W4).mono ?_
    rintro _ w5 ⟨c, ok, rfl, hok2, hcv, hf5⟩
    have HF5 := Lib.hid (ff4 HF4.out hf5)
    have hE5 := hf5.blk HE4.out (fun h => h)
    have hB5 := hf5.blk HB4.out (fun h => h)
    have HB5 := Lib.hid hB5
    have d0 : w5.cell? ⟨w.heap.size + 1, 0, none⟩ = some (.int .i64 e.off) := blkc hE5 0 _ rfl
    have d1 : w5.cell? ⟨w.heap.size + 1, 1, none⟩ = some (.int .i64 e.kind) := blkc hE5 1 _ rfl
    have d12 : w5.cell? ⟨w.heap.size + 1, 12, none⟩ = some (.int .i64 e.til.at_.k) := blkc hE5 12 _ rfl
    have g1 : w5.cell? ⟨w.heap.size, 1, none⟩ = some (.slice v.Ar v.Z.length v.cr) := blkc hB5 1 _ rfl
    clear hf5 hE5 hB5
    cases ok with
    | false =>
      have HN := Lib.hid (endD_no he (fun h => by rw [← hok2] at h; exact absurd h.2 (by decide)))
      clear hok2 hcv he hh
      go_wp2_with fail
      go_ret
      exact ⟨by rw [HN.out]; rfl, HF5.out⟩
    | true =>
      have hcv := hcv rfl
      subst hcv
      have HN := Lib.hid (endD_yes he ⟨hh, hok2.symm⟩)
      obtain ⟨r1, r2⟩ := clock_range hok2.symm ⟨hok.2.2.2.2.1, hok.2.2.2.2.2.1⟩
      obtain ⟨o1, o2, -⟩ := hok
      have HSr := Lib.hid (fun t => eraS_range HLz.out i t)
      generalize (clockD e.til).1 = c at *
      clear hok2 hh
      by_cases hk0 : e.til.at_.k = 0
      · rw [if_pos hk0] at HN
        rw [hk0] at d12
        clear hk0
        obtain ⟨s1, s2⟩ := HSr.out (c - e.off - 1)
        have hrange : S6.inRange (c - e.off - 1) := by unfold S6.inRange; omega
        by_cases hz : i < v.Z.length
        · have z0 : (i : Int) < (v.Z.length : Int) := by omega
          have HQ2 := Lib.hid (zsaving_any v i (c - e.off - 1) w5 (HV.out.kept HF5.out) HLz.out hi (fun _ _ _ => hz) hrange)
          generalize eraS (znD v) i (c - e.off - 1) = sv at *
          clear he hrange
          go_wp2_with (
            ((with_reducible refine at_load4 25 ?_); refine wpList_load_blk 25 _ w.heap.size 0 25 (zoneC v) (zoneC v) _ (by rfl) rfl rfl HB5.out Tryz.underlying25 rfl (infoZn _) (zero_part _) ?_))
          refine HQ2.out.mono ?_
          rintro _ w6 ⟨rfl, hf6⟩
          have HF6 := Lib.hid (ff4 HF5.out hf6)
          have d2 : w6.cell? ⟨w.heap.size + 1, 0, none⟩ = some (.int .i64 e.off) := cell_far hf6 d0 (fun h => h)
          clear hf6
          go_wp2_with fail
          go_ret
          exact ⟨by rw [HN.out]; rfl, HF6.out⟩
        · have z0 : ¬ (i : Int) < (v.Z.length : Int) := by omega
          by_cases hk2 : e.kind = 2
          · have HZ := Lib.hid (eraS_far (t := c - e.off - 1) he hk2 (by omega))
            rw [HZ.out] at HN
            rw [hk2] at d1
            clear he hk2 hrange s1 s2
            go_wp2_with fail
            go_ret
            exact ⟨by rw [HN.out]; simp, HF5.out⟩
          · have HQ2 := Lib.hid (zsaving_any v i (c - e.off - 1) w5 (HV.out.kept HF5.out) HLz.out hi (fun e' h1 h2 => by rw [he] at h1; cases h1; exact absurd h2 hk2) hrange)
            have k2 : (e.kind == 2) = false := beq_eq_false_iff_ne.2 hk2
            generalize eraS (znD v) i (c - e.off - 1) = sv at *
            clear he hk2 hrange
            go_wp2_with (
              ((with_reducible refine at_load4 25 ?_); refine wpList_load_blk 25 _ w.heap.size 0 25 (zoneC v) (zoneC v) _ (by rfl) rfl rfl HB5.out Tryz.underlying25 rfl (infoZn _) (zero_part _) ?_))
            refine HQ2.out.mono ?_
            rintro _ w6 ⟨rfl, hf6⟩
            have HF6 := Lib.hid (ff4 HF5.out hf6)
            have d2 : w6.cell? ⟨w.heap.size + 1, 0, none⟩ = some (.int .i64 e.off) := cell_far hf6 d0 (fun h => h)
            clear hf6
            go_wp2_with fail
            go_ret
            exact ⟨by rw [HN.out]; rfl, HF6.out⟩
      · rw [if_neg hk0] at HN
        have k0 : (e.til.at_.k == 0) = false := beq_eq_false_iff_ne.2 hk0
        by_cases hk1 : e.til.at_.k = 1
        · rw [if_pos hk1] at HN
          rw [hk1] at d12
          clear he hk0 hk1 k0
          go_wp2_with fail
          go_ret
          exact ⟨by rw [HN.out]; rfl, HF5.out⟩
        · rw [if_neg hk1] at HN
          have k1 : (e.til.at_.k == 1) = false := beq_eq_false_iff_ne.2 hk1
          clear he hk0 hk1
          go_wp2_with fail
          go_ret
          exact ⟨by rw [HN.out]; rfl, HF5.out⟩
  · have HN := Lib.hid (endD_no he (fun h => hh h.1))
    have hh : e.til.has = false := by simpa using hh
    rw [hh] at c5
    clear he hh
    go_enter Tryz.func28, Tryz.ntmps28
    go_wp2_with fail
    go_ret
    exact ⟨by rw [HN.out]; rfl, HF1.out⟩
end Go.Proofs.YtghcfmoagkimaaaGreatDoor
namespace Go.Proofs.YtghcfmoagkimaaaGreatDoor
open Go.RowKit Go.Mem Go.Lin Go.Xpd Go.Den

/- why a zone isn't right, as a walk finds it -/
def LenOk (v : ZnV) : Prop := 1 ≤ v.eras.length ∧ v.eras.length ≤ 8 ∧ v.Z.length = v.eras.length
def ErasOk (v : ZnV) (i : Nat) : Prop := ∀ (j : Nat) (e : EraL) (x : RuV), j < i → v.eras[j]? = some e → v.Z[j]? = some x → eraOk e x.l
def OpensOk (v : ZnV) (i : Nat) : Prop := ∀ (j : Nat) (e : EraL), j < i → v.eras[j]? = some e → e.til.has = decide (j + 1 < v.eras.length)
theorem right_len {v : ZnV} (h : ¬ LenOk v) : rightD (znD v) = 1 := by
  unfold rightD
  refine if_pos ?_
  show v.eras.length < 1 ∨ 8 < v.eras.length ∨ (v.Z.map RuV.l).length ≠ v.eras.length
  rw [List.length_map]
  unfold LenOk at h
  omega
theorem right_len' {v : ZnV} (h : LenOk v) : ¬ ((znD v).eras.length < 1 ∨ 8 < (znD v).eras.length ∨ (znD v).rules.length ≠ (znD v).eras.length) := by
  show ¬ (v.eras.length < 1 ∨ 8 < v.eras.length ∨ (v.Z.map RuV.l).length ≠ v.eras.length)
  rw [List.length_map]
  unfold LenOk at h
  omega
theorem zip_at {v : ZnV} {p : EraL × List RuleL} (h : p ∈ (znD v).eras.zip (znD v).rules) : ∃ (i : Nat) (x : RuV), v.eras[i]? = some p.1 ∧ v.Z[i]? = some x ∧ p.2 = x.l := by
  obtain ⟨i, hi⟩ := List.mem_iff_getElem?.1 h
  rw [List.getElem?_zip_eq_some] at hi
  obtain ⟨h1, h2⟩ := hi
  have h2 : (v.Z.map RuV.l)[i]? = some p.2 := h2
  rw [List.getElem?_map] at h2
  cases hx : v.Z[i]? with
  | none => rw [hx] at h2; cases h2
  | some x => rw [hx] at h2; exact ⟨i, x, h1, hx, (Option.some.inj h2).symm⟩
theorem right_bad {v : ZnV} (hl : LenOk v) {i : Nat} {e : EraL} {x : RuV} (he : v.eras[i]? = some e) (hx : v.Z[i]? = some x) (hb : ¬ eraOk e x.l) : rightD (znD v) = 1 := by
  unfold rightD
  rw [if_neg (right_len' hl)]
  refine if_pos fun hc => hb (hc (e, x.l) ?_)
  refine List.mem_iff_getElem?.2 ⟨i, ?_⟩
  rw [List.getElem?_zip_eq_some]
  refine ⟨he, ?_⟩
  show (v.Z.map RuV.l)[i]? = some x.l
  rw [List.getElem?_map, hx]
  rfl
theorem eras_all {v : ZnV} (_hl : LenOk v) (h : ErasOk v v.eras.length) : ∀ p ∈ (znD v).eras.zip (znD v).rules, eraOk p.1 p.2 := by
  intro p hp
  obtain ⟨i, x, h1, h2, h3⟩ := zip_at hp
  rw [h3]
  exact h i p.1 x (List.getElem?_eq_some_iff.1 h1).1 h1 h2
theorem right_open {v : ZnV} (hl : LenOk v) (h : ErasOk v v.eras.length) {i : Nat} {e : EraL} (he : v.eras[i]? = some e) (hb : e.til.has ≠ decide (i + 1 < v.eras.length)) : rightD (znD v) = 21 := by
  unfold rightD
  rw [if_neg (right_len' hl), if_neg (fun hc => hc (eras_all hl h))]
  refine if_pos fun hc => hb ?_
  have := hc i (List.mem_range.2 (List.getElem?_eq_some_iff.1 he).1)
  have h2 : (v.eras[i]?).map (fun e => e.til.has) = some (decide (i + 1 < v.eras.length)) := this
  rw [he] at h2
  exact Option.some.inj h2
theorem opens_all {v : ZnV} (h : OpensOk v v.eras.length) : ∀ i ∈ List.range (znD v).eras.length, ((znD v).eras[i]?).map (fun e => e.til.has) = some (decide (i + 1 < (znD v).eras.length)) := by
  intro i hi
  have hi : i < v.eras.length := List.mem_range.1 hi
  show (v.eras[i]?).map (fun e => e.til.has) = some (decide (i + 1 < v.eras.length))
  rw [List.getElem?_eq_getElem hi]
  exact congrArg some (h i _ hi (List.getElem?_eq_getElem hi))
theorem right_fall {v : ZnV} (hl : LenOk v) (h : ErasOk v v.eras.length) (ho : OpensOk v v.eras.length) {i : Nat} (hi : i + 2 < v.eras.length) (hb : endD (znD v) (i + 1) ≤ endD (znD v) i) : rightD (znD v) = 14 := by
  unfold rightD
  rw [if_neg (right_len' hl), if_neg (fun hc => hc (eras_all hl h)), if_neg (fun hc => hc (opens_all ho))]
  refine if_pos ?_
  rw [List.all_eq_false]
  exact ⟨i, List.mem_range.2 (by show i < v.eras.length - 2; omega), by simp; omega⟩
theorem right_fine {v : ZnV} (hl : LenOk v) (h : ErasOk v v.eras.length) (ho : OpensOk v v.eras.length) (hr : ∀ j, j + 2 < v.eras.length → endD (znD v) j < endD (znD v) (j + 1)) : rightD (znD v) = 0 := by
  unfold rightD
  rw [if_neg (right_len' hl), if_neg (fun hc => hc (eras_all hl h)), if_neg (fun hc => hc (opens_all ho))]
  refine if_neg ?_
  rw [List.all_eq_false]
  rintro ⟨j, hj, hb⟩
  have hj : j < v.eras.length - 2 := List.mem_range.1 hj
  exact hb (decide_eq_true (hr j (by omega)))
theorem ErasOk.step {v : ZnV} {i : Nat} {e : EraL} {x : RuV} (h : ErasOk v i) (he : v.eras[i]? = some e) (hx : v.Z[i]? = some x) (ho : eraOk e x.l) : ErasOk v (i + 1) := by
  intro j e' x' hj h1 h2
  by_cases c : j = i
  · subst c
    rw [he] at h1
    rw [hx] at h2
    cases h1
    cases h2
    exact ho
  · exact h j e' x' (by omega) h1 h2
theorem OpensOk.step {v : ZnV} {i : Nat} {e : EraL} (h : OpensOk v i) (he : v.eras[i]? = some e) (ho : e.til.has = decide (i + 1 < v.eras.length)) : OpensOk v (i + 1) := by
  intro j e' hj h1
  by_cases c : j = i
  · subst c
    rw [he] at h1
    cases h1
    exact ho
  · exact h j e' (by omega) h1
end Go.Proofs.YtghcfmoagkimaaaGreatDoor
