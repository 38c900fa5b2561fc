import Derived.Test.YtpjmmnhmhjpkkaaDoorYb21
namespace Go.Proofs.YtpjmmnhmhjpkkaaDoor
open Go.RowKit Go.Mem Go.Lin Go.Xpd Go.Den

theorem atD_zero {v : ZnV} {t : Int} {s : StateD} {k : Int} (h : atD (znD v) t = (s, k)) (hk : k ≠ 0) : s = st0 := by
  by_cases hr : rightD (znD v) = 0
  · cases hy : reachY t with
    | none => rw [atD_far hr hy] at h; exact (Prod.mk.inj h).1.symm
    | some y => rw [atD_in hr hy rfl] at h; exact absurd (Prod.mk.inj h).2.symm hk
  · rw [atD_bad hr] at h; exact (Prod.mk.inj h).1.symm
theorem atD_era {v : ZnV} {t : Int} {s : StateD} (h : atD (znD v) t = (s, 0)) : LenOk v ∧ s.era = (eraAt (znD v) t 0 (v.eras.length - 1) : Nat) := by
  by_cases hr : rightD (znD v) = 0
  · refine ⟨right_zero hr, ?_⟩
    cases hy : reachY t with
    | none => rw [atD_far hr hy] at h; exact absurd (Prod.mk.inj h).2 (by decide)
    | some y => rw [atD_in hr hy rfl] at h; rw [← (Prod.mk.inj h).1]
  · rw [atD_bad hr] at h; exact absurd (Prod.mk.inj h).2 hr
set_option maxHeartbeats 6400000 in
set_option maxRecDepth 100000 in
theorem deras_any (v : ZnV) (t u : Int) (w : World) (hw : S6.WOk w) (hv : ZnAt w v) (hR : ZnR v) (_ht : inR t) (_hu : inR u) :
    Calls Tryd.prog 3 #[.agg (zoneC v), intV t, intV u] w fun e w' => e = .returned (.bool true) ∧ Fr w w' (fun _ => False) := by
  have HF1 := Lib.hid (Fr.new w (.cells (zoneC v) 25) (fun _ => False))
  have HB1 := Lib.hid (Blk.made w 25 (zoneC v))
  have HAl := Lib.hid (fun W (f : Fr w W (fun _ => False)) => zalive_any W (hw.fr f))
  have HLt := Lib.hid (fun W (f : Fr w W (fun _ => False)) => zLight_any v W (hv.kept f) hR)
  by_cases hP : LightZ v ∧ 0 ≤ u ∧ u ≤ 1099511627776 ∧ t ≤ 1125899906842624 ∧ -1125899906842624 ≤ t
  · obtain ⟨hP, u1, u2, t2, t1⟩ := hP
    have hti : S6.inRange t := by unfold S6.inRange; omega
    have htu : S6.inRange (t + u) := by unfold S6.inRange; omega
    have HN := Lib.hid (fun W (f : Fr w W (fun _ => False)) => nAt_any v t W (hw.fr f) (hv.kept f) hR hP.weak hti)
    have HN2 := Lib.hid (fun W (f : Fr w W (fun _ => False)) => nAt_any v (t + u) W (hw.fr f) (hv.kept f) hR hP.weak htu)
    have HEn := Lib.hid (fun (i : Nat) (hi : i < v.eras.length) W (f : Fr w W (fun _ => False)) => nEnd_any v i W (hw.fr f) (hv.kept f) hR hP hi)
    obtain ⟨s, k, hsk⟩ : ∃ s k, atD (znD v) t = (s, k) := ⟨_, _, rfl⟩
    obtain ⟨s2, k2, hsk2⟩ : ∃ s k, atD (znD v) (t + u) = (s, k) := ⟨_, _, rfl⟩
    rw [hsk] at HN
    rw [hsk2] at HN2
    have HSK := Lib.hid hsk
    have HSK2 := Lib.hid hsk2
    rw [decide_eq_true hP] at HLt
    clear hw hv hR hP hsk hsk2 hti htu
    by_cases hk : k = 0
    · subst hk
      obtain ⟨hlen, hera⟩ := atD_era HSK.out
      obtain ⟨l1, l2, l3⟩ := hlen
      obtain ⟨-, q2, q3, q4⟩ := eraAt_spec (znD v) t (v.eras.length - 1) 0
      have HMo := Lib.hid (eraAt_mono (z := znD v) (t := t) (t' := t + u) (by omega) (v.eras.length - 1))
      obtain ⟨i, hi⟩ : ∃ i, eraAt (znD v) t 0 (v.eras.length - 1) = i := ⟨_, rfl⟩
      rw [hi] at hera q2 q3 q4 HMo
      obtain ⟨s0, s1, s9⟩ := s
      have hera : s0 = (i : Int) := hera
      subst hera
      have HUp := Lib.hid (show i < v.eras.length - 1 → t < endD (znD v) i from fun h => q3 (by omega))
      have HDn := Lib.hid (show ∀ j, j + 1 = i → endD (znD v) j ≤ t from fun j h => q4 j (Nat.zero_le _) (by omega))
      have hin : i < v.eras.length := by omega
      have HFin := Lib.hid (show k2 ≠ 0 ∨ (k2 = 0 ∧ ∃ m : Nat, s2.era = m ∧ i ≤ m) from by
        by_cases h2 : k2 = 0
        · refine .inr ⟨h2, _, (atD_era (by rw [HSK2.out, h2])).2, HMo.out⟩
        · exact .inl h2)
      clear q2 q3 q4 hi HMo
      go_enter Tryd.func3, Tryd.ntmps3
      go_wp2_with (
        ((with_reducible refine at_load4 25 ?_); refine wpList_load_blk 25 _ w.heap.size 0 25 (zoneC v) (zoneC v) _ (by rfl) rfl rfl HB1.out Tryd.underlying25 rfl (infoZn _) (zero_part _) ?_))
      refine (HLt.out _ HF1.out).mono ?_
      rintro e w2 ⟨rfl, hf2⟩
      have HF2 := Lib.hid (ff4 HF1.out hf2)
      have HB2 := Lib.hid (hf2.blk HB1.out (fun h => h))
      clear hf2
      go_wp2_with (
        ((with_reducible refine at_load4 25 ?_); refine wpList_load_blk 25 _ w.heap.size 0 25 (zoneC v) (zoneC v) _ (by rfl) rfl rfl HB2.out Tryd.underlying25 rfl (infoZn _) (zero_part _) ?_))
      refine (zOwn_any v w2).mono ?_
      rintro e w3 ⟨rfl, hf3⟩
      have HF3 := Lib.hid (ff4 HF2.out hf3)
      have HB3 := Lib.hid (hf3.blk HB2.out (fun h => h))
      clear hf3
      go_wp2_with fail
      refine (HN.out w3 HF3.out).mono ?_
      rintro e w4 ⟨rfl, hf4⟩
      have HF4 := Lib.hid (ff4 HF3.out hf4)
      have HB4 := Lib.hid (hf4.blk HB3.out (fun h => h))
      have n5 := Fr.new w4 (.cells (stateC st0) 29) (fun _ => False)
      have HF5 := Lib.hid (ff4 HF4.out n5)
      have HS5 := Lib.hid (Blk.made w4 29 (stateC st0))
      have HB5 := Lib.hid (n5.blk HB4.out (fun h => h))
      clear hf4 n5
      go_wp2_with (
        ((with_reducible refine at_store4 29 ?_); refine wpList_store_blk 29 _ _ w4.heap.size 0 29 (stateC st0) (stateC ⟨i, s1, s9⟩) (stateC ⟨i, s1, s9⟩) (by rfl) rfl rfl rfl rfl HS5.out (infoDs _) (stateC_one _) (show 0 + 3 ≤ 3 by decide) (put_st _ _) ?_
         intro W hf6 hb6
         have HF6 := Lib.hid (HF5.out.fresh hf6 (fun i e => by have e : i = w4.heap.size := e; have := HF4.out.size; omega))
         have HB6 := Lib.hid (hf6.blk HB5.out (fun e => by have e : w.heap.size = w4.heap.size := e; have := HB4.out.lt; omega))
         have HS6 := Lib.hid hb6
         have c0 : W.cell? ⟨w.heap.size, 0, none⟩ = some (.slice v.Ae v.eras.length v.ce) := blkc HB6.out 0 _ rfl
         clear hf6 hb6))
      clear c0
      generalize w4.heap.size = g4 at *
      have hC := blkc HS6.out 0 (intV (i : Int)) rfl
      have HC := Lib.hid hC
      have wr1 : IntKind.i64.wrap ((v.eras.length : Int) - 1) = (v.eras.length : Int) - 1 := by rw [IntKind.wrap_i64]; omega
      have d2 : decide (v.eras.length ≤ i) = false := decide_eq_false (by omega)
      have d2b : decide ((v.eras.length : Int) ≤ (i : Int)) = false := decide_eq_false (by omega)
      clear hC
      by_cases b1 : i < v.eras.length - 1
      · have d3 : decide ((i : Int) < (v.eras.length : Int) - 1) = true := decide_eq_true (by omega)
        have HE1 := Lib.hid (fun W f => HEn.out i hin W f)
        have hup := HUp.out b1
        generalize endD (znD v) i = E1 at *
        have d4 : decide (E1 ≤ t) = false := decide_eq_false (by omega)
        have e3 : i + 1 < v.eras.length := by omega
        clear b1 hup
        by_cases b2 : 0 < i
        · obtain ⟨j, rfl⟩ : ∃ j, i = j + 1 := ⟨i - 1, by omega⟩
          have HE2 := Lib.hid (fun W f => HEn.out j (by omega) W f)
          have hdn := HDn.out j rfl
          generalize endD (znD v) j = E2 at *
          have d6 : decide (t < E2) = false := decide_eq_false (by omega)
          have d5 : decide (0 < j + 1) = true := rfl
          have d5b : decide ((0 : Int) < (j : Int) + 1) = true := decide_eq_true (by omega)
          have wr2 : IntKind.i64.wrap (j : Int) = (j : Int) := by rw [IntKind.wrap_i64]; omega
          have wr3 : IntKind.i64.wrap ((j : Int) + 1 - 1) = (j : Int) := by rw [IntKind.wrap_i64]; omega
          clear hdn b2
          refine wp_region_held_drew (S := fun w' => Fr W w' (fun _ => False)) (by kernel_rfl) (Fr.drew W _) (fun hHeld => ?_)
          refine wpAnyH_take (i := 0) (v := ?_) rfl (by kernel_rfl) (by kernel_rfl) (by kernel_rfl) (fun _ _ _ h => h) (Or.inl ⟨by rfl, ?_⟩) (by assumption) ?_
          rotate_left
          · intro w' hSw
            go_simp
            try with_reducible rfl
          try simp only [Act.put, List.setIfInBounds_toArray, List.set_cons_zero, List.set_cons_succ, List.getElem_toArray, List.getElem_cons_zero]
          refine wpAnyH_take (i := 1) (v := ?_) rfl (by kernel_rfl) (by kernel_rfl) (by kernel_rfl) (fun _ _ _ h => h) (Or.inl ⟨by rfl, ?_⟩) (by assumption) ?_
          rotate_left
          · intro w' hSw
            have cC : w'.cell? ⟨g4, 0, none⟩ = some (.int .i64 ((j + 1 : Nat) : Int)) := cell_far hSw HC.out (fun h => h)
            go_simp
            try with_reducible rfl
          try simp only [Act.put, List.setIfInBounds_toArray, List.set_cons_zero, List.set_cons_succ, List.getElem_toArray, List.getElem_cons_succ, List.getElem_cons_zero]
          refine wpAnyH_take (i := 2) (v := .bool false) rfl (by kernel_rfl) (by kernel_rfl) (by kernel_rfl) (fun _ _ _ h => h) (Or.inl ⟨by rfl, ?_⟩) (by assumption) ?_
          · intro w' hSw
            go_simp
            try first | omega | (intro h9; rw [h9] at l1; simp at l1; done)
          try simp only [Act.put, List.setIfInBounds_toArray, List.set_cons_zero, List.set_cons_succ, List.getElem_toArray, List.getElem_cons_succ, List.getElem_cons_zero]
          refine wpAnyH_take (i := 3) (v := .bool false) rfl (by kernel_rfl) (by kernel_rfl) (by kernel_rfl) (fun _ _ _ h => h) (Or.inl ⟨by rfl, ?_⟩) (by assumption) ?_
          · intro w' hSw
            go_simp
            try first | omega | (intro h9; rw [h9] at l1; simp at l1; done)
          try simp only [Act.put, List.setIfInBounds_toArray, List.set_cons_zero, List.set_cons_succ, List.getElem_toArray, List.getElem_cons_succ, List.getElem_cons_zero]
          refine wpAnyH_take (i := 4) (v := ?_) rfl (by kernel_rfl) (by kernel_rfl) (by kernel_rfl) (fun _ _ _ h => h) (Or.inl ⟨by rfl, ?_⟩) (by assumption) ?_
          rotate_left
          · intro w' hSw
            go_simp
            try with_reducible rfl
          try simp only [Act.put, List.setIfInBounds_toArray, List.set_cons_zero, List.set_cons_succ, List.getElem_toArray, List.getElem_cons_succ, List.getElem_cons_zero]
          refine wpAnyH_take (i := 5) (v := ?_) rfl (by kernel_rfl) (by kernel_rfl) (by kernel_rfl) (fun _ _ _ h => h) (Or.inl ⟨by rfl, ?_⟩) (by assumption) ?_
          rotate_left
          · intro w' hSw
            have cC : w'.cell? ⟨g4, 0, none⟩ = some (.int .i64 ((j + 1 : Nat) : Int)) := cell_far hSw HC.out (fun h => h)
            go_simp
            try with_reducible rfl
          try simp only [Act.put, List.setIfInBounds_toArray, List.set_cons_zero, List.set_cons_succ, List.getElem_toArray, List.getElem_cons_succ, List.getElem_cons_zero]
          refine wpAnyH_take (i := 6) (v := ?_) rfl (by kernel_rfl) (by kernel_rfl) (by kernel_rfl) (fun _ _ _ h => h) (Or.inl ⟨by rfl, ?_⟩) (by assumption) ?_
          rotate_left
          · intro w' hSw
            go_simp
            try with_reducible rfl
          try simp only [Act.put, List.setIfInBounds_toArray, List.set_cons_zero, List.set_cons_succ, List.getElem_toArray, List.getElem_cons_succ, List.getElem_cons_zero]
          refine wpAnyH_take (i := 7) (v := .bool false) rfl (by kernel_rfl) (by kernel_rfl) (by kernel_rfl) (fun _ _ _ h => h) (Or.inl ⟨by rfl, ?_⟩) (by assumption) ?_
          · intro w' hSw
            go_simp
            try first | omega | (intro h9; rw [h9] at l1; simp at l1; done)
          try simp only [Act.put, List.setIfInBounds_toArray, List.set_cons_zero, List.set_cons_succ, List.getElem_toArray, List.getElem_cons_succ, List.getElem_cons_zero]
          refine wpAnyH_take (i := 8) (v := .bool false) rfl (by kernel_rfl) (by kernel_rfl) (by kernel_rfl) (fun _ _ _ h => h) (Or.inl ⟨by rfl, ?_⟩) (by assumption) ?_
          · intro w' hSw
            go_simp
            try first | omega | (intro h9; rw [h9] at l1; simp at l1; done)
          try simp only [Act.put, List.setIfInBounds_toArray, List.set_cons_zero, List.set_cons_succ, List.getElem_toArray, List.getElem_cons_succ, List.getElem_cons_zero]
          refine wpAnyH_take (i := 9) (v := .bool false) rfl (by kernel_rfl) (by kernel_rfl) (by kernel_rfl) (fun _ _ _ h => h) (Or.inl ⟨by rfl, ?_⟩) (by assumption) ?_
          · intro w' hSw
            go_simp
            try first | omega | (intro h9; rw [h9] at l1; simp at l1; done)
          try simp only [Act.put, List.setIfInBounds_toArray, List.set_cons_zero, List.set_cons_succ, List.getElem_toArray, List.getElem_cons_succ, List.getElem_cons_zero]
          refine wpAnyH_take (i := 10) (v := ?_) rfl (by kernel_rfl) (by kernel_rfl) (by kernel_rfl) (fun _ _ _ h => h) (Or.inl ⟨by rfl, ?_⟩) (by assumption) ?_
          rotate_left
          · intro w' hSw
            go_simp
            try with_reducible rfl
          try simp only [Act.put, List.setIfInBounds_toArray, List.set_cons_zero, List.set_cons_succ, List.getElem_toArray, List.getElem_cons_succ, List.getElem_cons_zero]
          refine wpAnyH_take (i := 11) (v := ?_) rfl (by kernel_rfl) (by kernel_rfl) (by kernel_rfl) (fun _ _ _ h => h) (Or.inl ⟨by rfl, ?_⟩) (by assumption) ?_
          rotate_left
          · intro w' hSw
            have cC : w'.cell? ⟨g4, 0, none⟩ = some (.int .i64 ((j + 1 : Nat) : Int)) := cell_far hSw HC.out (fun h => h)
            go_simp
            try with_reducible rfl
          try simp only [Act.put, List.setIfInBounds_toArray, List.set_cons_zero, List.set_cons_succ, List.getElem_toArray, List.getElem_cons_succ, List.getElem_cons_zero]
          refine wpAnyH_take (i := 12) (v := ?_) rfl (by kernel_rfl) (by kernel_rfl) (by kernel_rfl) (fun _ _ _ h => h) (Or.inl ⟨by rfl, ?_⟩) (by assumption) ?_
          rotate_left
          · intro w' hSw
            go_simp
            try with_reducible rfl
          try simp only [Act.put, List.setIfInBounds_toArray, List.set_cons_zero, List.set_cons_succ, List.getElem_toArray, List.getElem_cons_succ, List.getElem_cons_zero]
          refine wpAnyH_take (i := 13) (v := ?_) rfl (by kernel_rfl) (by kernel_rfl) (by kernel_rfl) (fun _ _ _ h => h) (Or.inl ⟨by rfl, ?_⟩) (by assumption) ?_
          rotate_left
          · intro w' hSw
            go_simp
            try with_reducible rfl
          try simp only [Act.put, List.setIfInBounds_toArray, List.set_cons_zero, List.set_cons_succ, List.getElem_toArray, List.getElem_cons_succ, List.getElem_cons_zero]
          refine wpAnyH_take (i := 14) (v := .bool true) rfl (by kernel_rfl) (by kernel_rfl) (by kernel_rfl) (fun _ _ _ h => h) (Or.inl ⟨by rfl, ?_⟩) (by assumption) ?_
          · intro w' hSw
            go_simp
            try first | omega | (intro h9; rw [h9] at l1; simp at l1; done)
          try simp only [Act.put, List.setIfInBounds_toArray, List.set_cons_zero, List.set_cons_succ, List.getElem_toArray, List.getElem_cons_succ, List.getElem_cons_zero]
          refine wpAnyH_take (i := 15) (v := .bool true) rfl (by kernel_rfl) (by kernel_rfl) (by kernel_rfl) (fun _ _ _ h => h) (Or.inl ⟨by rfl, ?_⟩) (by assumption) ?_
          · intro w' hSw
            go_simp
            try first | omega | (intro h9; rw [h9] at l1; simp at l1; done)
          try simp only [Act.put, List.setIfInBounds_toArray, List.set_cons_zero, List.set_cons_succ, List.getElem_toArray, List.getElem_cons_succ, List.getElem_cons_zero]
          refine wpAnyH_take (i := 16) (v := _) rfl (by kernel_rfl) (by kernel_rfl) (by kernel_rfl) (fun _ _ _ h => h) ((yields_blk 25 _ w.heap.size 0 25 (zoneC v) (zoneC v) _ (by rfl) rfl (by rfl) (fun w' hSw => hSw.blk HB6.out (fun h => h)) Tryd.underlying25 rfl (infoZn _) (zero_part _))) (by assumption) ?_
          try simp only [Act.put, List.setIfInBounds_toArray, List.set_cons_zero, List.set_cons_succ, List.getElem_toArray, List.getElem_cons_succ, List.getElem_cons_zero]
          refine wpAnyH_take (i := 18) (v := ?_) rfl (by kernel_rfl) (by kernel_rfl) (by kernel_rfl) (fun _ _ _ h => h) (Or.inl ⟨by rfl, ?_⟩) (by assumption) ?_
          rotate_left
          · intro w' hSw
            go_simp
            try with_reducible rfl
          try simp only [Act.put, List.setIfInBounds_toArray, List.set_cons_zero, List.set_cons_succ, List.getElem_toArray, List.getElem_cons_succ, List.getElem_cons_zero]
          refine wpAnyH_take (i := 19) (v := ?_) rfl (by kernel_rfl) (by kernel_rfl) (by kernel_rfl) (fun _ _ _ h => h) (Or.inl ⟨by rfl, ?_⟩) (by assumption) ?_
          rotate_left
          · intro w' hSw
            have cC : w'.cell? ⟨g4, 0, none⟩ = some (.int .i64 ((j + 1 : Nat) : Int)) := cell_far hSw HC.out (fun h => h)
            go_simp
            try with_reducible rfl
          try simp only [Act.put, List.setIfInBounds_toArray, List.set_cons_zero, List.set_cons_succ, List.getElem_toArray, List.getElem_cons_succ, List.getElem_cons_zero]
          refine wpAnyH_take (i := 21) (v := ?_) rfl (by kernel_rfl) (by kernel_rfl) (by kernel_rfl) (fun _ _ _ h => h) (Or.inl ⟨by rfl, ?_⟩) (by assumption) ?_
          rotate_left
          · intro w' hSw
            go_simp
            try with_reducible rfl
          try simp only [Act.put, List.setIfInBounds_toArray, List.set_cons_zero, List.set_cons_succ, List.getElem_toArray, List.getElem_cons_succ, List.getElem_cons_zero]
          refine wpAnyH_ready (rs := [17]) (by kernel_rfl) (by simp) ?_
          refine AllReadyH.cons rfl (fun K hK => ?_) AllReadyH.nil
          go_simp
          refine (zOwn_any v _).mono ?_
          rintro e w17 ⟨rfl, hf17⟩
          refine hK.out _ _ (ff4 hHeld hf17) (fun hHeld2 => ?_)
          clear hK K hHeld hf17
          rename_i hHeld2
          have hHeld := hHeld2
          clear hHeld2
          try simp only [Act.put, List.setIfInBounds_toArray, List.set_cons_zero, List.set_cons_succ, List.getElem_toArray, List.getElem_cons_succ, List.getElem_cons_zero]
          refine wpAnyH_ready (rs := [20]) (by kernel_rfl) (by simp) ?_
          refine AllReadyH.cons rfl (fun K hK => ?_) AllReadyH.nil
          go_simp
          refine (HE1.out _ (ff4 HF6.out hHeld)).mono ?_
          rintro e w20 ⟨rfl, hf20⟩
          refine hK.out _ _ (ff4 hHeld hf20) (fun hHeld2 => ?_)
          clear hK K hHeld hf20
          rename_i hHeld2
          have hHeld := hHeld2
          clear hHeld2
          try simp only [Act.put, List.setIfInBounds_toArray, List.set_cons_zero, List.set_cons_succ, List.getElem_toArray, List.getElem_cons_succ, List.getElem_cons_zero]
          refine wpAnyH_take (i := 22) (v := .bool false) rfl (by kernel_rfl) (by kernel_rfl) (by kernel_rfl) (fun _ _ _ h => h) (Or.inl ⟨by rfl, ?_⟩) (by assumption) ?_
          · intro w' hSw
            go_simp
            try first | omega | (intro h9; rw [h9] at l1; simp at l1; done)
          try simp only [Act.put, List.setIfInBounds_toArray, List.set_cons_zero, List.set_cons_succ, List.getElem_toArray, List.getElem_cons_succ, List.getElem_cons_zero]
          refine wpAnyH_take (i := 23) (v := .bool false) rfl (by kernel_rfl) (by kernel_rfl) (by kernel_rfl) (fun _ _ _ h => h) (Or.inl ⟨by rfl, ?_⟩) (by assumption) ?_
          · intro w' hSw
            go_simp
            try first | omega | (intro h9; rw [h9] at l1; simp at l1; done)
          try simp only [Act.put, List.setIfInBounds_toArray, List.set_cons_zero, List.set_cons_succ, List.getElem_toArray, List.getElem_cons_succ, List.getElem_cons_zero]
          refine wpAnyH_take (i := 24) (v := .bool false) rfl (by kernel_rfl) (by kernel_rfl) (by kernel_rfl) (fun _ _ _ h => h) (Or.inl ⟨by rfl, ?_⟩) (by assumption) ?_
          · intro w' hSw
            go_simp
            try first | omega | (intro h9; rw [h9] at l1; simp at l1; done)
          try simp only [Act.put, List.setIfInBounds_toArray, List.set_cons_zero, List.set_cons_succ, List.getElem_toArray, List.getElem_cons_succ, List.getElem_cons_zero]
          refine wpAnyH_take (i := 25) (v := .bool false) rfl (by kernel_rfl) (by kernel_rfl) (by kernel_rfl) (fun _ _ _ h => h) (Or.inl ⟨by rfl, ?_⟩) (by assumption) ?_
          · intro w' hSw
            go_simp
            try first | omega | (intro h9; rw [h9] at l1; simp at l1; done)
          try simp only [Act.put, List.setIfInBounds_toArray, List.set_cons_zero, List.set_cons_succ, List.getElem_toArray, List.getElem_cons_succ, List.getElem_cons_zero]
          refine wpAnyH_take (i := 26) (v := ?_) rfl (by kernel_rfl) (by kernel_rfl) (by kernel_rfl) (fun _ _ _ h => h) (Or.inl ⟨by rfl, ?_⟩) (by assumption) ?_
          rotate_left
          · intro w' hSw
            go_simp
            try with_reducible rfl
          try simp only [Act.put, List.setIfInBounds_toArray, List.set_cons_zero, List.set_cons_succ, List.getElem_toArray, List.getElem_cons_succ, List.getElem_cons_zero]
          refine wpAnyH_take (i := 27) (v := ?_) rfl (by kernel_rfl) (by kernel_rfl) (by kernel_rfl) (fun _ _ _ h => h) (Or.inl ⟨by rfl, ?_⟩) (by assumption) ?_
          rotate_left
          · intro w' hSw
            have cC : w'.cell? ⟨g4, 0, none⟩ = some (.int .i64 ((j + 1 : Nat) : Int)) := cell_far hSw HC.out (fun h => h)
            go_simp
            try with_reducible rfl
          try simp only [Act.put, List.setIfInBounds_toArray, List.set_cons_zero, List.set_cons_succ, List.getElem_toArray, List.getElem_cons_succ, List.getElem_cons_zero]
          refine wpAnyH_take (i := 28) (v := .bool true) rfl (by kernel_rfl) (by kernel_rfl) (by kernel_rfl) (fun _ _ _ h => h) (Or.inl ⟨by rfl, ?_⟩) (by assumption) ?_
          · intro w' hSw
            go_simp
            try first | omega | (intro h9; rw [h9] at l1; simp at l1; done)
          try simp only [Act.put, List.setIfInBounds_toArray, List.set_cons_zero, List.set_cons_succ, List.getElem_toArray, List.getElem_cons_succ, List.getElem_cons_zero]
          refine wpAnyH_take (i := 29) (v := .bool true) rfl (by kernel_rfl) (by kernel_rfl) (by kernel_rfl) (fun _ _ _ h => h) (Or.inl ⟨by rfl, ?_⟩) (by assumption) ?_
          · intro w' hSw
            go_simp
            try first | omega | (intro h9; rw [h9] at l1; simp at l1; done)
          try simp only [Act.put, List.setIfInBounds_toArray, List.set_cons_zero, List.set_cons_succ, List.getElem_toArray, List.getElem_cons_succ, List.getElem_cons_zero]
          refine wpAnyH_take (i := 30) (v := _) rfl (by kernel_rfl) (by kernel_rfl) (by kernel_rfl) (fun _ _ _ h => h) ((yields_blk 25 _ w.heap.size 0 25 (zoneC v) (zoneC v) _ (by rfl) rfl (by rfl) (fun w' hSw => hSw.blk HB6.out (fun h => h)) Tryd.underlying25 rfl (infoZn _) (zero_part _))) (by assumption) ?_
          try simp only [Act.put, List.setIfInBounds_toArray, List.set_cons_zero, List.set_cons_succ, List.getElem_toArray, List.getElem_cons_succ, List.getElem_cons_zero]
          refine wpAnyH_take (i := 32) (v := ?_) rfl (by kernel_rfl) (by kernel_rfl) (by kernel_rfl) (fun _ _ _ h => h) (Or.inl ⟨by rfl, ?_⟩) (by assumption) ?_
          rotate_left
          · intro w' hSw
            go_simp
            try with_reducible rfl
          try simp only [Act.put, List.setIfInBounds_toArray, List.set_cons_zero, List.set_cons_succ, List.getElem_toArray, List.getElem_cons_succ, List.getElem_cons_zero]
          refine wpAnyH_take (i := 33) (v := ?_) rfl (by kernel_rfl) (by kernel_rfl) (by kernel_rfl) (fun _ _ _ h => h) (Or.inl ⟨by rfl, ?_⟩) (by assumption) ?_
          rotate_left
          · intro w' hSw
            have cC : w'.cell? ⟨g4, 0, none⟩ = some (.int .i64 ((j + 1 : Nat) : Int)) := cell_far hSw HC.out (fun h => h)
            go_simp
            try with_reducible rfl
          try simp only [Act.put, List.setIfInBounds_toArray, List.set_cons_zero, List.set_cons_succ, List.getElem_toArray, List.getElem_cons_succ, List.getElem_cons_zero]
          refine wpAnyH_take (i := 34) (v := ?_) rfl (by kernel_rfl) (by kernel_rfl) (by kernel_rfl) (fun _ _ _ h => h) (Or.inl ⟨by rfl, ?_⟩) (by assumption) ?_
          rotate_left
          · intro w' hSw
            go_simp
            try with_reducible rfl
          try simp only [Act.put, List.setIfInBounds_toArray, List.set_cons_zero, List.set_cons_succ, List.getElem_toArray, List.getElem_cons_succ, List.getElem_cons_zero]
          refine wpAnyH_take (i := 36) (v := ?_) rfl (by kernel_rfl) (by kernel_rfl) (by kernel_rfl) (fun _ _ _ h => h) (Or.inl ⟨by rfl, ?_⟩) (by assumption) ?_
          rotate_left
          · intro w' hSw
            go_simp
            try with_reducible rfl
          try simp only [Act.put, List.setIfInBounds_toArray, List.set_cons_zero, List.set_cons_succ, List.getElem_toArray, List.getElem_cons_succ, List.getElem_cons_zero]
          refine wpAnyH_ready (rs := [31]) (by kernel_rfl) (by simp) ?_
          refine AllReadyH.cons rfl (fun K hK => ?_) AllReadyH.nil
          go_simp
          refine (zOwn_any v _).mono ?_
          rintro e w31 ⟨rfl, hf31⟩
          refine hK.out _ _ (ff4 hHeld hf31) (fun hHeld2 => ?_)
          clear hK K hHeld hf31
          rename_i hHeld2
          have hHeld := hHeld2
          clear hHeld2
          try simp only [Act.put, List.setIfInBounds_toArray, List.set_cons_zero, List.set_cons_succ, List.getElem_toArray, List.getElem_cons_succ, List.getElem_cons_zero]
          refine wpAnyH_ready (rs := [35]) (by kernel_rfl) (by simp) ?_
          refine AllReadyH.cons rfl (fun K hK => ?_) AllReadyH.nil
          go_simp
          refine (HE2.out _ (ff4 HF6.out hHeld)).mono ?_
          rintro e w35 ⟨rfl, hf35⟩
          refine hK.out _ _ (ff4 hHeld hf35) (fun hHeld2 => ?_)
          clear hK K hHeld hf35
          rename_i hHeld2
          have hHeld := hHeld2
          clear hHeld2
          try simp only [Act.put, List.setIfInBounds_toArray, List.set_cons_zero, List.set_cons_succ, List.getElem_toArray, List.getElem_cons_succ, List.getElem_cons_zero]
          refine wpAnyH_take (i := 37) (v := .bool false) rfl (by kernel_rfl) (by kernel_rfl) (by kernel_rfl) (fun _ _ _ h => h) (Or.inl ⟨by rfl, ?_⟩) (by assumption) ?_
          · intro w' hSw
            go_simp
            try first | omega | (intro h9; rw [h9] at l1; simp at l1; done)
          try simp only [Act.put, List.setIfInBounds_toArray, List.set_cons_zero, List.set_cons_succ, List.getElem_toArray, List.getElem_cons_succ, List.getElem_cons_zero]
          refine wpAnyH_take (i := 38) (v := .bool false) rfl (by kernel_rfl) (by kernel_rfl) (by kernel_rfl) (fun _ _ _ h => h) (Or.inl ⟨by rfl, ?_⟩) (by assumption) ?_
          · intro w' hSw
            go_simp
            try first | omega | (intro h9; rw [h9] at l1; simp at l1; done)
          try simp only [Act.put, List.setIfInBounds_toArray, List.set_cons_zero, List.set_cons_succ, List.getElem_toArray, List.getElem_cons_succ, List.getElem_cons_zero]
          refine wpAnyH_take (i := 39) (v := .bool false) rfl (by kernel_rfl) (by kernel_rfl) (by kernel_rfl) (fun _ _ _ h => h) (Or.inl ⟨by rfl, ?_⟩) (by assumption) ?_
          · intro w' hSw
            go_simp
            try first | omega | (intro h9; rw [h9] at l1; simp at l1; done)
          try simp only [Act.put, List.setIfInBounds_toArray, List.set_cons_zero, List.set_cons_succ, List.getElem_toArray, List.getElem_cons_succ, List.getElem_cons_zero]
          refine wpAnyH_done (by kernel_rfl) ?_ _
          have HFh := Lib.hid (ff4 HF6.out hHeld)
          have HBh := Lib.hid (hHeld.blk HB6.out (fun h => h))
          have HSh := Lib.hid (hHeld.blk HS6.out (fun h => h))
          clear hHeld
          go_wp2_with (
            ((with_reducible refine at_load4 25 ?_); refine wpList_load_blk 25 _ w.heap.size 0 25 (zoneC v) (zoneC v) _ (by rfl) rfl rfl HBh.out Tryd.underlying25 rfl (infoZn _) (zero_part _) ?_))
          refine (zOwn_any v _).mono ?_
          rintro e w13 ⟨rfl, hf13⟩
          have HF13 := Lib.hid (ff4 HFh.out hf13)
          have HS13 := Lib.hid (hf13.blk HSh.out (fun h => h))
          clear hf13
          go_wp2_with fail
          refine (HN2.out w13 HF13.out).mono ?_
          rintro e w14 ⟨rfl, hf14⟩
          have HF14 := Lib.hid (ff4 HF13.out hf14)
          have HS14 := Lib.hid (hf14.blk HS13.out (fun h => h))
          have n15 := Fr.new w14 (.cells (stateC st0) 29) (fun _ => False)
          have HF15 := Lib.hid (ff4 HF14.out n15)
          have HS15 := Lib.hid (n15.blk HS14.out (fun h => h))
          have HT15 := Lib.hid (Blk.made w14 29 (stateC st0))
          clear hf14 n15
          rcases HFin.out with hk2 | ⟨hk2, m, hm, him⟩
          · have hk3 : (k2 == 0) = false := beq_eq_false_iff_ne.2 hk2
            have hk4 : (k2 != 0) = true := bne_iff_ne.2 hk2
            clear hk2
            go_wp2_with (
              ((with_reducible refine at_store4 29 ?_); refine wpList_store_blk 29 _ _ w14.heap.size 0 29 (stateC st0) (stateC s2) (stateC s2) (by rfl) rfl rfl rfl rfl HT15.out (infoDs _) (stateC_one _) (show 0 + 3 ≤ 3 by decide) (put_st _ _) ?_
               intro W16 hf16 hb16
               have HF16 := Lib.hid (HF15.out.fresh hf16 (fun i e => by have e : i = w14.heap.size := e; have := HF14.out.size; omega))
               have hs16 := hf16.blk HS15.out (fun e => by have e : g4 = w14.heap.size := e; have := HS14.out.lt; omega)
               have p0 : W16.cell? ⟨g4, 0, none⟩ = some (.int .i64 ((j + 1 : Nat) : Int)) := blkc hs16 0 _ rfl
               have p1 : W16.cell? ⟨w14.heap.size, 0, none⟩ = some (.int .i64 s2.era) := blkc hb16 0 _ rfl
               clear hf16 hb16 hs16))
            refine (HAl.out W16 HF16.out).mono ?_
            rintro e w17 ⟨rfl, hf17⟩
            have HF17 := Lib.hid (ff4 HF16.out hf17)
            clear hf17
            go_wp2_with fail
            go_ret
            exact ⟨rfl, HF17.out⟩
          · subst hk2
            have him2 : ((j : Int) + 1) ≤ (m : Int) := by omega
            have HMe := Lib.hid hm
            clear hm
            go_wp2_with (
              ((with_reducible refine at_store4 29 ?_); refine wpList_store_blk 29 _ _ w14.heap.size 0 29 (stateC st0) (stateC s2) (stateC s2) (by rfl) rfl rfl rfl rfl HT15.out (infoDs _) (stateC_one _) (show 0 + 3 ≤ 3 by decide) (put_st _ _) ?_
               intro W16 hf16 hb16
               have HF16 := Lib.hid (HF15.out.fresh hf16 (fun i e => by have e : i = w14.heap.size := e; have := HF14.out.size; omega))
               have hs16 := hf16.blk HS15.out (fun e => by have e : g4 = w14.heap.size := e; have := HS14.out.lt; omega)
               have p0 : W16.cell? ⟨g4, 0, none⟩ = some (.int .i64 ((j + 1 : Nat) : Int)) := blkc hs16 0 _ rfl
               have p1 : W16.cell? ⟨w14.heap.size, 0, none⟩ = some (.int .i64 s2.era) := blkc hb16 0 _ rfl
               rw [HMe.out] at p1
               clear hf16 hb16 hs16))
            refine (HAl.out W16 HF16.out).mono ?_
            rintro e w17 ⟨rfl, hf17⟩
            have HF17 := Lib.hid (ff4 HF16.out hf17)
            clear hf17
            go_wp2_with fail
            go_ret
            exact ⟨rfl, HF17.out⟩
        · obtain rfl : i = 0 := by omega
          have d5 : decide (0 < 0) = false := rfl
          clear b2
          refine wp_region_held_drew (S := fun w' => Fr W w' (fun _ => False)) (by kernel_rfl) (Fr.drew W _) (fun hHeld => ?_)
          refine wpAnyH_take (i := 0) (v := ?_) rfl (by kernel_rfl) (by kernel_rfl) (by kernel_rfl) (fun _ _ _ h => h) (Or.inl ⟨by rfl, ?_⟩) (by assumption) ?_
          rotate_left
          · intro w' hSw
            go_simp
            try with_reducible rfl
          try simp only [Act.put, List.setIfInBounds_toArray, List.set_cons_zero, List.set_cons_succ, List.getElem_toArray, List.getElem_cons_zero]
          refine wpAnyH_take (i := 1) (v := ?_) rfl (by kernel_rfl) (by kernel_rfl) (by kernel_rfl) (fun _ _ _ h => h) (Or.inl ⟨by rfl, ?_⟩) (by assumption) ?_
          rotate_left
          · intro w' hSw
            have cC : w'.cell? ⟨g4, 0, none⟩ = some (.int .i64 ((0 : Nat) : Int)) := cell_far hSw HC.out (fun h => h)
            go_simp
            try with_reducible rfl
          try simp only [Act.put, List.setIfInBounds_toArray, List.set_cons_zero, List.set_cons_succ, List.getElem_toArray, List.getElem_cons_succ, List.getElem_cons_zero]
          refine wpAnyH_take (i := 2) (v := .bool false) rfl (by kernel_rfl) (by kernel_rfl) (by kernel_rfl) (fun _ _ _ h => h) (Or.inl ⟨by rfl, ?_⟩) (by assumption) ?_
          · intro w' hSw
            go_simp
            try first | omega | (intro h9; rw [h9] at l1; simp at l1; done)
          try simp only [Act.put, List.setIfInBounds_toArray, List.set_cons_zero, List.set_cons_succ, List.getElem_toArray, List.getElem_cons_succ, List.getElem_cons_zero]
          refine wpAnyH_take (i := 3) (v := .bool false) rfl (by kernel_rfl) (by kernel_rfl) (by kernel_rfl) (fun _ _ _ h => h) (Or.inl ⟨by rfl, ?_⟩) (by assumption) ?_
          · intro w' hSw
            go_simp
            try first | omega | (intro h9; rw [h9] at l1; simp at l1; done)
          try simp only [Act.put, List.setIfInBounds_toArray, List.set_cons_zero, List.set_cons_succ, List.getElem_toArray, List.getElem_cons_succ, List.getElem_cons_zero]
          refine wpAnyH_take (i := 4) (v := ?_) rfl (by kernel_rfl) (by kernel_rfl) (by kernel_rfl) (fun _ _ _ h => h) (Or.inl ⟨by rfl, ?_⟩) (by assumption) ?_
          rotate_left
          · intro w' hSw
            go_simp
            try with_reducible rfl
          try simp only [Act.put, List.setIfInBounds_toArray, List.set_cons_zero, List.set_cons_succ, List.getElem_toArray, List.getElem_cons_succ, List.getElem_cons_zero]
          refine wpAnyH_take (i := 5) (v := ?_) rfl (by kernel_rfl) (by kernel_rfl) (by kernel_rfl) (fun _ _ _ h => h) (Or.inl ⟨by rfl, ?_⟩) (by assumption) ?_
          rotate_left
          · intro w' hSw
            have cC : w'.cell? ⟨g4, 0, none⟩ = some (.int .i64 ((0 : Nat) : Int)) := cell_far hSw HC.out (fun h => h)
            go_simp
            try with_reducible rfl
          try simp only [Act.put, List.setIfInBounds_toArray, List.set_cons_zero, List.set_cons_succ, List.getElem_toArray, List.getElem_cons_succ, List.getElem_cons_zero]
          refine wpAnyH_take (i := 6) (v := ?_) rfl (by kernel_rfl) (by kernel_rfl) (by kernel_rfl) (fun _ _ _ h => h) (Or.inl ⟨by rfl, ?_⟩) (by assumption) ?_
          rotate_left
          · intro w' hSw
            go_simp
            try with_reducible rfl
          try simp only [Act.put, List.setIfInBounds_toArray, List.set_cons_zero, List.set_cons_succ, List.getElem_toArray, List.getElem_cons_succ, List.getElem_cons_zero]
          refine wpAnyH_take (i := 7) (v := .bool false) rfl (by kernel_rfl) (by kernel_rfl) (by kernel_rfl) (fun _ _ _ h => h) (Or.inl ⟨by rfl, ?_⟩) (by assumption) ?_
          · intro w' hSw
            go_simp
            try first | omega | (intro h9; rw [h9] at l1; simp at l1; done)
          try simp only [Act.put, List.setIfInBounds_toArray, List.set_cons_zero, List.set_cons_succ, List.getElem_toArray, List.getElem_cons_succ, List.getElem_cons_zero]
          refine wpAnyH_take (i := 8) (v := .bool false) rfl (by kernel_rfl) (by kernel_rfl) (by kernel_rfl) (fun _ _ _ h => h) (Or.inl ⟨by rfl, ?_⟩) (by assumption) ?_
          · intro w' hSw
            go_simp
            try first | omega | (intro h9; rw [h9] at l1; simp at l1; done)
          try simp only [Act.put, List.setIfInBounds_toArray, List.set_cons_zero, List.set_cons_succ, List.getElem_toArray, List.getElem_cons_succ, List.getElem_cons_zero]
          refine wpAnyH_take (i := 9) (v := .bool false) rfl (by kernel_rfl) (by kernel_rfl) (by kernel_rfl) (fun _ _ _ h => h) (Or.inl ⟨by rfl, ?_⟩) (by assumption) ?_
          · intro w' hSw
            go_simp
            try first | omega | (intro h9; rw [h9] at l1; simp at l1; done)
          try simp only [Act.put, List.setIfInBounds_toArray, List.set_cons_zero, List.set_cons_succ, List.getElem_toArray, List.getElem_cons_succ, List.getElem_cons_zero]
          refine wpAnyH_take (i := 10) (v := ?_) rfl (by kernel_rfl) (by kernel_rfl) (by kernel_rfl) (fun _ _ _ h => h) (Or.inl ⟨by rfl, ?_⟩) (by assumption) ?_
          rotate_left
          · intro w' hSw
            go_simp
            try with_reducible rfl
          try simp only [Act.put, List.setIfInBounds_toArray, List.set_cons_zero, List.set_cons_succ, List.getElem_toArray, List.getElem_cons_succ, List.getElem_cons_zero]
          refine wpAnyH_take (i := 11) (v := ?_) rfl (by kernel_rfl) (by kernel_rfl) (by kernel_rfl) (fun _ _ _ h => h) (Or.inl ⟨by rfl, ?_⟩) (by assumption) ?_
          rotate_left
          · intro w' hSw
            have cC : w'.cell? ⟨g4, 0, none⟩ = some (.int .i64 ((0 : Nat) : Int)) := cell_far hSw HC.out (fun h => h)
            go_simp
            try with_reducible rfl
          try simp only [Act.put, List.setIfInBounds_toArray, List.set_cons_zero, List.set_cons_succ, List.getElem_toArray, List.getElem_cons_succ, List.getElem_cons_zero]
          refine wpAnyH_take (i := 12) (v := ?_) rfl (by kernel_rfl) (by kernel_rfl) (by kernel_rfl) (fun _ _ _ h => h) (Or.inl ⟨by rfl, ?_⟩) (by assumption) ?_
          rotate_left
          · intro w' hSw
            go_simp
            try with_reducible rfl
          try simp only [Act.put, List.setIfInBounds_toArray, List.set_cons_zero, List.set_cons_succ, List.getElem_toArray, List.getElem_cons_succ, List.getElem_cons_zero]
          refine wpAnyH_take (i := 13) (v := ?_) rfl (by kernel_rfl) (by kernel_rfl) (by kernel_rfl) (fun _ _ _ h => h) (Or.inl ⟨by rfl, ?_⟩) (by assumption) ?_
          rotate_left
          · intro w' hSw
            go_simp
            try with_reducible rfl
          try simp only [Act.put, List.setIfInBounds_toArray, List.set_cons_zero, List.set_cons_succ, List.getElem_toArray, List.getElem_cons_succ, List.getElem_cons_zero]
          refine wpAnyH_take (i := 14) (v := .bool true) rfl (by kernel_rfl) (by kernel_rfl) (by kernel_rfl) (fun _ _ _ h => h) (Or.inl ⟨by rfl, ?_⟩) (by assumption) ?_
          · intro w' hSw
            go_simp
            try first | omega | (intro h9; rw [h9] at l1; simp at l1; done)
          try simp only [Act.put, List.setIfInBounds_toArray, List.set_cons_zero, List.set_cons_succ, List.getElem_toArray, List.getElem_cons_succ, List.getElem_cons_zero]
          refine wpAnyH_take (i := 15) (v := .bool true) rfl (by kernel_rfl) (by kernel_rfl) (by kernel_rfl) (fun _ _ _ h => h) (Or.inl ⟨by rfl, ?_⟩) (by assumption) ?_
          · intro w' hSw
            go_simp
            try first | omega | (intro h9; rw [h9] at l1; simp at l1; done)
          try simp only [Act.put, List.setIfInBounds_toArray, List.set_cons_zero, List.set_cons_succ, List.getElem_toArray, List.getElem_cons_succ, List.getElem_cons_zero]
          refine wpAnyH_take (i := 16) (v := _) rfl (by kernel_rfl) (by kernel_rfl) (by kernel_rfl) (fun _ _ _ h => h) ((yields_blk 25 _ w.heap.size 0 25 (zoneC v) (zoneC v) _ (by rfl) rfl (by rfl) (fun w' hSw => hSw.blk HB6.out (fun h => h)) Tryd.underlying25 rfl (infoZn _) (zero_part _))) (by assumption) ?_
          try simp only [Act.put, List.setIfInBounds_toArray, List.set_cons_zero, List.set_cons_succ, List.getElem_toArray, List.getElem_cons_succ, List.getElem_cons_zero]
          refine wpAnyH_take (i := 18) (v := ?_) rfl (by kernel_rfl) (by kernel_rfl) (by kernel_rfl) (fun _ _ _ h => h) (Or.inl ⟨by rfl, ?_⟩) (by assumption) ?_
          rotate_left
          · intro w' hSw
            go_simp
            try with_reducible rfl
          try simp only [Act.put, List.setIfInBounds_toArray, List.set_cons_zero, List.set_cons_succ, List.getElem_toArray, List.getElem_cons_succ, List.getElem_cons_zero]
          refine wpAnyH_take (i := 19) (v := ?_) rfl (by kernel_rfl) (by kernel_rfl) (by kernel_rfl) (fun _ _ _ h => h) (Or.inl ⟨by rfl, ?_⟩) (by assumption) ?_
          rotate_left
          · intro w' hSw
            have cC : w'.cell? ⟨g4, 0, none⟩ = some (.int .i64 ((0 : Nat) : Int)) := cell_far hSw HC.out (fun h => h)
            go_simp
            try with_reducible rfl
          try simp only [Act.put, List.setIfInBounds_toArray, List.set_cons_zero, List.set_cons_succ, List.getElem_toArray, List.getElem_cons_succ, List.getElem_cons_zero]
          refine wpAnyH_take (i := 21) (v := ?_) rfl (by kernel_rfl) (by kernel_rfl) (by kernel_rfl) (fun _ _ _ h => h) (Or.inl ⟨by rfl, ?_⟩) (by assumption) ?_
          rotate_left
          · intro w' hSw
            go_simp
            try with_reducible rfl
          try simp only [Act.put, List.setIfInBounds_toArray, List.set_cons_zero, List.set_cons_succ, List.getElem_toArray, List.getElem_cons_succ, List.getElem_cons_zero]
          refine wpAnyH_ready (rs := [17]) (by kernel_rfl) (by simp) ?_
          refine AllReadyH.cons rfl (fun K hK => ?_) AllReadyH.nil
          go_simp
          refine (zOwn_any v _).mono ?_
          rintro e w17 ⟨rfl, hf17⟩
          refine hK.out _ _ (ff4 hHeld hf17) (fun hHeld2 => ?_)
          clear hK K hHeld hf17
          rename_i hHeld2
          have hHeld := hHeld2
          clear hHeld2
          try simp only [Act.put, List.setIfInBounds_toArray, List.set_cons_zero, List.set_cons_succ, List.getElem_toArray, List.getElem_cons_succ, List.getElem_cons_zero]
          refine wpAnyH_ready (rs := [20]) (by kernel_rfl) (by simp) ?_
          refine AllReadyH.cons rfl (fun K hK => ?_) AllReadyH.nil
          go_simp
          refine (HE1.out _ (ff4 HF6.out hHeld)).mono ?_
          rintro e w20 ⟨rfl, hf20⟩
          refine hK.out _ _ (ff4 hHeld hf20) (fun hHeld2 => ?_)
          clear hK K hHeld hf20
          rename_i hHeld2
          have hHeld := hHeld2
          clear hHeld2
          try simp only [Act.put, List.setIfInBounds_toArray, List.set_cons_zero, List.set_cons_succ, List.getElem_toArray, List.getElem_cons_succ, List.getElem_cons_zero]
          refine wpAnyH_take (i := 22) (v := .bool false) rfl (by kernel_rfl) (by kernel_rfl) (by kernel_rfl) (fun _ _ _ h => h) (Or.inl ⟨by rfl, ?_⟩) (by assumption) ?_
          · intro w' hSw
            go_simp
            try first | omega | (intro h9; rw [h9] at l1; simp at l1; done)
          try simp only [Act.put, List.setIfInBounds_toArray, List.set_cons_zero, List.set_cons_succ, List.getElem_toArray, List.getElem_cons_succ, List.getElem_cons_zero]
          refine wpAnyH_take (i := 23) (v := .bool false) rfl (by kernel_rfl) (by kernel_rfl) (by kernel_rfl) (fun _ _ _ h => h) (Or.inl ⟨by rfl, ?_⟩) (by assumption) ?_
          · intro w' hSw
            go_simp
            try first | omega | (intro h9; rw [h9] at l1; simp at l1; done)
          try simp only [Act.put, List.setIfInBounds_toArray, List.set_cons_zero, List.set_cons_succ, List.getElem_toArray, List.getElem_cons_succ, List.getElem_cons_zero]
          refine wpAnyH_take (i := 24) (v := .bool false) rfl (by kernel_rfl) (by kernel_rfl) (by kernel_rfl) (fun _ _ _ h => h) (Or.inl ⟨by rfl, ?_⟩) (by assumption) ?_
          · intro w' hSw
            go_simp
            try first | omega | (intro h9; rw [h9] at l1; simp at l1; done)
          try simp only [Act.put, List.setIfInBounds_toArray, List.set_cons_zero, List.set_cons_succ, List.getElem_toArray, List.getElem_cons_succ, List.getElem_cons_zero]
          refine wpAnyH_take (i := 25) (v := .bool false) rfl (by kernel_rfl) (by kernel_rfl) (by kernel_rfl) (fun _ _ _ h => h) (Or.inl ⟨by rfl, ?_⟩) (by assumption) ?_
          · intro w' hSw
            go_simp
            try first | omega | (intro h9; rw [h9] at l1; simp at l1; done)
          try simp only [Act.put, List.setIfInBounds_toArray, List.set_cons_zero, List.set_cons_succ, List.getElem_toArray, List.getElem_cons_succ, List.getElem_cons_zero]
          refine wpAnyH_take (i := 26) (v := ?_) rfl (by kernel_rfl) (by kernel_rfl) (by kernel_rfl) (fun _ _ _ h => h) (Or.inl ⟨by rfl, ?_⟩) (by assumption) ?_
          rotate_left
          · intro w' hSw
            go_simp
            try with_reducible rfl
          try simp only [Act.put, List.setIfInBounds_toArray, List.set_cons_zero, List.set_cons_succ, List.getElem_toArray, List.getElem_cons_succ, List.getElem_cons_zero]
          refine wpAnyH_take (i := 27) (v := ?_) rfl (by kernel_rfl) (by kernel_rfl) (by kernel_rfl) (fun _ _ _ h => h) (Or.inl ⟨by rfl, ?_⟩) (by assumption) ?_
          rotate_left
          · intro w' hSw
            have cC : w'.cell? ⟨g4, 0, none⟩ = some (.int .i64 ((0 : Nat) : Int)) := cell_far hSw HC.out (fun h => h)
            go_simp
            try with_reducible rfl
          try simp only [Act.put, List.setIfInBounds_toArray, List.set_cons_zero, List.set_cons_succ, List.getElem_toArray, List.getElem_cons_succ, List.getElem_cons_zero]
          refine wpAnyH_take (i := 28) (v := .bool false) rfl (by kernel_rfl) (by kernel_rfl) (by kernel_rfl) (fun _ _ _ h => h) (Or.inl ⟨by rfl, ?_⟩) (by assumption) ?_
          · intro w' hSw
            go_simp
            try first | omega | (intro h9; rw [h9] at l1; simp at l1; done)
          try simp only [Act.put, List.setIfInBounds_toArray, List.set_cons_zero, List.set_cons_succ, List.getElem_toArray, List.getElem_cons_succ, List.getElem_cons_zero]
          refine wpAnyH_take (i := 29) (v := .bool false) rfl (by kernel_rfl) (by kernel_rfl) (by kernel_rfl) (fun _ _ _ h => h) (Or.inl ⟨by rfl, ?_⟩) (by assumption) ?_
          · intro w' hSw
            go_simp
            try first | omega | (intro h9; rw [h9] at l1; simp at l1; done)
          try simp only [Act.put, List.setIfInBounds_toArray, List.set_cons_zero, List.set_cons_succ, List.getElem_toArray, List.getElem_cons_succ, List.getElem_cons_zero]
          refine wpAnyH_take (i := 30) (v := undef) rfl (by kernel_rfl) (by kernel_rfl) (by kernel_rfl) (fun _ _ _ h => h) (Or.inr ⟨by rfl, rfl⟩) (by assumption) ?_
          try simp only [Act.put, List.setIfInBounds_toArray, List.set_cons_zero, List.set_cons_succ, List.getElem_toArray, List.getElem_cons_succ, List.getElem_cons_zero]
          refine wpAnyH_take (i := 31) (v := undef) rfl (by kernel_rfl) (by kernel_rfl) (by kernel_rfl) (fun _ _ _ h => h) (Or.inr ⟨by rfl, rfl⟩) (by assumption) ?_
          try simp only [Act.put, List.setIfInBounds_toArray, List.set_cons_zero, List.set_cons_succ, List.getElem_toArray, List.getElem_cons_succ, List.getElem_cons_zero]
          refine wpAnyH_take (i := 32) (v := undef) rfl (by kernel_rfl) (by kernel_rfl) (by kernel_rfl) (fun _ _ _ h => h) (Or.inr ⟨by rfl, rfl⟩) (by assumption) ?_
          try simp only [Act.put, List.setIfInBounds_toArray, List.set_cons_zero, List.set_cons_succ, List.getElem_toArray, List.getElem_cons_succ, List.getElem_cons_zero]
          refine wpAnyH_take (i := 33) (v := undef) rfl (by kernel_rfl) (by kernel_rfl) (by kernel_rfl) (fun _ _ _ h => h) (Or.inr ⟨by rfl, rfl⟩) (by assumption) ?_
          try simp only [Act.put, List.setIfInBounds_toArray, List.set_cons_zero, List.set_cons_succ, List.getElem_toArray, List.getElem_cons_succ, List.getElem_cons_zero]
          refine wpAnyH_take (i := 34) (v := undef) rfl (by kernel_rfl) (by kernel_rfl) (by kernel_rfl) (fun _ _ _ h => h) (Or.inr ⟨by rfl, rfl⟩) (by assumption) ?_
          try simp only [Act.put, List.setIfInBounds_toArray, List.set_cons_zero, List.set_cons_succ, List.getElem_toArray, List.getElem_cons_succ, List.getElem_cons_zero]
          refine wpAnyH_take (i := 35) (v := undef) rfl (by kernel_rfl) (by kernel_rfl) (by kernel_rfl) (fun _ _ _ h => h) (Or.inr ⟨by rfl, rfl⟩) (by assumption) ?_
          try simp only [Act.put, List.setIfInBounds_toArray, List.set_cons_zero, List.set_cons_succ, List.getElem_toArray, List.getElem_cons_succ, List.getElem_cons_zero]
          refine wpAnyH_take (i := 36) (v := undef) rfl (by kernel_rfl) (by kernel_rfl) (by kernel_rfl) (fun _ _ _ h => h) (Or.inr ⟨by rfl, rfl⟩) (by assumption) ?_
          try simp only [Act.put, List.setIfInBounds_toArray, List.set_cons_zero, List.set_cons_succ, List.getElem_toArray, List.getElem_cons_succ, List.getElem_cons_zero]
          refine wpAnyH_take (i := 37) (v := undef) rfl (by kernel_rfl) (by kernel_rfl) (by kernel_rfl) (fun _ _ _ h => h) (Or.inr ⟨by rfl, rfl⟩) (by assumption) ?_
          try simp only [Act.put, List.setIfInBounds_toArray, List.set_cons_zero, List.set_cons_succ, List.getElem_toArray, List.getElem_cons_succ, List.getElem_cons_zero]
          refine wpAnyH_take (i := 38) (v := .bool false) rfl (by kernel_rfl) (by kernel_rfl) (by kernel_rfl) (fun _ _ _ h => h) (Or.inl ⟨by rfl, ?_⟩) (by assumption) ?_
          · intro w' hSw
            go_simp
            try first | omega | (intro h9; rw [h9] at l1; simp at l1; done)
          try simp only [Act.put, List.setIfInBounds_toArray, List.set_cons_zero, List.set_cons_succ, List.getElem_toArray, List.getElem_cons_succ, List.getElem_cons_zero]
          refine wpAnyH_take (i := 39) (v := .bool false) rfl (by kernel_rfl) (by kernel_rfl) (by kernel_rfl) (fun _ _ _ h => h) (Or.inl ⟨by rfl, ?_⟩) (by assumption) ?_
          · intro w' hSw
            go_simp
            try first | omega | (intro h9; rw [h9] at l1; simp at l1; done)
          try simp only [Act.put, List.setIfInBounds_toArray, List.set_cons_zero, List.set_cons_succ, List.getElem_toArray, List.getElem_cons_succ, List.getElem_cons_zero]
          refine wpAnyH_done (by kernel_rfl) ?_ _
          have HFh := Lib.hid (ff4 HF6.out hHeld)
          have HBh := Lib.hid (hHeld.blk HB6.out (fun h => h))
          have HSh := Lib.hid (hHeld.blk HS6.out (fun h => h))
          clear hHeld
          go_wp2_with (
            ((with_reducible refine at_load4 25 ?_); refine wpList_load_blk 25 _ w.heap.size 0 25 (zoneC v) (zoneC v) _ (by rfl) rfl rfl HBh.out Tryd.underlying25 rfl (infoZn _) (zero_part _) ?_))
          refine (zOwn_any v _).mono ?_
          rintro e w13 ⟨rfl, hf13⟩
          have HF13 := Lib.hid (ff4 HFh.out hf13)
          have HS13 := Lib.hid (hf13.blk HSh.out (fun h => h))
          clear hf13
          go_wp2_with fail
          refine (HN2.out w13 HF13.out).mono ?_
          rintro e w14 ⟨rfl, hf14⟩
          have HF14 := Lib.hid (ff4 HF13.out hf14)
          have HS14 := Lib.hid (hf14.blk HS13.out (fun h => h))
          have n15 := Fr.new w14 (.cells (stateC st0) 29) (fun _ => False)
          have HF15 := Lib.hid (ff4 HF14.out n15)
          have HS15 := Lib.hid (n15.blk HS14.out (fun h => h))
          have HT15 := Lib.hid (Blk.made w14 29 (stateC st0))
          clear hf14 n15
          rcases HFin.out with hk2 | ⟨hk2, m, hm, him⟩
          · have hk3 : (k2 == 0) = false := beq_eq_false_iff_ne.2 hk2
            have hk4 : (k2 != 0) = true := bne_iff_ne.2 hk2
            clear hk2
            go_wp2_with (
              ((with_reducible refine at_store4 29 ?_); refine wpList_store_blk 29 _ _ w14.heap.size 0 29 (stateC st0) (stateC s2) (stateC s2) (by rfl) rfl rfl rfl rfl HT15.out (infoDs _) (stateC_one _) (show 0 + 3 ≤ 3 by decide) (put_st _ _) ?_
               intro W16 hf16 hb16
               have HF16 := Lib.hid (HF15.out.fresh hf16 (fun i e => by have e : i = w14.heap.size := e; have := HF14.out.size; omega))
               have hs16 := hf16.blk HS15.out (fun e => by have e : g4 = w14.heap.size := e; have := HS14.out.lt; omega)
               have p0 : W16.cell? ⟨g4, 0, none⟩ = some (.int .i64 ((0 : Nat) : Int)) := blkc hs16 0 _ rfl
               have p1 : W16.cell? ⟨w14.heap.size, 0, none⟩ = some (.int .i64 s2.era) := blkc hb16 0 _ rfl
               clear hf16 hb16 hs16))
            refine (HAl.out W16 HF16.out).mono ?_
            rintro e w17 ⟨rfl, hf17⟩
            have HF17 := Lib.hid (ff4 HF16.out hf17)
            clear hf17
            go_wp2_with fail
            go_ret
            exact ⟨rfl, HF17.out⟩
          · subst hk2
            have him2 : (0) ≤ (m : Int) := by omega
            have HMe := Lib.hid hm
            clear hm
            go_wp2_with (
              ((with_reducible refine at_store4 29 ?_); refine wpList_store_blk 29 _ _ w14.heap.size 0 29 (stateC st0) (stateC s2) (stateC s2) (by rfl) rfl rfl rfl rfl HT15.out (infoDs _) (stateC_one _) (show 0 + 3 ≤ 3 by decide) (put_st _ _) ?_
               intro W16 hf16 hb16
               have HF16 := Lib.hid (HF15.out.fresh hf16 (fun i e => by have e : i = w14.heap.size := e; have := HF14.out.size; omega))
               have hs16 := hf16.blk HS15.out (fun e => by have e : g4 = w14.heap.size := e; have := HS14.out.lt; omega)
               have p0 : W16.cell? ⟨g4, 0, none⟩ = some (.int .i64 ((0 : Nat) : Int)) := blkc hs16 0 _ rfl
               have p1 : W16.cell? ⟨w14.heap.size, 0, none⟩ = some (.int .i64 s2.era) := blkc hb16 0 _ rfl
               rw [HMe.out] at p1
               clear hf16 hb16 hs16))
            refine (HAl.out W16 HF16.out).mono ?_
            rintro e w17 ⟨rfl, hf17⟩
            have HF17 := Lib.hid (ff4 HF16.out hf17)
            clear hf17
            go_wp2_with fail
            go_ret
            exact ⟨rfl, HF17.out⟩
      · have d3 : decide ((i : Int) < (v.eras.length : Int) - 1) = false := decide_eq_false (by omega)
        have e3 : v.eras.length ≤ i + 1 := by omega
        clear b1
        by_cases b2 : 0 < i
        · obtain ⟨j, rfl⟩ : ∃ j, i = j + 1 := ⟨i - 1, by omega⟩
          have HE2 := Lib.hid (fun W f => HEn.out j (by omega) W f)
          have hdn := HDn.out j rfl
          generalize endD (znD v) j = E2 at *
          have d6 : decide (t < E2) = false := decide_eq_false (by omega)
          have d5 : decide (0 < j + 1) = true := rfl
          have d5b : decide ((0 : Int) < (j : Int) + 1) = true := decide_eq_true (by omega)
          have wr2 : IntKind.i64.wrap (j : Int) = (j : Int) := by rw [IntKind.wrap_i64]; omega
          have wr3 : IntKind.i64.wrap ((j : Int) + 1 - 1) = (j : Int) := by rw [IntKind.wrap_i64]; omega
          clear hdn b2
          refine wp_region_held_drew (S := fun w' => Fr W w' (fun _ => False)) (by kernel_rfl) (Fr.drew W _) (fun hHeld => ?_)
          refine wpAnyH_take (i := 0) (v := ?_) rfl (by kernel_rfl) (by kernel_rfl) (by kernel_rfl) (fun _ _ _ h => h) (Or.inl ⟨by rfl, ?_⟩) (by assumption) ?_
          rotate_left
          · intro w' hSw
            go_simp
            try with_reducible rfl
          try simp only [Act.put, List.setIfInBounds_toArray, List.set_cons_zero, List.set_cons_succ, List.getElem_toArray, List.getElem_cons_zero]
          refine wpAnyH_take (i := 1) (v := ?_) rfl (by kernel_rfl) (by kernel_rfl) (by kernel_rfl) (fun _ _ _ h => h) (Or.inl ⟨by rfl, ?_⟩) (by assumption) ?_
          rotate_left
          · intro w' hSw
            have cC : w'.cell? ⟨g4, 0, none⟩ = some (.int .i64 ((j + 1 : Nat) : Int)) := cell_far hSw HC.out (fun h => h)
            go_simp
            try with_reducible rfl
          try simp only [Act.put, List.setIfInBounds_toArray, List.set_cons_zero, List.set_cons_succ, List.getElem_toArray, List.getElem_cons_succ, List.getElem_cons_zero]
          refine wpAnyH_take (i := 2) (v := .bool false) rfl (by kernel_rfl) (by kernel_rfl) (by kernel_rfl) (fun _ _ _ h => h) (Or.inl ⟨by rfl, ?_⟩) (by assumption) ?_
          · intro w' hSw
            go_simp
            try first | omega | (intro h9; rw [h9] at l1; simp at l1; done)
          try simp only [Act.put, List.setIfInBounds_toArray, List.set_cons_zero, List.set_cons_succ, List.getElem_toArray, List.getElem_cons_succ, List.getElem_cons_zero]
          refine wpAnyH_take (i := 3) (v := .bool false) rfl (by kernel_rfl) (by kernel_rfl) (by kernel_rfl) (fun _ _ _ h => h) (Or.inl ⟨by rfl, ?_⟩) (by assumption) ?_
          · intro w' hSw
            go_simp
            try first | omega | (intro h9; rw [h9] at l1; simp at l1; done)
          try simp only [Act.put, List.setIfInBounds_toArray, List.set_cons_zero, List.set_cons_succ, List.getElem_toArray, List.getElem_cons_succ, List.getElem_cons_zero]
          refine wpAnyH_take (i := 4) (v := ?_) rfl (by kernel_rfl) (by kernel_rfl) (by kernel_rfl) (fun _ _ _ h => h) (Or.inl ⟨by rfl, ?_⟩) (by assumption) ?_
          rotate_left
          · intro w' hSw
            go_simp
            try with_reducible rfl
          try simp only [Act.put, List.setIfInBounds_toArray, List.set_cons_zero, List.set_cons_succ, List.getElem_toArray, List.getElem_cons_succ, List.getElem_cons_zero]
          refine wpAnyH_take (i := 5) (v := ?_) rfl (by kernel_rfl) (by kernel_rfl) (by kernel_rfl) (fun _ _ _ h => h) (Or.inl ⟨by rfl, ?_⟩) (by assumption) ?_
          rotate_left
          · intro w' hSw
            have cC : w'.cell? ⟨g4, 0, none⟩ = some (.int .i64 ((j + 1 : Nat) : Int)) := cell_far hSw HC.out (fun h => h)
            go_simp
            try with_reducible rfl
          try simp only [Act.put, List.setIfInBounds_toArray, List.set_cons_zero, List.set_cons_succ, List.getElem_toArray, List.getElem_cons_succ, List.getElem_cons_zero]
          refine wpAnyH_take (i := 6) (v := ?_) rfl (by kernel_rfl) (by kernel_rfl) (by kernel_rfl) (fun _ _ _ h => h) (Or.inl ⟨by rfl, ?_⟩) (by assumption) ?_
          rotate_left
          · intro w' hSw
            go_simp
            try with_reducible rfl
          try simp only [Act.put, List.setIfInBounds_toArray, List.set_cons_zero, List.set_cons_succ, List.getElem_toArray, List.getElem_cons_succ, List.getElem_cons_zero]
          refine wpAnyH_take (i := 7) (v := .bool false) rfl (by kernel_rfl) (by kernel_rfl) (by kernel_rfl) (fun _ _ _ h => h) (Or.inl ⟨by rfl, ?_⟩) (by assumption) ?_
          · intro w' hSw
            go_simp
            try first | omega | (intro h9; rw [h9] at l1; simp at l1; done)
          try simp only [Act.put, List.setIfInBounds_toArray, List.set_cons_zero, List.set_cons_succ, List.getElem_toArray, List.getElem_cons_succ, List.getElem_cons_zero]
          refine wpAnyH_take (i := 8) (v := .bool false) rfl (by kernel_rfl) (by kernel_rfl) (by kernel_rfl) (fun _ _ _ h => h) (Or.inl ⟨by rfl, ?_⟩) (by assumption) ?_
          · intro w' hSw
            go_simp
            try first | omega | (intro h9; rw [h9] at l1; simp at l1; done)
          try simp only [Act.put, List.setIfInBounds_toArray, List.set_cons_zero, List.set_cons_succ, List.getElem_toArray, List.getElem_cons_succ, List.getElem_cons_zero]
          refine wpAnyH_take (i := 9) (v := .bool false) rfl (by kernel_rfl) (by kernel_rfl) (by kernel_rfl) (fun _ _ _ h => h) (Or.inl ⟨by rfl, ?_⟩) (by assumption) ?_
          · intro w' hSw
            go_simp
            try first | omega | (intro h9; rw [h9] at l1; simp at l1; done)
          try simp only [Act.put, List.setIfInBounds_toArray, List.set_cons_zero, List.set_cons_succ, List.getElem_toArray, List.getElem_cons_succ, List.getElem_cons_zero]
          refine wpAnyH_take (i := 10) (v := ?_) rfl (by kernel_rfl) (by kernel_rfl) (by kernel_rfl) (fun _ _ _ h => h) (Or.inl ⟨by rfl, ?_⟩) (by assumption) ?_
          rotate_left
          · intro w' hSw
            go_simp
            try with_reducible rfl
          try simp only [Act.put, List.setIfInBounds_toArray, List.set_cons_zero, List.set_cons_succ, List.getElem_toArray, List.getElem_cons_succ, List.getElem_cons_zero]
          refine wpAnyH_take (i := 11) (v := ?_) rfl (by kernel_rfl) (by kernel_rfl) (by kernel_rfl) (fun _ _ _ h => h) (Or.inl ⟨by rfl, ?_⟩) (by assumption) ?_
          rotate_left
          · intro w' hSw
            have cC : w'.cell? ⟨g4, 0, none⟩ = some (.int .i64 ((j + 1 : Nat) : Int)) := cell_far hSw HC.out (fun h => h)
            go_simp
            try with_reducible rfl
          try simp only [Act.put, List.setIfInBounds_toArray, List.set_cons_zero, List.set_cons_succ, List.getElem_toArray, List.getElem_cons_succ, List.getElem_cons_zero]
          refine wpAnyH_take (i := 12) (v := ?_) rfl (by kernel_rfl) (by kernel_rfl) (by kernel_rfl) (fun _ _ _ h => h) (Or.inl ⟨by rfl, ?_⟩) (by assumption) ?_
          rotate_left
          · intro w' hSw
            go_simp
            try with_reducible rfl
          try simp only [Act.put, List.setIfInBounds_toArray, List.set_cons_zero, List.set_cons_succ, List.getElem_toArray, List.getElem_cons_succ, List.getElem_cons_zero]
          refine wpAnyH_take (i := 13) (v := ?_) rfl (by kernel_rfl) (by kernel_rfl) (by kernel_rfl) (fun _ _ _ h => h) (Or.inl ⟨by rfl, ?_⟩) (by assumption) ?_
          rotate_left
          · intro w' hSw
            go_simp
            try with_reducible rfl
          try simp only [Act.put, List.setIfInBounds_toArray, List.set_cons_zero, List.set_cons_succ, List.getElem_toArray, List.getElem_cons_succ, List.getElem_cons_zero]
          refine wpAnyH_take (i := 14) (v := .bool false) rfl (by kernel_rfl) (by kernel_rfl) (by kernel_rfl) (fun _ _ _ h => h) (Or.inl ⟨by rfl, ?_⟩) (by assumption) ?_
          · intro w' hSw
            go_simp
            try first | omega | (intro h9; rw [h9] at l1; simp at l1; done)
          try simp only [Act.put, List.setIfInBounds_toArray, List.set_cons_zero, List.set_cons_succ, List.getElem_toArray, List.getElem_cons_succ, List.getElem_cons_zero]
          refine wpAnyH_take (i := 15) (v := .bool false) rfl (by kernel_rfl) (by kernel_rfl) (by kernel_rfl) (fun _ _ _ h => h) (Or.inl ⟨by rfl, ?_⟩) (by assumption) ?_
          · intro w' hSw
            go_simp
            try first | omega | (intro h9; rw [h9] at l1; simp at l1; done)
          try simp only [Act.put, List.setIfInBounds_toArray, List.set_cons_zero, List.set_cons_succ, List.getElem_toArray, List.getElem_cons_succ, List.getElem_cons_zero]
          refine wpAnyH_take (i := 16) (v := undef) rfl (by kernel_rfl) (by kernel_rfl) (by kernel_rfl) (fun _ _ _ h => h) (Or.inr ⟨by rfl, rfl⟩) (by assumption) ?_
          try simp only [Act.put, List.setIfInBounds_toArray, List.set_cons_zero, List.set_cons_succ, List.getElem_toArray, List.getElem_cons_succ, List.getElem_cons_zero]
          refine wpAnyH_take (i := 17) (v := undef) rfl (by kernel_rfl) (by kernel_rfl) (by kernel_rfl) (fun _ _ _ h => h) (Or.inr ⟨by rfl, rfl⟩) (by assumption) ?_
          try simp only [Act.put, List.setIfInBounds_toArray, List.set_cons_zero, List.set_cons_succ, List.getElem_toArray, List.getElem_cons_succ, List.getElem_cons_zero]
          refine wpAnyH_take (i := 18) (v := undef) rfl (by kernel_rfl) (by kernel_rfl) (by kernel_rfl) (fun _ _ _ h => h) (Or.inr ⟨by rfl, rfl⟩) (by assumption) ?_
          try simp only [Act.put, List.setIfInBounds_toArray, List.set_cons_zero, List.set_cons_succ, List.getElem_toArray, List.getElem_cons_succ, List.getElem_cons_zero]
          refine wpAnyH_take (i := 19) (v := undef) rfl (by kernel_rfl) (by kernel_rfl) (by kernel_rfl) (fun _ _ _ h => h) (Or.inr ⟨by rfl, rfl⟩) (by assumption) ?_
          try simp only [Act.put, List.setIfInBounds_toArray, List.set_cons_zero, List.set_cons_succ, List.getElem_toArray, List.getElem_cons_succ, List.getElem_cons_zero]
          refine wpAnyH_take (i := 20) (v := undef) rfl (by kernel_rfl) (by kernel_rfl) (by kernel_rfl) (fun _ _ _ h => h) (Or.inr ⟨by rfl, rfl⟩) (by assumption) ?_
          try simp only [Act.put, List.setIfInBounds_toArray, List.set_cons_zero, List.set_cons_succ, List.getElem_toArray, List.getElem_cons_succ, List.getElem_cons_zero]
          refine wpAnyH_take (i := 21) (v := undef) rfl (by kernel_rfl) (by kernel_rfl) (by kernel_rfl) (fun _ _ _ h => h) (Or.inr ⟨by rfl, rfl⟩) (by assumption) ?_
          try simp only [Act.put, List.setIfInBounds_toArray, List.set_cons_zero, List.set_cons_succ, List.getElem_toArray, List.getElem_cons_succ, List.getElem_cons_zero]
          refine wpAnyH_take (i := 22) (v := undef) rfl (by kernel_rfl) (by kernel_rfl) (by kernel_rfl) (fun _ _ _ h => h) (Or.inr ⟨by rfl, rfl⟩) (by assumption) ?_
          try simp only [Act.put, List.setIfInBounds_toArray, List.set_cons_zero, List.set_cons_succ, List.getElem_toArray, List.getElem_cons_succ, List.getElem_cons_zero]
          refine wpAnyH_take (i := 23) (v := .bool false) rfl (by kernel_rfl) (by kernel_rfl) (by kernel_rfl) (fun _ _ _ h => h) (Or.inl ⟨by rfl, ?_⟩) (by assumption) ?_
          · intro w' hSw
            go_simp
            try first | omega | (intro h9; rw [h9] at l1; simp at l1; done)
          try simp only [Act.put, List.setIfInBounds_toArray, List.set_cons_zero, List.set_cons_succ, List.getElem_toArray, List.getElem_cons_succ, List.getElem_cons_zero]
          refine wpAnyH_take (i := 24) (v := .bool false) rfl (by kernel_rfl) (by kernel_rfl) (by kernel_rfl) (fun _ _ _ h => h) (Or.inl ⟨by rfl, ?_⟩) (by assumption) ?_
          · intro w' hSw
            go_simp
            try first | omega | (intro h9; rw [h9] at l1; simp at l1; done)
          try simp only [Act.put, List.setIfInBounds_toArray, List.set_cons_zero, List.set_cons_succ, List.getElem_toArray, List.getElem_cons_succ, List.getElem_cons_zero]
          refine wpAnyH_take (i := 25) (v := .bool false) rfl (by kernel_rfl) (by kernel_rfl) (by kernel_rfl) (fun _ _ _ h => h) (Or.inl ⟨by rfl, ?_⟩) (by assumption) ?_
          · intro w' hSw
            go_simp
            try first | omega | (intro h9; rw [h9] at l1; simp at l1; done)
          try simp only [Act.put, List.setIfInBounds_toArray, List.set_cons_zero, List.set_cons_succ, List.getElem_toArray, List.getElem_cons_succ, List.getElem_cons_zero]
          refine wpAnyH_take (i := 26) (v := ?_) rfl (by kernel_rfl) (by kernel_rfl) (by kernel_rfl) (fun _ _ _ h => h) (Or.inl ⟨by rfl, ?_⟩) (by assumption) ?_
          rotate_left
          · intro w' hSw
            go_simp
            try with_reducible rfl
          try simp only [Act.put, List.setIfInBounds_toArray, List.set_cons_zero, List.set_cons_succ, List.getElem_toArray, List.getElem_cons_succ, List.getElem_cons_zero]
          refine wpAnyH_take (i := 27) (v := ?_) rfl (by kernel_rfl) (by kernel_rfl) (by kernel_rfl) (fun _ _ _ h => h) (Or.inl ⟨by rfl, ?_⟩) (by assumption) ?_
          rotate_left
          · intro w' hSw
            have cC : w'.cell? ⟨g4, 0, none⟩ = some (.int .i64 ((j + 1 : Nat) : Int)) := cell_far hSw HC.out (fun h => h)
            go_simp
            try with_reducible rfl
          try simp only [Act.put, List.setIfInBounds_toArray, List.set_cons_zero, List.set_cons_succ, List.getElem_toArray, List.getElem_cons_succ, List.getElem_cons_zero]
          refine wpAnyH_take (i := 28) (v := .bool true) rfl (by kernel_rfl) (by kernel_rfl) (by kernel_rfl) (fun _ _ _ h => h) (Or.inl ⟨by rfl, ?_⟩) (by assumption) ?_
          · intro w' hSw
            go_simp
            try first | omega | (intro h9; rw [h9] at l1; simp at l1; done)
          try simp only [Act.put, List.setIfInBounds_toArray, List.set_cons_zero, List.set_cons_succ, List.getElem_toArray, List.getElem_cons_succ, List.getElem_cons_zero]
          refine wpAnyH_take (i := 29) (v := .bool true) rfl (by kernel_rfl) (by kernel_rfl) (by kernel_rfl) (fun _ _ _ h => h) (Or.inl ⟨by rfl, ?_⟩) (by assumption) ?_
          · intro w' hSw
            go_simp
            try first | omega | (intro h9; rw [h9] at l1; simp at l1; done)
          try simp only [Act.put, List.setIfInBounds_toArray, List.set_cons_zero, List.set_cons_succ, List.getElem_toArray, List.getElem_cons_succ, List.getElem_cons_zero]
          refine wpAnyH_take (i := 30) (v := _) rfl (by kernel_rfl) (by kernel_rfl) (by kernel_rfl) (fun _ _ _ h => h) ((yields_blk 25 _ w.heap.size 0 25 (zoneC v) (zoneC v) _ (by rfl) rfl (by rfl) (fun w' hSw => hSw.blk HB6.out (fun h => h)) Tryd.underlying25 rfl (infoZn _) (zero_part _))) (by assumption) ?_
          try simp only [Act.put, List.setIfInBounds_toArray, List.set_cons_zero, List.set_cons_succ, List.getElem_toArray, List.getElem_cons_succ, List.getElem_cons_zero]
          refine wpAnyH_take (i := 32) (v := ?_) rfl (by kernel_rfl) (by kernel_rfl) (by kernel_rfl) (fun _ _ _ h => h) (Or.inl ⟨by rfl, ?_⟩) (by assumption) ?_
          rotate_left
          · intro w' hSw
            go_simp
            try with_reducible rfl
          try simp only [Act.put, List.setIfInBounds_toArray, List.set_cons_zero, List.set_cons_succ, List.getElem_toArray, List.getElem_cons_succ, List.getElem_cons_zero]
          refine wpAnyH_take (i := 33) (v := ?_) rfl (by kernel_rfl) (by kernel_rfl) (by kernel_rfl) (fun _ _ _ h => h) (Or.inl ⟨by rfl, ?_⟩) (by assumption) ?_
          rotate_left
          · intro w' hSw
            have cC : w'.cell? ⟨g4, 0, none⟩ = some (.int .i64 ((j + 1 : Nat) : Int)) := cell_far hSw HC.out (fun h => h)
            go_simp
            try with_reducible rfl
          try simp only [Act.put, List.setIfInBounds_toArray, List.set_cons_zero, List.set_cons_succ, List.getElem_toArray, List.getElem_cons_succ, List.getElem_cons_zero]
          refine wpAnyH_take (i := 34) (v := ?_) rfl (by kernel_rfl) (by kernel_rfl) (by kernel_rfl) (fun _ _ _ h => h) (Or.inl ⟨by rfl, ?_⟩) (by assumption) ?_
          rotate_left
          · intro w' hSw
            go_simp
            try with_reducible rfl
          try simp only [Act.put, List.setIfInBounds_toArray, List.set_cons_zero, List.set_cons_succ, List.getElem_toArray, List.getElem_cons_succ, List.getElem_cons_zero]
          refine wpAnyH_take (i := 36) (v := ?_) rfl (by kernel_rfl) (by kernel_rfl) (by kernel_rfl) (fun _ _ _ h => h) (Or.inl ⟨by rfl, ?_⟩) (by assumption) ?_
          rotate_left
          · intro w' hSw
            go_simp
            try with_reducible rfl
          try simp only [Act.put, List.setIfInBounds_toArray, List.set_cons_zero, List.set_cons_succ, List.getElem_toArray, List.getElem_cons_succ, List.getElem_cons_zero]
          refine wpAnyH_ready (rs := [31]) (by kernel_rfl) (by simp) ?_
          refine AllReadyH.cons rfl (fun K hK => ?_) AllReadyH.nil
          go_simp
          refine (zOwn_any v _).mono ?_
          rintro e w31 ⟨rfl, hf31⟩
          refine hK.out _ _ (ff4 hHeld hf31) (fun hHeld2 => ?_)
          clear hK K hHeld hf31
          rename_i hHeld2
          have hHeld := hHeld2
          clear hHeld2
          try simp only [Act.put, List.setIfInBounds_toArray, List.set_cons_zero, List.set_cons_succ, List.getElem_toArray, List.getElem_cons_succ, List.getElem_cons_zero]
          refine wpAnyH_ready (rs := [35]) (by kernel_rfl) (by simp) ?_
          refine AllReadyH.cons rfl (fun K hK => ?_) AllReadyH.nil
          go_simp
          refine (HE2.out _ (ff4 HF6.out hHeld)).mono ?_
          rintro e w35 ⟨rfl, hf35⟩
          refine hK.out _ _ (ff4 hHeld hf35) (fun hHeld2 => ?_)
          clear hK K hHeld hf35
          rename_i hHeld2
          have hHeld := hHeld2
          clear hHeld2
          try simp only [Act.put, List.setIfInBounds_toArray, List.set_cons_zero, List.set_cons_succ, List.getElem_toArray, List.getElem_cons_succ, List.getElem_cons_zero]
          refine wpAnyH_take (i := 37) (v := .bool false) rfl (by kernel_rfl) (by kernel_rfl) (by kernel_rfl) (fun _ _ _ h => h) (Or.inl ⟨by rfl, ?_⟩) (by assumption) ?_
          · intro w' hSw
            go_simp
            try first | omega | (intro h9; rw [h9] at l1; simp at l1; done)
          try simp only [Act.put, List.setIfInBounds_toArray, List.set_cons_zero, List.set_cons_succ, List.getElem_toArray, List.getElem_cons_succ, List.getElem_cons_zero]
          refine wpAnyH_take (i := 38) (v := .bool false) rfl (by kernel_rfl) (by kernel_rfl) (by kernel_rfl) (fun _ _ _ h => h) (Or.inl ⟨by rfl, ?_⟩) (by assumption) ?_
          · intro w' hSw
            go_simp
            try first | omega | (intro h9; rw [h9] at l1; simp at l1; done)
          try simp only [Act.put, List.setIfInBounds_toArray, List.set_cons_zero, List.set_cons_succ, List.getElem_toArray, List.getElem_cons_succ, List.getElem_cons_zero]
          refine wpAnyH_take (i := 39) (v := .bool false) rfl (by kernel_rfl) (by kernel_rfl) (by kernel_rfl) (fun _ _ _ h => h) (Or.inl ⟨by rfl, ?_⟩) (by assumption) ?_
          · intro w' hSw
            go_simp
            try first | omega | (intro h9; rw [h9] at l1; simp at l1; done)
          try simp only [Act.put, List.setIfInBounds_toArray, List.set_cons_zero, List.set_cons_succ, List.getElem_toArray, List.getElem_cons_succ, List.getElem_cons_zero]
          refine wpAnyH_done (by kernel_rfl) ?_ _
          have HFh := Lib.hid (ff4 HF6.out hHeld)
          have HBh := Lib.hid (hHeld.blk HB6.out (fun h => h))
          have HSh := Lib.hid (hHeld.blk HS6.out (fun h => h))
          clear hHeld
          go_wp2_with (
            ((with_reducible refine at_load4 25 ?_); refine wpList_load_blk 25 _ w.heap.size 0 25 (zoneC v) (zoneC v) _ (by rfl) rfl rfl HBh.out Tryd.underlying25 rfl (infoZn _) (zero_part _) ?_))
          refine (zOwn_any v _).mono ?_
          rintro e w13 ⟨rfl, hf13⟩
          have HF13 := Lib.hid (ff4 HFh.out hf13)
          have HS13 := Lib.hid (hf13.blk HSh.out (fun h => h))
          clear hf13
          go_wp2_with fail
          refine (HN2.out w13 HF13.out).mono ?_
          rintro e w14 ⟨rfl, hf14⟩
          have HF14 := Lib.hid (ff4 HF13.out hf14)
          have HS14 := Lib.hid (hf14.blk HS13.out (fun h => h))
          have n15 := Fr.new w14 (.cells (stateC st0) 29) (fun _ => False)
          have HF15 := Lib.hid (ff4 HF14.out n15)
          have HS15 := Lib.hid (n15.blk HS14.out (fun h => h))
          have HT15 := Lib.hid (Blk.made w14 29 (stateC st0))
          clear hf14 n15
          rcases HFin.out with hk2 | ⟨hk2, m, hm, him⟩
          · have hk3 : (k2 == 0) = false := beq_eq_false_iff_ne.2 hk2
            have hk4 : (k2 != 0) = true := bne_iff_ne.2 hk2
            clear hk2
            go_wp2_with (
              ((with_reducible refine at_store4 29 ?_); refine wpList_store_blk 29 _ _ w14.heap.size 0 29 (stateC st0) (stateC s2) (stateC s2) (by rfl) rfl rfl rfl rfl HT15.out (infoDs _) (stateC_one _) (show 0 + 3 ≤ 3 by decide) (put_st _ _) ?_
               intro W16 hf16 hb16
               have HF16 := Lib.hid (HF15.out.fresh hf16 (fun i e => by have e : i = w14.heap.size := e; have := HF14.out.size; omega))
               have hs16 := hf16.blk HS15.out (fun e => by have e : g4 = w14.heap.size := e; have := HS14.out.lt; omega)
               have p0 : W16.cell? ⟨g4, 0, none⟩ = some (.int .i64 ((j + 1 : Nat) : Int)) := blkc hs16 0 _ rfl
               have p1 : W16.cell? ⟨w14.heap.size, 0, none⟩ = some (.int .i64 s2.era) := blkc hb16 0 _ rfl
               clear hf16 hb16 hs16))
            refine (HAl.out W16 HF16.out).mono ?_
            rintro e w17 ⟨rfl, hf17⟩
            have HF17 := Lib.hid (ff4 HF16.out hf17)
            clear hf17
            go_wp2_with fail
            go_ret
            exact ⟨rfl, HF17.out⟩
          · subst hk2
            have him2 : ((j : Int) + 1) ≤ (m : Int) := by omega
            have HMe := Lib.hid hm
            clear hm
            go_wp2_with (
              ((with_reducible refine at_store4 29 ?_); refine wpList_store_blk 29 _ _ w14.heap.size 0 29 (stateC st0) (stateC s2) (stateC s2) (by rfl) rfl rfl rfl rfl HT15.out (infoDs _) (stateC_one _) (show 0 + 3 ≤ 3 by decide) (put_st _ _) ?_
               intro W16 hf16 hb16
               have HF16 := Lib.hid (HF15.out.fresh hf16 (fun i e => by have e : i = w14.heap.size := e; have := HF14.out.size; omega))
               have hs16 := hf16.blk HS15.out (fun e => by have e : g4 = w14.heap.size := e; have := HS14.out.lt; omega)
               have p0 : W16.cell? ⟨g4, 0, none⟩ = some (.int .i64 ((j + 1 : Nat) : Int)) := blkc hs16 0 _ rfl
               have p1 : W16.cell? ⟨w14.heap.size, 0, none⟩ = some (.int .i64 s2.era) := blkc hb16 0 _ rfl
               rw [HMe.out] at p1
               clear hf16 hb16 hs16))
            refine (HAl.out W16 HF16.out).mono ?_
            rintro e w17 ⟨rfl, hf17⟩
            have HF17 := Lib.hid (ff4 HF16.out hf17)
            clear hf17
            go_wp2_with fail
            go_ret
            exact ⟨rfl, HF17.out⟩
        · obtain rfl : i = 0 := by omega
          have d5 : decide (0 < 0) = false := rfl
          clear b2
          refine wp_region_held_drew (S := fun w' => Fr W w' (fun _ => False)) (by kernel_rfl) (Fr.drew W _) (fun hHeld => ?_)
          refine wpAnyH_take (i := 0) (v := ?_) rfl (by kernel_rfl) (by kernel_rfl) (by kernel_rfl) (fun _ _ _ h => h) (Or.inl ⟨by rfl, ?_⟩) (by assumption) ?_
          rotate_left
          · intro w' hSw
            go_simp
            try with_reducible rfl
          try simp only [Act.put, List.setIfInBounds_toArray, List.set_cons_zero, List.set_cons_succ, List.getElem_toArray, List.getElem_cons_zero]
          refine wpAnyH_take (i := 1) (v := ?_) rfl (by kernel_rfl) (by kernel_rfl) (by kernel_rfl) (fun _ _ _ h => h) (Or.inl ⟨by rfl, ?_⟩) (by assumption) ?_
          rotate_left
          · intro w' hSw
            have cC : w'.cell? ⟨g4, 0, none⟩ = some (.int .i64 ((0 : Nat) : Int)) := cell_far hSw HC.out (fun h => h)
            go_simp
            try with_reducible rfl
          try simp only [Act.put, List.setIfInBounds_toArray, List.set_cons_zero, List.set_cons_succ, List.getElem_toArray, List.getElem_cons_succ, List.getElem_cons_zero]
          refine wpAnyH_take (i := 2) (v := .bool false) rfl (by kernel_rfl) (by kernel_rfl) (by kernel_rfl) (fun _ _ _ h => h) (Or.inl ⟨by rfl, ?_⟩) (by assumption) ?_
          · intro w' hSw
            go_simp
            try first | omega | (intro h9; rw [h9] at l1; simp at l1; done)
          try simp only [Act.put, List.setIfInBounds_toArray, List.set_cons_zero, List.set_cons_succ, List.getElem_toArray, List.getElem_cons_succ, List.getElem_cons_zero]
          refine wpAnyH_take (i := 3) (v := .bool false) rfl (by kernel_rfl) (by kernel_rfl) (by kernel_rfl) (fun _ _ _ h => h) (Or.inl ⟨by rfl, ?_⟩) (by assumption) ?_
          · intro w' hSw
            go_simp
            try first | omega | (intro h9; rw [h9] at l1; simp at l1; done)
          try simp only [Act.put, List.setIfInBounds_toArray, List.set_cons_zero, List.set_cons_succ, List.getElem_toArray, List.getElem_cons_succ, List.getElem_cons_zero]
          refine wpAnyH_take (i := 4) (v := ?_) rfl (by kernel_rfl) (by kernel_rfl) (by kernel_rfl) (fun _ _ _ h => h) (Or.inl ⟨by rfl, ?_⟩) (by assumption) ?_
          rotate_left
          · intro w' hSw
            go_simp
            try with_reducible rfl
          try simp only [Act.put, List.setIfInBounds_toArray, List.set_cons_zero, List.set_cons_succ, List.getElem_toArray, List.getElem_cons_succ, List.getElem_cons_zero]
          refine wpAnyH_take (i := 5) (v := ?_) rfl (by kernel_rfl) (by kernel_rfl) (by kernel_rfl) (fun _ _ _ h => h) (Or.inl ⟨by rfl, ?_⟩) (by assumption) ?_
          rotate_left
          · intro w' hSw
            have cC : w'.cell? ⟨g4, 0, none⟩ = some (.int .i64 ((0 : Nat) : Int)) := cell_far hSw HC.out (fun h => h)
            go_simp
            try with_reducible rfl
          try simp only [Act.put, List.setIfInBounds_toArray, List.set_cons_zero, List.set_cons_succ, List.getElem_toArray, List.getElem_cons_succ, List.getElem_cons_zero]
          refine wpAnyH_take (i := 6) (v := ?_) rfl (by kernel_rfl) (by kernel_rfl) (by kernel_rfl) (fun _ _ _ h => h) (Or.inl ⟨by rfl, ?_⟩) (by assumption) ?_
          rotate_left
          · intro w' hSw
            go_simp
            try with_reducible rfl
          try simp only [Act.put, List.setIfInBounds_toArray, List.set_cons_zero, List.set_cons_succ, List.getElem_toArray, List.getElem_cons_succ, List.getElem_cons_zero]
          refine wpAnyH_take (i := 7) (v := .bool false) rfl (by kernel_rfl) (by kernel_rfl) (by kernel_rfl) (fun _ _ _ h => h) (Or.inl ⟨by rfl, ?_⟩) (by assumption) ?_
          · intro w' hSw
            go_simp
            try first | omega | (intro h9; rw [h9] at l1; simp at l1; done)
          try simp only [Act.put, List.setIfInBounds_toArray, List.set_cons_zero, List.set_cons_succ, List.getElem_toArray, List.getElem_cons_succ, List.getElem_cons_zero]
          refine wpAnyH_take (i := 8) (v := .bool false) rfl (by kernel_rfl) (by kernel_rfl) (by kernel_rfl) (fun _ _ _ h => h) (Or.inl ⟨by rfl, ?_⟩) (by assumption) ?_
          · intro w' hSw
            go_simp
            try first | omega | (intro h9; rw [h9] at l1; simp at l1; done)
          try simp only [Act.put, List.setIfInBounds_toArray, List.set_cons_zero, List.set_cons_succ, List.getElem_toArray, List.getElem_cons_succ, List.getElem_cons_zero]
          refine wpAnyH_take (i := 9) (v := .bool false) rfl (by kernel_rfl) (by kernel_rfl) (by kernel_rfl) (fun _ _ _ h => h) (Or.inl ⟨by rfl, ?_⟩) (by assumption) ?_
          · intro w' hSw
            go_simp
            try first | omega | (intro h9; rw [h9] at l1; simp at l1; done)
          try simp only [Act.put, List.setIfInBounds_toArray, List.set_cons_zero, List.set_cons_succ, List.getElem_toArray, List.getElem_cons_succ, List.getElem_cons_zero]
          refine wpAnyH_take (i := 10) (v := ?_) rfl (by kernel_rfl) (by kernel_rfl) (by kernel_rfl) (fun _ _ _ h => h) (Or.inl ⟨by rfl, ?_⟩) (by assumption) ?_
          rotate_left
          · intro w' hSw
            go_simp
            try with_reducible rfl
          try simp only [Act.put, List.setIfInBounds_toArray, List.set_cons_zero, List.set_cons_succ, List.getElem_toArray, List.getElem_cons_succ, List.getElem_cons_zero]
          refine wpAnyH_take (i := 11) (v := ?_) rfl (by kernel_rfl) (by kernel_rfl) (by kernel_rfl) (fun _ _ _ h => h) (Or.inl ⟨by rfl, ?_⟩) (by assumption) ?_
          rotate_left
          · intro w' hSw
            have cC : w'.cell? ⟨g4, 0, none⟩ = some (.int .i64 ((0 : Nat) : Int)) := cell_far hSw HC.out (fun h => h)
            go_simp
            try with_reducible rfl
          try simp only [Act.put, List.setIfInBounds_toArray, List.set_cons_zero, List.set_cons_succ, List.getElem_toArray, List.getElem_cons_succ, List.getElem_cons_zero]
          refine wpAnyH_take (i := 12) (v := ?_) rfl (by kernel_rfl) (by kernel_rfl) (by kernel_rfl) (fun _ _ _ h => h) (Or.inl ⟨by rfl, ?_⟩) (by assumption) ?_
          rotate_left
          · intro w' hSw
            go_simp
            try with_reducible rfl
          try simp only [Act.put, List.setIfInBounds_toArray, List.set_cons_zero, List.set_cons_succ, List.getElem_toArray, List.getElem_cons_succ, List.getElem_cons_zero]
          refine wpAnyH_take (i := 13) (v := ?_) rfl (by kernel_rfl) (by kernel_rfl) (by kernel_rfl) (fun _ _ _ h => h) (Or.inl ⟨by rfl, ?_⟩) (by assumption) ?_
          rotate_left
          · intro w' hSw
            go_simp
            try with_reducible rfl
          try simp only [Act.put, List.setIfInBounds_toArray, List.set_cons_zero, List.set_cons_succ, List.getElem_toArray, List.getElem_cons_succ, List.getElem_cons_zero]
          refine wpAnyH_take (i := 14) (v := .bool false) rfl (by kernel_rfl) (by kernel_rfl) (by kernel_rfl) (fun _ _ _ h => h) (Or.inl ⟨by rfl, ?_⟩) (by assumption) ?_
          · intro w' hSw
            go_simp
            try first | omega | (intro h9; rw [h9] at l1; simp at l1; done)
          try simp only [Act.put, List.setIfInBounds_toArray, List.set_cons_zero, List.set_cons_succ, List.getElem_toArray, List.getElem_cons_succ, List.getElem_cons_zero]
          refine wpAnyH_take (i := 15) (v := .bool false) rfl (by kernel_rfl) (by kernel_rfl) (by kernel_rfl) (fun _ _ _ h => h) (Or.inl ⟨by rfl, ?_⟩) (by assumption) ?_
          · intro w' hSw
            go_simp
            try first | omega | (intro h9; rw [h9] at l1; simp at l1; done)
          try simp only [Act.put, List.setIfInBounds_toArray, List.set_cons_zero, List.set_cons_succ, List.getElem_toArray, List.getElem_cons_succ, List.getElem_cons_zero]
          refine wpAnyH_take (i := 16) (v := undef) rfl (by kernel_rfl) (by kernel_rfl) (by kernel_rfl) (fun _ _ _ h => h) (Or.inr ⟨by rfl, rfl⟩) (by assumption) ?_
          try simp only [Act.put, List.setIfInBounds_toArray, List.set_cons_zero, List.set_cons_succ, List.getElem_toArray, List.getElem_cons_succ, List.getElem_cons_zero]
          refine wpAnyH_take (i := 17) (v := undef) rfl (by kernel_rfl) (by kernel_rfl) (by kernel_rfl) (fun _ _ _ h => h) (Or.inr ⟨by rfl, rfl⟩) (by assumption) ?_
          try simp only [Act.put, List.setIfInBounds_toArray, List.set_cons_zero, List.set_cons_succ, List.getElem_toArray, List.getElem_cons_succ, List.getElem_cons_zero]
          refine wpAnyH_take (i := 18) (v := undef) rfl (by kernel_rfl) (by kernel_rfl) (by kernel_rfl) (fun _ _ _ h => h) (Or.inr ⟨by rfl, rfl⟩) (by assumption) ?_
          try simp only [Act.put, List.setIfInBounds_toArray, List.set_cons_zero, List.set_cons_succ, List.getElem_toArray, List.getElem_cons_succ, List.getElem_cons_zero]
          refine wpAnyH_take (i := 19) (v := undef) rfl (by kernel_rfl) (by kernel_rfl) (by kernel_rfl) (fun _ _ _ h => h) (Or.inr ⟨by rfl, rfl⟩) (by assumption) ?_
          try simp only [Act.put, List.setIfInBounds_toArray, List.set_cons_zero, List.set_cons_succ, List.getElem_toArray, List.getElem_cons_succ, List.getElem_cons_zero]
          refine wpAnyH_take (i := 20) (v := undef) rfl (by kernel_rfl) (by kernel_rfl) (by kernel_rfl) (fun _ _ _ h => h) (Or.inr ⟨by rfl, rfl⟩) (by assumption) ?_
          try simp only [Act.put, List.setIfInBounds_toArray, List.set_cons_zero, List.set_cons_succ, List.getElem_toArray, List.getElem_cons_succ, List.getElem_cons_zero]
          refine wpAnyH_take (i := 21) (v := undef) rfl (by kernel_rfl) (by kernel_rfl) (by kernel_rfl) (fun _ _ _ h => h) (Or.inr ⟨by rfl, rfl⟩) (by assumption) ?_
          try simp only [Act.put, List.setIfInBounds_toArray, List.set_cons_zero, List.set_cons_succ, List.getElem_toArray, List.getElem_cons_succ, List.getElem_cons_zero]
          refine wpAnyH_take (i := 22) (v := undef) rfl (by kernel_rfl) (by kernel_rfl) (by kernel_rfl) (fun _ _ _ h => h) (Or.inr ⟨by rfl, rfl⟩) (by assumption) ?_
          try simp only [Act.put, List.setIfInBounds_toArray, List.set_cons_zero, List.set_cons_succ, List.getElem_toArray, List.getElem_cons_succ, List.getElem_cons_zero]
          refine wpAnyH_take (i := 23) (v := .bool false) rfl (by kernel_rfl) (by kernel_rfl) (by kernel_rfl) (fun _ _ _ h => h) (Or.inl ⟨by rfl, ?_⟩) (by assumption) ?_
          · intro w' hSw
            go_simp
            try first | omega | (intro h9; rw [h9] at l1; simp at l1; done)
          try simp only [Act.put, List.setIfInBounds_toArray, List.set_cons_zero, List.set_cons_succ, List.getElem_toArray, List.getElem_cons_succ, List.getElem_cons_zero]
          refine wpAnyH_take (i := 24) (v := .bool false) rfl (by kernel_rfl) (by kernel_rfl) (by kernel_rfl) (fun _ _ _ h => h) (Or.inl ⟨by rfl, ?_⟩) (by assumption) ?_
          · intro w' hSw
            go_simp
            try first | omega | (intro h9; rw [h9] at l1; simp at l1; done)
          try simp only [Act.put, List.setIfInBounds_toArray, List.set_cons_zero, List.set_cons_succ, List.getElem_toArray, List.getElem_cons_succ, List.getElem_cons_zero]
          refine wpAnyH_take (i := 25) (v := .bool false) rfl (by kernel_rfl) (by kernel_rfl) (by kernel_rfl) (fun _ _ _ h => h) (Or.inl ⟨by rfl, ?_⟩) (by assumption) ?_
          · intro w' hSw
            go_simp
            try first | omega | (intro h9; rw [h9] at l1; simp at l1; done)
          try simp only [Act.put, List.setIfInBounds_toArray, List.set_cons_zero, List.set_cons_succ, List.getElem_toArray, List.getElem_cons_succ, List.getElem_cons_zero]
          refine wpAnyH_take (i := 26) (v := ?_) rfl (by kernel_rfl) (by kernel_rfl) (by kernel_rfl) (fun _ _ _ h => h) (Or.inl ⟨by rfl, ?_⟩) (by assumption) ?_
          rotate_left
          · intro w' hSw
            go_simp
            try with_reducible rfl
          try simp only [Act.put, List.setIfInBounds_toArray, List.set_cons_zero, List.set_cons_succ, List.getElem_toArray, List.getElem_cons_succ, List.getElem_cons_zero]
          refine wpAnyH_take (i := 27) (v := ?_) rfl (by kernel_rfl) (by kernel_rfl) (by kernel_rfl) (fun _ _ _ h => h) (Or.inl ⟨by rfl, ?_⟩) (by assumption) ?_
          rotate_left
          · intro w' hSw
            have cC : w'.cell? ⟨g4, 0, none⟩ = some (.int .i64 ((0 : Nat) : Int)) := cell_far hSw HC.out (fun h => h)
            go_simp
            try with_reducible rfl
          try simp only [Act.put, List.setIfInBounds_toArray, List.set_cons_zero, List.set_cons_succ, List.getElem_toArray, List.getElem_cons_succ, List.getElem_cons_zero]
          refine wpAnyH_take (i := 28) (v := .bool false) rfl (by kernel_rfl) (by kernel_rfl) (by kernel_rfl) (fun _ _ _ h => h) (Or.inl ⟨by rfl, ?_⟩) (by assumption) ?_
          · intro w' hSw
            go_simp
            try first | omega | (intro h9; rw [h9] at l1; simp at l1; done)
          try simp only [Act.put, List.setIfInBounds_toArray, List.set_cons_zero, List.set_cons_succ, List.getElem_toArray, List.getElem_cons_succ, List.getElem_cons_zero]
          refine wpAnyH_take (i := 29) (v := .bool false) rfl (by kernel_rfl) (by kernel_rfl) (by kernel_rfl) (fun _ _ _ h => h) (Or.inl ⟨by rfl, ?_⟩) (by assumption) ?_
          · intro w' hSw
            go_simp
            try first | omega | (intro h9; rw [h9] at l1; simp at l1; done)
          try simp only [Act.put, List.setIfInBounds_toArray, List.set_cons_zero, List.set_cons_succ, List.getElem_toArray, List.getElem_cons_succ, List.getElem_cons_zero]
          refine wpAnyH_take (i := 30) (v := undef) rfl (by kernel_rfl) (by kernel_rfl) (by kernel_rfl) (fun _ _ _ h => h) (Or.inr ⟨by rfl, rfl⟩) (by assumption) ?_
          try simp only [Act.put, List.setIfInBounds_toArray, List.set_cons_zero, List.set_cons_succ, List.getElem_toArray, List.getElem_cons_succ, List.getElem_cons_zero]
          refine wpAnyH_take (i := 31) (v := undef) rfl (by kernel_rfl) (by kernel_rfl) (by kernel_rfl) (fun _ _ _ h => h) (Or.inr ⟨by rfl, rfl⟩) (by assumption) ?_
          try simp only [Act.put, List.setIfInBounds_toArray, List.set_cons_zero, List.set_cons_succ, List.getElem_toArray, List.getElem_cons_succ, List.getElem_cons_zero]
          refine wpAnyH_take (i := 32) (v := undef) rfl (by kernel_rfl) (by kernel_rfl) (by kernel_rfl) (fun _ _ _ h => h) (Or.inr ⟨by rfl, rfl⟩) (by assumption) ?_
          try simp only [Act.put, List.setIfInBounds_toArray, List.set_cons_zero, List.set_cons_succ, List.getElem_toArray, List.getElem_cons_succ, List.getElem_cons_zero]
          refine wpAnyH_take (i := 33) (v := undef) rfl (by kernel_rfl) (by kernel_rfl) (by kernel_rfl) (fun _ _ _ h => h) (Or.inr ⟨by rfl, rfl⟩) (by assumption) ?_
          try simp only [Act.put, List.setIfInBounds_toArray, List.set_cons_zero, List.set_cons_succ, List.getElem_toArray, List.getElem_cons_succ, List.getElem_cons_zero]
          refine wpAnyH_take (i := 34) (v := undef) rfl (by kernel_rfl) (by kernel_rfl) (by kernel_rfl) (fun _ _ _ h => h) (Or.inr ⟨by rfl, rfl⟩) (by assumption) ?_
          try simp only [Act.put, List.setIfInBounds_toArray, List.set_cons_zero, List.set_cons_succ, List.getElem_toArray, List.getElem_cons_succ, List.getElem_cons_zero]
          refine wpAnyH_take (i := 35) (v := undef) rfl (by kernel_rfl) (by kernel_rfl) (by kernel_rfl) (fun _ _ _ h => h) (Or.inr ⟨by rfl, rfl⟩) (by assumption) ?_
          try simp only [Act.put, List.setIfInBounds_toArray, List.set_cons_zero, List.set_cons_succ, List.getElem_toArray, List.getElem_cons_succ, List.getElem_cons_zero]
          refine wpAnyH_take (i := 36) (v := undef) rfl (by kernel_rfl) (by kernel_rfl) (by kernel_rfl) (fun _ _ _ h => h) (Or.inr ⟨by rfl, rfl⟩) (by assumption) ?_
          try simp only [Act.put, List.setIfInBounds_toArray, List.set_cons_zero, List.set_cons_succ, List.getElem_toArray, List.getElem_cons_succ, List.getElem_cons_zero]
          refine wpAnyH_take (i := 37) (v := undef) rfl (by kernel_rfl) (by kernel_rfl) (by kernel_rfl) (fun _ _ _ h => h) (Or.inr ⟨by rfl, rfl⟩) (by assumption) ?_
          try simp only [Act.put, List.setIfInBounds_toArray, List.set_cons_zero, List.set_cons_succ, List.getElem_toArray, List.getElem_cons_succ, List.getElem_cons_zero]
          refine wpAnyH_take (i := 38) (v := .bool false) rfl (by kernel_rfl) (by kernel_rfl) (by kernel_rfl) (fun _ _ _ h => h) (Or.inl ⟨by rfl, ?_⟩) (by assumption) ?_
          · intro w' hSw
            go_simp
            try first | omega | (intro h9; rw [h9] at l1; simp at l1; done)
          try simp only [Act.put, List.setIfInBounds_toArray, List.set_cons_zero, List.set_cons_succ, List.getElem_toArray, List.getElem_cons_succ, List.getElem_cons_zero]
          refine wpAnyH_take (i := 39) (v := .bool false) rfl (by kernel_rfl) (by kernel_rfl) (by kernel_rfl) (fun _ _ _ h => h) (Or.inl ⟨by rfl, ?_⟩) (by assumption) ?_
          · intro w' hSw
            go_simp
            try first | omega | (intro h9; rw [h9] at l1; simp at l1; done)
          try simp only [Act.put, List.setIfInBounds_toArray, List.set_cons_zero, List.set_cons_succ, List.getElem_toArray, List.getElem_cons_succ, List.getElem_cons_zero]
          refine wpAnyH_done (by kernel_rfl) ?_ _
          have HFh := Lib.hid (ff4 HF6.out hHeld)
          have HBh := Lib.hid (hHeld.blk HB6.out (fun h => h))
          have HSh := Lib.hid (hHeld.blk HS6.out (fun h => h))
          clear hHeld
          go_wp2_with (
            ((with_reducible refine at_load4 25 ?_); refine wpList_load_blk 25 _ w.heap.size 0 25 (zoneC v) (zoneC v) _ (by rfl) rfl rfl HBh.out Tryd.underlying25 rfl (infoZn _) (zero_part _) ?_))
          refine (zOwn_any v _).mono ?_
          rintro e w13 ⟨rfl, hf13⟩
          have HF13 := Lib.hid (ff4 HFh.out hf13)
          have HS13 := Lib.hid (hf13.blk HSh.out (fun h => h))
          clear hf13
          go_wp2_with fail
          refine (HN2.out w13 HF13.out).mono ?_
          rintro e w14 ⟨rfl, hf14⟩
          have HF14 := Lib.hid (ff4 HF13.out hf14)
          have HS14 := Lib.hid (hf14.blk HS13.out (fun h => h))
          have n15 := Fr.new w14 (.cells (stateC st0) 29) (fun _ => False)
          have HF15 := Lib.hid (ff4 HF14.out n15)
          have HS15 := Lib.hid (n15.blk HS14.out (fun h => h))
          have HT15 := Lib.hid (Blk.made w14 29 (stateC st0))
          clear hf14 n15
          rcases HFin.out with hk2 | ⟨hk2, m, hm, him⟩
          · have hk3 : (k2 == 0) = false := beq_eq_false_iff_ne.2 hk2
            have hk4 : (k2 != 0) = true := bne_iff_ne.2 hk2
            clear hk2
            go_wp2_with (
              ((with_reducible refine at_store4 29 ?_); refine wpList_store_blk 29 _ _ w14.heap.size 0 29 (stateC st0) (stateC s2) (stateC s2) (by rfl) rfl rfl rfl rfl HT15.out (infoDs _) (stateC_one _) (show 0 + 3 ≤ 3 by decide) (put_st _ _) ?_
               intro W16 hf16 hb16
               have HF16 := Lib.hid (HF15.out.fresh hf16 (fun i e => by have e : i = w14.heap.size := e; have := HF14.out.size; omega))
               have hs16 := hf16.blk HS15.out (fun e => by have e : g4 = w14.heap.size := e; have := HS14.out.lt; omega)
               have p0 : W16.cell? ⟨g4, 0, none⟩ = some (.int .i64 ((0 : Nat) : Int)) := blkc hs16 0 _ rfl
               have p1 : W16.cell? ⟨w14.heap.size, 0, none⟩ = some (.int .i64 s2.era) := blkc hb16 0 _ rfl
               clear hf16 hb16 hs16))
            refine (HAl.out W16 HF16.out).mono ?_
            rintro e w17 ⟨rfl, hf17⟩
            have HF17 := Lib.hid (ff4 HF16.out hf17)
            clear hf17
            go_wp2_with fail
            go_ret
            exact ⟨rfl, HF17.out⟩
          · subst hk2
            have him2 : (0) ≤ (m : Int) := by omega
            have HMe := Lib.hid hm
            clear hm
            go_wp2_with (
              ((with_reducible refine at_store4 29 ?_); refine wpList_store_blk 29 _ _ w14.heap.size 0 29 (stateC st0) (stateC s2) (stateC s2) (by rfl) rfl rfl rfl rfl HT15.out (infoDs _) (stateC_one _) (show 0 + 3 ≤ 3 by decide) (put_st _ _) ?_
               intro W16 hf16 hb16
               have HF16 := Lib.hid (HF15.out.fresh hf16 (fun i e => by have e : i = w14.heap.size := e; have := HF14.out.size; omega))
               have hs16 := hf16.blk HS15.out (fun e => by have e : g4 = w14.heap.size := e; have := HS14.out.lt; omega)
               have p0 : W16.cell? ⟨g4, 0, none⟩ = some (.int .i64 ((0 : Nat) : Int)) := blkc hs16 0 _ rfl
               have p1 : W16.cell? ⟨w14.heap.size, 0, none⟩ = some (.int .i64 s2.era) := blkc hb16 0 _ rfl
               rw [HMe.out] at p1
               clear hf16 hb16 hs16))
            refine (HAl.out W16 HF16.out).mono ?_
            rintro e w17 ⟨rfl, hf17⟩
            have HF17 := Lib.hid (ff4 HF16.out hf17)
            clear hf17
            go_wp2_with fail
            go_ret
            exact ⟨rfl, HF17.out⟩
    · have h0 := atD_zero HSK.out hk
      subst h0
      have hk1 : (k == 0) = false := beq_eq_false_iff_ne.2 hk
      clear hk
      go_enter Tryd.func3, Tryd.ntmps3
      go_wp2_with (
        ((with_reducible refine at_load4 25 ?_); refine wpList_load_blk 25 _ w.heap.size 0 25 (zoneC v) (zoneC v) _ (by rfl) rfl rfl HB1.out Tryd.underlying25 rfl (infoZn _) (zero_part _) ?_))
      refine (HLt.out _ HF1.out).mono ?_
      rintro e w2 ⟨rfl, hf2⟩
      have HF2 := Lib.hid (ff4 HF1.out hf2)
      have HB2 := Lib.hid (hf2.blk HB1.out (fun h => h))
      clear hf2
      go_wp2_with (
        ((with_reducible refine at_load4 25 ?_); refine wpList_load_blk 25 _ w.heap.size 0 25 (zoneC v) (zoneC v) _ (by rfl) rfl rfl HB2.out Tryd.underlying25 rfl (infoZn _) (zero_part _) ?_))
      refine (zOwn_any v w2).mono ?_
      rintro e w3 ⟨rfl, hf3⟩
      have HF3 := Lib.hid (ff4 HF2.out hf3)
      have HB3 := Lib.hid (hf3.blk HB2.out (fun h => h))
      clear hf3
      go_wp2_with fail
      refine (HN.out w3 HF3.out).mono ?_
      rintro e w4 ⟨rfl, hf4⟩
      have HF4 := Lib.hid (ff4 HF3.out hf4)
      have HB4 := Lib.hid (hf4.blk HB3.out (fun h => h))
      have n5 := Fr.new w4 (.cells (stateC st0) 29) (fun _ => False)
      have HF5 := Lib.hid (ff4 HF4.out n5)
      have HS5 := Lib.hid (Blk.made w4 29 (stateC st0))
      have HB5 := Lib.hid (n5.blk HB4.out (fun h => h))
      clear hf4 n5
      go_wp2_with (first
        | ((with_reducible refine at_store4 29 ?_); refine wpList_store_blk 29 _ _ w4.heap.size 0 29 (stateC st0) (stateC st0) (stateC st0) (by rfl) rfl rfl rfl rfl HS5.out (infoDs _) (stateC_one _) (show 0 + 3 ≤ 3 by decide) (put_st _ _) ?_
           intro W6 hf6 hb6
           have HF6 := Lib.hid (HF5.out.fresh hf6 (fun i e => by have e : i = w4.heap.size := e; have := HF4.out.size; omega))
           have HS6 := Lib.hid hb6
           clear hf6 hb6)
        | ((with_reducible refine at_load4 29 ?_); refine wpList_load_blk 29 _ w4.heap.size 0 29 (stateC st0) (stateC st0) _ (by rfl) rfl rfl HS6.out Tryd.underlying29 rfl (infoDs _) (zero_part _) ?_)
        | ((with_reducible refine at_eql 29 ?_); refine wpList_eql (t := 29) (cs := stateC st0) (ds := stateC st0) (b := true) (by rfl) rfl rfl rfl (guard_state _ _ _ _) (eql_state st0) ?_))
      refine (HAl.out W6 HF6.out).mono ?_
      rintro e w10 ⟨rfl, hf10⟩
      have HF10 := Lib.hid (ff4 HF6.out hf10)
      clear hf10
      go_wp2_with fail
      go_ret
      exact ⟨rfl, HF10.out⟩
  · have h5 : (¬ LightZ v) ∨ (LightZ v ∧ (u < 0 ∨ (0 ≤ u ∧ (1099511627776 < u ∨ (u ≤ 1099511627776 ∧ (1125899906842624 < t ∨ (t ≤ 1125899906842624 ∧ t < -1125899906842624))))))) := by
      by_cases h : LightZ v
      · refine .inr ⟨h, ?_⟩
        have : ¬ (0 ≤ u ∧ u ≤ 1099511627776 ∧ t ≤ 1125899906842624 ∧ -1125899906842624 ≤ t) := fun c => hP ⟨h, c⟩
        omega
      · exact .inl h
    clear hw hv hR hP
    rcases h5 with hP | ⟨hP, k1 | ⟨k1, k2 | ⟨k2, k3 | ⟨k3, k4⟩⟩⟩⟩
    all_goals
      first | rw [decide_eq_true hP] at HLt | rw [decide_eq_false hP] at HLt
      clear hP
      go_enter Tryd.func3, Tryd.ntmps3
      go_wp2_with (
        ((with_reducible refine at_load4 25 ?_); refine wpList_load_blk 25 _ w.heap.size 0 25 (zoneC v) (zoneC v) _ (by rfl) rfl rfl HB1.out Tryd.underlying25 rfl (infoZn _) (zero_part _) ?_))
      refine (HLt.out _ HF1.out).mono ?_
      rintro e w2 ⟨rfl, hf2⟩
      have HF2 := Lib.hid (ff4 HF1.out hf2)
      clear hf2
      go_wp2_with fail
      refine (HAl.out w2 HF2.out).mono ?_
      rintro e w3 ⟨rfl, hf3⟩
      have HF3 := Lib.hid (ff4 HF2.out hf3)
      clear hf3
      go_wp2_with fail
      go_ret
      exact ⟨rfl, HF3.out⟩
end Go.Proofs.YtpjmmnhmhjpkkaaDoor
