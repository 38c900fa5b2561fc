import Derived.Test.YtghcfmoagkimaaaGreatDoorYa24
import Derived.Test.YtghcfmoagkimaaaGreatDoorYa31
namespace Go.Proofs.YtghcfmoagkimaaaGreatDoor
open Go.RowKit Go.Mem Go.Lin Go.Fmx Go.Den

theorem of_kinds {e : EraL} {s : StateD} {x : LocD} {k : Int} (h : ofD16 e s = (x, k)) : (k = 0 ∧ x.off = e.off + s.save ∧ x.dst = (s.save != 0) ∧ plainB x.abbr = true) ∨ (x = loc0 ∧ (k = 15 ∨ k = 1)) := by
  unfold ofD16 abbrD at h
  by_cases ho : e.off + s.save < -180000 ∨ 180000 < e.off + s.save
  · rw [if_pos ho] at h
    cases h
    exact .inr ⟨rfl, .inr rfl⟩
  · rw [if_neg ho] at h
    by_cases hp : plainB (abbrT e.format s.letter (e.off + s.save) (s.save != 0)) = true
    · rw [if_pos hp] at h
      cases h
      exact .inl ⟨rfl, rfl, rfl, hp⟩
    · rw [if_neg hp] at h
      cases h
      exact .inr ⟨rfl, .inl rfl⟩
set_option maxHeartbeats 12800000 in
set_option maxRecDepth 100000 in
theorem l16Offsets_any (v : ZnV) (t : Int) (w : World) (hm : MOk w) (hw : S6.WOk w) (hv : ZnAt w v) (hR : ZnR v) (ht : inR t) :
    Calls Tryz.prog 4 #[.agg (zoneC v), intV t] w fun e w' => e = .returned (.bool true) ∧ Fr w w' (fun _ => False) := by
  have HF1 := Lib.hid (Fr.new w (.cells (zoneC v) 25) (fun _ => False))
  have HB1 := Lib.hid (Blk.made w 25 (zoneC v))
  have HAl := Lib.hid (fun W (g : Fr w W (fun _ => False)) => l16alive_any W (hm.fr g))
  have HLt := Lib.hid (fun W (f : Fr w W (fun _ => False)) => zLight_any v W (hv.kept f) hR)
  by_cases hP : LightZ v
  · have HN := Lib.hid (fun W (f : Fr w W (fun _ => False)) => nAt_any v t W (hw.fr f) (hv.kept f) hR hP.weak ht)
    have HZ := Lib.hid (fun W (f : Fr w W (fun _ => False)) => f16At_any v t W (hm.fr f) (hw.fr f) (hv.kept f) hR hP ht)
    have HSt := Lib.hid (at_state (t := t) hP.v hR)
    have HIn := Lib.hid (fun i e s => at16_in (v := v) (t := t) (i := i) (e := e) (s := s))
    have HBad := Lib.hid (at16_bad (v := v) (t := t))
    have HV := Lib.hid hv
    rw [decide_eq_true hP] at HLt
    clear hm hw hv hR hP
    by_cases hk : (atD (znD v) t).2 = 0
    · obtain ⟨i, e, s, he, hat, hsi, hsl, hs1, hs2, hok⟩ := HSt.out hk
      have HR := HIn.out i e s he hat hsi
      obtain ⟨x, k, hxk⟩ : ∃ x k, ofD16 e s = (x, k) := ⟨_, _, rfl⟩
      have hkinds := of_kinds hxk
      have HN := Lib.hid (fun W (f : Fr w W (fun _ => False)) => (show Calls Tryz.prog 10 #[.agg (zoneC v), intV t] W fun q w' => q = .returned (.tuple #[stateV s, intV 0]) ∧ Fr W w' (fun _ => False) by have h := HN.out W f; rw [hat] at h; exact h))
      have HZ := Lib.hid (fun W (f : Fr w W (fun _ => False)) => (show Calls Tryz.prog 7 #[.agg (zoneC v), intV t] W fun q w' => q = .returned (.tuple #[locV x, intV k]) ∧ Fr W w' (fun _ => False) by have h := HZ.out W f; rw [HR, hxk] at h; exact h))
      have HEr := Lib.hid he
      have HSi := Lib.hid hsi
      have i1 : (i : Int) < (v.eras.length : Int) := by have := (List.getElem?_eq_some_iff.1 he).1; omega
      have i0 : (0 : Int) ≤ (i : Int) := by omega
      obtain ⟨g1, g2, -, -, -⟩ := hok
      have hwo : IntKind.i64.wrap (e.off + s.save) = e.off + s.save := by rw [IntKind.wrap_i64]; omega
      clear hk he hat hsi hsl HR hxk HSt HIn HBad g1 g2 hs1 hs2
      rcases hkinds with ⟨hk0, x1, x2, x3⟩ | ⟨rfl, hk15⟩
      · obtain ⟨x0, xd, xa⟩ := x
        subst hk0
        replace x1 : x0 = e.off + s.save := x1
        replace x2 : xd = (s.save != 0) := x2
        replace x3 : plainB xa = true := x3
        subst x1
        obtain ⟨b, hb⟩ : ∃ b, (s.save != 0) = b := ⟨_, rfl⟩
        rw [hb] at x2
        subst x2
        have HPl := Lib.hid (fun W => (show Calls Tryz.prog 11 #[strV xa] W fun q w' => q = .returned (.bool true) ∧ Fr W w' (fun _ => False) by have h := f16Plain_any xa W (by unfold plainB at x3; rw [Bool.and_eq_true, decide_eq_true_eq] at x3; omega); rw [x3] at h; exact h))
        clear x3
        go_enter Tryz.func4, Tryz.ntmps4
        go_wp2_with ((with_reducible refine at_load4 25 ?_); refine wpList_load_blk 25 _ w.heap.size 0 25 (zoneC v) (zoneC v) _ (by rfl) rfl rfl HB1.out Tryz.underlying25 rfl (infoZn _) (zero_part _) ?_)
        refine (HLt.out _ HF1.out).mono ?_
        rintro q w2 ⟨rfl, hf2⟩
        have HF2 := Lib.hid (ff4 HF1.out hf2)
        have HB2 := Lib.hid (hf2.blk HB1.out (fun h => h))
        clear hf2
        go_wp2_with ((with_reducible refine at_load4 25 ?_); refine wpList_load_blk 25 _ w.heap.size 0 25 (zoneC v) (zoneC v) _ (by rfl) rfl rfl HB2.out Tryz.underlying25 rfl (infoZn _) (zero_part _) ?_)
        refine (zOwn_any v w2).mono ?_
        rintro q w3 ⟨rfl, hf3⟩
        have HF3 := Lib.hid (ff4 HF2.out hf3)
        have HB3 := Lib.hid (hf3.blk HB2.out (fun h => h))
        clear hf3
        go_wp2_with fail
        refine (HN.out w3 HF3.out).mono ?_
        rintro q w4 ⟨rfl, hf4⟩
        have HF4 := Lib.hid (ff4 HF3.out hf4)
        have HB4 := Lib.hid (hf4.blk HB3.out (fun h => h))
        have n5 := Fr.new w4 (.cells (stateC st0) 38) (fun _ => False)
        have HF5 := Lib.hid (ff4 HF4.out n5)
        have HS5 := Lib.hid (Blk.made w4 38 (stateC st0))
        have HB5 := Lib.hid (n5.blk HB4.out (fun h => h))
        clear hf4 n5
        go_wp2_with (first
          | ((with_reducible refine at_store4 38 ?_); refine wpList_store_blk 38 _ _ w4.heap.size 0 38 (stateC st0) (stateC s) (stateC s) (by rfl) rfl rfl rfl rfl HS5.out (infoDs _) (stateC_one _) (show 0 + 3 ≤ 3 by decide) (put_st _ _) ?_
             intro W6 hf6 hb6
             have HF6 := Lib.hid (HF5.out.fresh hf6 (fun i e => by have e : i = w4.heap.size := e; have := HF4.out.size; omega))
             have HB6 := Lib.hid (hf6.blk HB5.out (fun e => by have e : w.heap.size = w4.heap.size := e; have := HB4.out.lt; omega))
             have HS6 := Lib.hid hb6
             clear hf6 hb6)
          | ((with_reducible refine at_load4 25 ?_); refine wpList_load_blk 25 _ w.heap.size 0 25 (zoneC v) (zoneC v) _ (by rfl) rfl rfl HB6.out Tryz.underlying25 rfl (infoZn _) (zero_part _) ?_))
        refine (zOwn_any v W6).mono ?_
        rintro q w7 ⟨rfl, hf7⟩
        have HF7 := Lib.hid (ff4 HF6.out hf7)
        have HB7 := Lib.hid (hf7.blk HB6.out (fun h => h))
        have HS7 := Lib.hid (hf7.blk HS6.out (fun h => h))
        clear hf7
        go_wp2_with fail
        refine (HZ.out w7 HF7.out).mono ?_
        rintro q w8 ⟨rfl, hf8⟩
        have HF8 := Lib.hid (ff4 HF7.out hf8)
        have HB8 := Lib.hid (hf8.blk HB7.out (fun h => h))
        have HS8 := Lib.hid (hf8.blk HS7.out (fun h => h))
        have n9 := Fr.new w8 (.cells (locC loc0) 29) (fun _ => False)
        have HF9 := Lib.hid (ff4 HF8.out n9)
        have HB9 := Lib.hid (n9.blk HB8.out (fun h => h))
        have HS9 := Lib.hid (n9.blk HS8.out (fun h => h))
        have HL9 := Lib.hid (Blk.made w8 29 (locC loc0))
        clear hf8 n9
        go_wp2_with (first
          | ((with_reducible refine at_store4 29 ?_); refine wpList_store_blk 29 _ _ w8.heap.size 0 29 (locC loc0) (locC ⟨e.off + s.save, xd, xa⟩) (locC ⟨e.off + s.save, xd, xa⟩) (by rfl) rfl rfl rfl rfl HL9.out (infoLo _) (locC_one _) (show 0 + 3 ≤ 3 by decide) (put_lo _ _) ?_
             intro W10 hf10 hb10
             have HF10 := Lib.hid (HF9.out.fresh hf10 (fun i e => by have e : i = w8.heap.size := e; have := HF8.out.size; omega))
             have HB10 := Lib.hid (hf10.blk HB9.out (fun e => by have e : w.heap.size = w8.heap.size := e; have := HB8.out.lt; omega))
             have HS10 := Lib.hid (hf10.blk HS9.out (fun e => by have e : w4.heap.size = w8.heap.size := e; have := HS8.out.lt; omega))
             have HL10 := Lib.hid hb10
             clear hf10 hb10))
        obtain ⟨be, off, hA, hc⟩ := (HV.out.e.kept HF10.out).at_ HEr.out
        have z0 : W10.cell? ⟨w.heap.size, 0, none⟩ = some (.slice (some ⟨be, off, none⟩) v.eras.length v.ce) := by rw [← hA]; exact blkc HB10.out 0 _ rfl
        have y0 : W10.cell? ⟨be, off + i * 13, none⟩ = some (.int .i64 e.off) := hc 0 (show 0 < 13 by decide)
        have s0 : W10.cell? ⟨w4.heap.size, 0, none⟩ = some (.int .i64 (i : Int)) := by rw [← HSi.out]; exact blkc HS10.out 0 _ rfl
        have s1 : W10.cell? ⟨w4.heap.size, 1, none⟩ = some (.int .i64 s.save) := blkc HS10.out 1 _ rfl
        have l0 : W10.cell? ⟨w8.heap.size, 0, none⟩ = some (.int .i64 (e.off + s.save)) := blkc HL10.out 0 _ rfl
        have l1 : W10.cell? ⟨w8.heap.size, 1, none⟩ = some (.bool xd) := blkc HL10.out 1 _ rfl
        have l2 : W10.cell? ⟨w8.heap.size, 2, none⟩ = some (strV xa) := blkc HL10.out 2 _ rfl
        clear hc hA
        refine wp_region_held_drew (S := fun w' => Fr W10 w' (fun _ => False)) (by kernel_rfl) (Fr.drew W10 _) (fun hHeld => ?_)
        refine wpAnyH_take (i := 0) (v := ?_) rfl (by kernel_rfl) (by kernel_rfl) (by kernel_rfl) (fun _ _ _ h => h) (Or.inl ⟨by rfl, ?_⟩) (by assumption) ?_
        rotate_left
        · intro w' hSw
          go_simp
          try with_reducible rfl
        try simp only [Act.put, List.setIfInBounds_toArray, List.set_cons_zero, List.set_cons_succ, List.getElem_toArray, List.getElem_cons_zero]
        refine wpAnyH_take (i := 1) (v := ?_) rfl (by kernel_rfl) (by kernel_rfl) (by kernel_rfl) (fun _ _ _ h => h) (Or.inl ⟨by rfl, ?_⟩) (by assumption) ?_
        rotate_left
        · intro w' hSw
          have c1 : w'.cell? ⟨w4.heap.size, 0, none⟩ = some (.int .i64 (i : Int)) := cell_far hSw s0 (fun h => h)
          go_simp
          try with_reducible rfl
        try simp only [Act.put, List.setIfInBounds_toArray, List.set_cons_zero, List.set_cons_succ, List.getElem_toArray, List.getElem_cons_succ, List.getElem_cons_zero]
        refine wpAnyH_take (i := 2) (v := ?_) rfl (by kernel_rfl) (by kernel_rfl) (by kernel_rfl) (fun _ _ _ h => h) (Or.inl ⟨by rfl, ?_⟩) (by assumption) ?_
        rotate_left
        · intro w' hSw
          go_simp
          try with_reducible rfl
        try simp only [Act.put, List.setIfInBounds_toArray, List.set_cons_zero, List.set_cons_succ, List.getElem_toArray, List.getElem_cons_succ, List.getElem_cons_zero]
        refine wpAnyH_take (i := 3) (v := ?_) rfl (by kernel_rfl) (by kernel_rfl) (by kernel_rfl) (fun _ _ _ h => h) (Or.inl ⟨by rfl, ?_⟩) (by assumption) ?_
        rotate_left
        · intro w' hSw
          go_simp
          try with_reducible rfl
        try simp only [Act.put, List.setIfInBounds_toArray, List.set_cons_zero, List.set_cons_succ, List.getElem_toArray, List.getElem_cons_succ, List.getElem_cons_zero]
        refine wpAnyH_take (i := 4) (v := ?_) rfl (by kernel_rfl) (by kernel_rfl) (by kernel_rfl) (fun _ _ _ h => h) (Or.inl ⟨by rfl, ?_⟩) (by assumption) ?_
        rotate_left
        · intro w' hSw
          go_simp
          try with_reducible rfl
        try simp only [Act.put, List.setIfInBounds_toArray, List.set_cons_zero, List.set_cons_succ, List.getElem_toArray, List.getElem_cons_succ, List.getElem_cons_zero]
        refine wpAnyH_take (i := 5) (v := ?_) rfl (by kernel_rfl) (by kernel_rfl) (by kernel_rfl) (fun _ _ _ h => h) (Or.inl ⟨by rfl, ?_⟩) (by assumption) ?_
        rotate_left
        · intro w' hSw
          have c1 : w'.cell? ⟨w4.heap.size, 0, none⟩ = some (.int .i64 (i : Int)) := cell_far hSw s0 (fun h => h)
          go_simp
          try with_reducible rfl
        try simp only [Act.put, List.setIfInBounds_toArray, List.set_cons_zero, List.set_cons_succ, List.getElem_toArray, List.getElem_cons_succ, List.getElem_cons_zero]
        refine wpAnyH_take (i := 6) (v := ?_) rfl (by kernel_rfl) (by kernel_rfl) (by kernel_rfl) (fun _ _ _ h => h) (Or.inl ⟨by rfl, ?_⟩) (by assumption) ?_
        rotate_left
        · intro w' hSw
          go_simp
          try with_reducible rfl
        try simp only [Act.put, List.setIfInBounds_toArray, List.set_cons_zero, List.set_cons_succ, List.getElem_toArray, List.getElem_cons_succ, List.getElem_cons_zero]
        refine wpAnyH_take (i := 7) (v := ?_) rfl (by kernel_rfl) (by kernel_rfl) (by kernel_rfl) (fun _ _ _ h => h) (Or.inl ⟨by rfl, ?_⟩) (by assumption) ?_
        rotate_left
        · intro w' hSw
          have c1 : w'.cell? ⟨w.heap.size, 0, none⟩ = some (.slice (some ⟨be, off, none⟩) v.eras.length v.ce) := cell_far hSw z0 (fun h => h)
          go_simp
          try with_reducible rfl
        try simp only [Act.put, List.setIfInBounds_toArray, List.set_cons_zero, List.set_cons_succ, List.getElem_toArray, List.getElem_cons_succ, List.getElem_cons_zero]
        refine wpAnyH_take (i := 8) (v := ?_) rfl (by kernel_rfl) (by kernel_rfl) (by kernel_rfl) (fun _ _ _ h => h) (Or.inl ⟨by rfl, ?_⟩) (by assumption) ?_
        rotate_left
        · intro w' hSw
          go_simp
          try with_reducible rfl
        try simp only [Act.put, List.setIfInBounds_toArray, List.set_cons_zero, List.set_cons_succ, List.getElem_toArray, List.getElem_cons_succ, List.getElem_cons_zero]
        refine wpAnyH_take (i := 9) (v := ?_) rfl (by kernel_rfl) (by kernel_rfl) (by kernel_rfl) (fun _ _ _ h => h) (Or.inl ⟨by rfl, ?_⟩) (by assumption) ?_
        rotate_left
        · intro w' hSw
          go_simp
          try with_reducible rfl
        try simp only [Act.put, List.setIfInBounds_toArray, List.set_cons_zero, List.set_cons_succ, List.getElem_toArray, List.getElem_cons_succ, List.getElem_cons_zero]
        refine wpAnyH_take (i := 10) (v := ?_) rfl (by kernel_rfl) (by kernel_rfl) (by kernel_rfl) (fun _ _ _ h => h) (Or.inl ⟨by rfl, ?_⟩) (by assumption) ?_
        rotate_left
        · intro w' hSw
          go_simp
          try with_reducible rfl
        try simp only [Act.put, List.setIfInBounds_toArray, List.set_cons_zero, List.set_cons_succ, List.getElem_toArray, List.getElem_cons_succ, List.getElem_cons_zero]
        refine wpAnyH_take (i := 11) (v := ?_) rfl (by kernel_rfl) (by kernel_rfl) (by kernel_rfl) (fun _ _ _ h => h) (Or.inl ⟨by rfl, ?_⟩) (by assumption) ?_
        rotate_left
        · intro w' hSw
          go_simp
          try with_reducible rfl
        try simp only [Act.put, List.setIfInBounds_toArray, List.set_cons_zero, List.set_cons_succ, List.getElem_toArray, List.getElem_cons_succ, List.getElem_cons_zero]
        refine wpAnyH_take (i := 12) (v := ?_) rfl (by kernel_rfl) (by kernel_rfl) (by kernel_rfl) (fun _ _ _ h => h) (Or.inl ⟨by rfl, ?_⟩) (by assumption) ?_
        rotate_left
        · intro w' hSw
          go_simp
          try with_reducible rfl
        try simp only [Act.put, List.setIfInBounds_toArray, List.set_cons_zero, List.set_cons_succ, List.getElem_toArray, List.getElem_cons_succ, List.getElem_cons_zero]
        refine wpAnyH_take (i := 13) (v := ?_) rfl (by kernel_rfl) (by kernel_rfl) (by kernel_rfl) (fun _ _ _ h => h) (Or.inl ⟨by rfl, ?_⟩) (by assumption) ?_
        rotate_left
        · intro w' hSw
          have c1 : w'.cell? ⟨w8.heap.size, 0, none⟩ = some (.int .i64 (e.off + s.save)) := cell_far hSw l0 (fun h => h)
          go_simp
          try with_reducible rfl
        try simp only [Act.put, List.setIfInBounds_toArray, List.set_cons_zero, List.set_cons_succ, List.getElem_toArray, List.getElem_cons_succ, List.getElem_cons_zero]
        refine wpAnyH_take (i := 14) (v := ?_) rfl (by kernel_rfl) (by kernel_rfl) (by kernel_rfl) (fun _ _ _ h => h) (Or.inl ⟨by rfl, ?_⟩) (by assumption) ?_
        rotate_left
        · intro w' hSw
          go_simp
          try with_reducible rfl
        try simp only [Act.put, List.setIfInBounds_toArray, List.set_cons_zero, List.set_cons_succ, List.getElem_toArray, List.getElem_cons_succ, List.getElem_cons_zero]
        refine wpAnyH_take (i := 15) (v := ?_) rfl (by kernel_rfl) (by kernel_rfl) (by kernel_rfl) (fun _ _ _ h => h) (Or.inl ⟨by rfl, ?_⟩) (by assumption) ?_
        rotate_left
        · intro w' hSw
          have c1 : w'.cell? ⟨w.heap.size, 0, none⟩ = some (.slice (some ⟨be, off, none⟩) v.eras.length v.ce) := cell_far hSw z0 (fun h => h)
          go_simp
          try with_reducible rfl
        try simp only [Act.put, List.setIfInBounds_toArray, List.set_cons_zero, List.set_cons_succ, List.getElem_toArray, List.getElem_cons_succ, List.getElem_cons_zero]
        refine wpAnyH_take (i := 16) (v := ?_) rfl (by kernel_rfl) (by kernel_rfl) (by kernel_rfl) (fun _ _ _ h => h) (Or.inl ⟨by rfl, ?_⟩) (by assumption) ?_
        rotate_left
        · intro w' hSw
          go_simp
          try with_reducible rfl
        try simp only [Act.put, List.setIfInBounds_toArray, List.set_cons_zero, List.set_cons_succ, List.getElem_toArray, List.getElem_cons_succ, List.getElem_cons_zero]
        refine wpAnyH_take (i := 17) (v := ?_) rfl (by kernel_rfl) (by kernel_rfl) (by kernel_rfl) (fun _ _ _ h => h) (Or.inl ⟨by rfl, ?_⟩) (by assumption) ?_
        rotate_left
        · intro w' hSw
          have c1 : w'.cell? ⟨w4.heap.size, 0, none⟩ = some (.int .i64 (i : Int)) := cell_far hSw s0 (fun h => h)
          go_simp
          try with_reducible rfl
        try simp only [Act.put, List.setIfInBounds_toArray, List.set_cons_zero, List.set_cons_succ, List.getElem_toArray, List.getElem_cons_succ, List.getElem_cons_zero]
        refine wpAnyH_take (i := 18) (v := ?_) rfl (by kernel_rfl) (by kernel_rfl) (by kernel_rfl) (fun _ _ _ h => h) (Or.inl ⟨by rfl, ?_⟩) (by assumption) ?_
        rotate_left
        · intro w' hSw
          go_simp
          try with_reducible rfl
        try simp only [Act.put, List.setIfInBounds_toArray, List.set_cons_zero, List.set_cons_succ, List.getElem_toArray, List.getElem_cons_succ, List.getElem_cons_zero]
        refine wpAnyH_take (i := 19) (v := ?_) rfl (by kernel_rfl) (by kernel_rfl) (by kernel_rfl) (fun _ _ _ h => h) (Or.inl ⟨by rfl, ?_⟩) (by assumption) ?_
        rotate_left
        · intro w' hSw
          go_simp
          try with_reducible rfl
        try simp only [Act.put, List.setIfInBounds_toArray, List.set_cons_zero, List.set_cons_succ, List.getElem_toArray, List.getElem_cons_succ, List.getElem_cons_zero]
        refine wpAnyH_take (i := 20) (v := ?_) rfl (by kernel_rfl) (by kernel_rfl) (by kernel_rfl) (fun _ _ _ h => h) (Or.inl ⟨by rfl, ?_⟩) (by assumption) ?_
        rotate_left
        · intro w' hSw
          have c1 : w'.cell? ⟨be, off + i * 13, none⟩ = some (.int .i64 e.off) := cell_far hSw y0 (fun h => h)
          go_simp
          try with_reducible rfl
        try simp only [Act.put, List.setIfInBounds_toArray, List.set_cons_zero, List.set_cons_succ, List.getElem_toArray, List.getElem_cons_succ, List.getElem_cons_zero]
        refine wpAnyH_take (i := 21) (v := ?_) rfl (by kernel_rfl) (by kernel_rfl) (by kernel_rfl) (fun _ _ _ h => h) (Or.inl ⟨by rfl, ?_⟩) (by assumption) ?_
        rotate_left
        · intro w' hSw
          go_simp
          try with_reducible rfl
        try simp only [Act.put, List.setIfInBounds_toArray, List.set_cons_zero, List.set_cons_succ, List.getElem_toArray, List.getElem_cons_succ, List.getElem_cons_zero]
        refine wpAnyH_take (i := 22) (v := ?_) rfl (by kernel_rfl) (by kernel_rfl) (by kernel_rfl) (fun _ _ _ h => h) (Or.inl ⟨by rfl, ?_⟩) (by assumption) ?_
        rotate_left
        · intro w' hSw
          have c1 : w'.cell? ⟨w4.heap.size, 1, none⟩ = some (.int .i64 s.save) := cell_far hSw s1 (fun h => h)
          go_simp
          try with_reducible rfl
        try simp only [Act.put, List.setIfInBounds_toArray, List.set_cons_zero, List.set_cons_succ, List.getElem_toArray, List.getElem_cons_succ, List.getElem_cons_zero]
        refine wpAnyH_take (i := 23) (v := ?_) rfl (by kernel_rfl) (by kernel_rfl) (by kernel_rfl) (fun _ _ _ h => h) (Or.inl ⟨by rfl, ?_⟩) (by assumption) ?_
        rotate_left
        · intro w' hSw
          go_simp
          try with_reducible rfl
        try simp only [Act.put, List.setIfInBounds_toArray, List.set_cons_zero, List.set_cons_succ, List.getElem_toArray, List.getElem_cons_succ, List.getElem_cons_zero]
        refine wpAnyH_take (i := 24) (v := ?_) rfl (by kernel_rfl) (by kernel_rfl) (by kernel_rfl) (fun _ _ _ h => h) (Or.inl ⟨by rfl, ?_⟩) (by assumption) ?_
        rotate_left
        · intro w' hSw
          go_simp
          try with_reducible rfl
        try simp only [Act.put, List.setIfInBounds_toArray, List.set_cons_zero, List.set_cons_succ, List.getElem_toArray, List.getElem_cons_succ, List.getElem_cons_zero]
        refine wpAnyH_take (i := 25) (v := ?_) rfl (by kernel_rfl) (by kernel_rfl) (by kernel_rfl) (fun _ _ _ h => h) (Or.inl ⟨by rfl, ?_⟩) (by assumption) ?_
        rotate_left
        · intro w' hSw
          go_simp
          try with_reducible rfl
        try simp only [Act.put, List.setIfInBounds_toArray, List.set_cons_zero, List.set_cons_succ, List.getElem_toArray, List.getElem_cons_succ, List.getElem_cons_zero]
        refine wpAnyH_take (i := 26) (v := ?_) rfl (by kernel_rfl) (by kernel_rfl) (by kernel_rfl) (fun _ _ _ h => h) (Or.inl ⟨by rfl, ?_⟩) (by assumption) ?_
        rotate_left
        · intro w' hSw
          go_simp
          try with_reducible rfl
        try simp only [Act.put, List.setIfInBounds_toArray, List.set_cons_zero, List.set_cons_succ, List.getElem_toArray, List.getElem_cons_succ, List.getElem_cons_zero]
        refine wpAnyH_take (i := 27) (v := ?_) rfl (by kernel_rfl) (by kernel_rfl) (by kernel_rfl) (fun _ _ _ h => h) (Or.inl ⟨by rfl, ?_⟩) (by assumption) ?_
        rotate_left
        · intro w' hSw
          go_simp
          try with_reducible rfl
        try simp only [Act.put, List.setIfInBounds_toArray, List.set_cons_zero, List.set_cons_succ, List.getElem_toArray, List.getElem_cons_succ, List.getElem_cons_zero]
        refine wpAnyH_take (i := 28) (v := ?_) rfl (by kernel_rfl) (by kernel_rfl) (by kernel_rfl) (fun _ _ _ h => h) (Or.inl ⟨by rfl, ?_⟩) (by assumption) ?_
        rotate_left
        · intro w' hSw
          have c1 : w'.cell? ⟨w8.heap.size, 1, none⟩ = some (.bool xd) := cell_far hSw l1 (fun h => h)
          go_simp
          try with_reducible rfl
        try simp only [Act.put, List.setIfInBounds_toArray, List.set_cons_zero, List.set_cons_succ, List.getElem_toArray, List.getElem_cons_succ, List.getElem_cons_zero]
        refine wpAnyH_take (i := 29) (v := ?_) rfl (by kernel_rfl) (by kernel_rfl) (by kernel_rfl) (fun _ _ _ h => h) (Or.inl ⟨by rfl, ?_⟩) (by assumption) ?_
        rotate_left
        · intro w' hSw
          go_simp
          try with_reducible rfl
        try simp only [Act.put, List.setIfInBounds_toArray, List.set_cons_zero, List.set_cons_succ, List.getElem_toArray, List.getElem_cons_succ, List.getElem_cons_zero]
        refine wpAnyH_take (i := 30) (v := ?_) rfl (by kernel_rfl) (by kernel_rfl) (by kernel_rfl) (fun _ _ _ h => h) (Or.inl ⟨by rfl, ?_⟩) (by assumption) ?_
        rotate_left
        · intro w' hSw
          have c1 : w'.cell? ⟨w4.heap.size, 1, none⟩ = some (.int .i64 s.save) := cell_far hSw s1 (fun h => h)
          go_simp
          try with_reducible rfl
        try simp only [Act.put, List.setIfInBounds_toArray, List.set_cons_zero, List.set_cons_succ, List.getElem_toArray, List.getElem_cons_succ, List.getElem_cons_zero]
        refine wpAnyH_take (i := 31) (v := ?_) rfl (by kernel_rfl) (by kernel_rfl) (by kernel_rfl) (fun _ _ _ h => h) (Or.inl ⟨by rfl, ?_⟩) (by assumption) ?_
        rotate_left
        · intro w' hSw
          go_simp
          try with_reducible rfl
        try simp only [Act.put, List.setIfInBounds_toArray, List.set_cons_zero, List.set_cons_succ, List.getElem_toArray, List.getElem_cons_succ, List.getElem_cons_zero]
        refine wpAnyH_take (i := 32) (v := ?_) rfl (by kernel_rfl) (by kernel_rfl) (by kernel_rfl) (fun _ _ _ h => h) (Or.inl ⟨by rfl, ?_⟩) (by assumption) ?_
        rotate_left
        · intro w' hSw
          go_simp
          try with_reducible rfl
        try simp only [Act.put, List.setIfInBounds_toArray, List.set_cons_zero, List.set_cons_succ, List.getElem_toArray, List.getElem_cons_succ, List.getElem_cons_zero]
        refine wpAnyH_take (i := 33) (v := ?_) rfl (by kernel_rfl) (by kernel_rfl) (by kernel_rfl) (fun _ _ _ h => h) (Or.inl ⟨by rfl, ?_⟩) (by assumption) ?_
        rotate_left
        · intro w' hSw
          go_simp
          try with_reducible rfl
        try simp only [Act.put, List.setIfInBounds_toArray, List.set_cons_zero, List.set_cons_succ, List.getElem_toArray, List.getElem_cons_succ, List.getElem_cons_zero]
        refine wpAnyH_take (i := 34) (v := ?_) rfl (by kernel_rfl) (by kernel_rfl) (by kernel_rfl) (fun _ _ _ h => h) (Or.inl ⟨by rfl, ?_⟩) (by assumption) ?_
        rotate_left
        · intro w' hSw
          go_simp
          try with_reducible rfl
        try simp only [Act.put, List.setIfInBounds_toArray, List.set_cons_zero, List.set_cons_succ, List.getElem_toArray, List.getElem_cons_succ, List.getElem_cons_zero]
        refine wpAnyH_take (i := 35) (v := ?_) rfl (by kernel_rfl) (by kernel_rfl) (by kernel_rfl) (fun _ _ _ h => h) (Or.inl ⟨by rfl, ?_⟩) (by assumption) ?_
        rotate_left
        · intro w' hSw
          go_simp
          try with_reducible rfl
        try simp only [Act.put, List.setIfInBounds_toArray, List.set_cons_zero, List.set_cons_succ, List.getElem_toArray, List.getElem_cons_succ, List.getElem_cons_zero]
        refine wpAnyH_take (i := 36) (v := ?_) rfl (by kernel_rfl) (by kernel_rfl) (by kernel_rfl) (fun _ _ _ h => h) (Or.inl ⟨by rfl, ?_⟩) (by assumption) ?_
        rotate_left
        · intro w' hSw
          have c1 : w'.cell? ⟨w8.heap.size, 2, none⟩ = some (strV xa) := cell_far hSw l2 (fun h => h)
          go_simp
          try with_reducible rfl
        try simp only [Act.put, List.setIfInBounds_toArray, List.set_cons_zero, List.set_cons_succ, List.getElem_toArray, List.getElem_cons_succ, List.getElem_cons_zero]
        refine wpAnyH_ready (rs := [37]) (by kernel_rfl) (by simp) ?_
        refine AllReadyH.cons rfl (fun K hK => ?_) AllReadyH.nil
        go_simp
        refine (HPl.out _).mono ?_
        rintro q w12 ⟨rfl, hf12⟩
        refine hK.out _ _ (ff4 hHeld hf12) (fun hHeld2 => ?_)
        clear hK K hHeld hf12
        rename_i hHeld2
        have hHeld := hHeld2
        clear hHeld2
        try simp only [Act.put, List.setIfInBounds_toArray, List.set_cons_zero, List.set_cons_succ, List.getElem_toArray, List.getElem_cons_succ, List.getElem_cons_zero]
        refine wpAnyH_take (i := 38) (v := ?_) rfl (by kernel_rfl) (by kernel_rfl) (by kernel_rfl) (fun _ _ _ h => h) (Or.inl ⟨by rfl, ?_⟩) (by assumption) ?_
        rotate_left
        · intro w' hSw
          go_simp
          try with_reducible rfl
        try simp only [Act.put, List.setIfInBounds_toArray, List.set_cons_zero, List.set_cons_succ, List.getElem_toArray, List.getElem_cons_succ, List.getElem_cons_zero]
        refine wpAnyH_take (i := 39) (v := ?_) rfl (by kernel_rfl) (by kernel_rfl) (by kernel_rfl) (fun _ _ _ h => h) (Or.inl ⟨by rfl, ?_⟩) (by assumption) ?_
        rotate_left
        · intro w' hSw
          go_simp
          try with_reducible rfl
        try simp only [Act.put, List.setIfInBounds_toArray, List.set_cons_zero, List.set_cons_succ, List.getElem_toArray, List.getElem_cons_succ, List.getElem_cons_zero]
        refine wpAnyH_ready (rs := [40]) (by kernel_rfl) (by simp) ?_
        refine AllReadyH.cons rfl (fun K hK => ?_) AllReadyH.nil
        go_simp
        refine (HAl.out _ (ff4 HF10.out hHeld)).mono ?_
        rintro q w13 ⟨rfl, hf13⟩
        refine hK.out _ _ (ff4 hHeld hf13) (fun hHeld2 => ?_)
        clear hK K hHeld hf13
        rename_i hHeld2
        have hHeld := hHeld2
        clear hHeld2
        try simp only [Act.put, List.setIfInBounds_toArray, List.set_cons_zero, List.set_cons_succ, List.getElem_toArray, List.getElem_cons_succ, List.getElem_cons_zero]
        refine wpAnyH_take (i := 41) (v := ?_) rfl (by kernel_rfl) (by kernel_rfl) (by kernel_rfl) (fun _ _ _ h => h) (Or.inl ⟨by rfl, ?_⟩) (by assumption) ?_
        rotate_left
        · intro w' hSw
          go_simp
          try with_reducible rfl
        try simp only [Act.put, List.setIfInBounds_toArray, List.set_cons_zero, List.set_cons_succ, List.getElem_toArray, List.getElem_cons_succ, List.getElem_cons_zero]
        refine wpAnyH_take (i := 42) (v := ?_) rfl (by kernel_rfl) (by kernel_rfl) (by kernel_rfl) (fun _ _ _ h => h) (Or.inl ⟨by rfl, ?_⟩) (by assumption) ?_
        rotate_left
        · intro w' hSw
          go_simp
          try with_reducible rfl
        try simp only [Act.put, List.setIfInBounds_toArray, List.set_cons_zero, List.set_cons_succ, List.getElem_toArray, List.getElem_cons_succ, List.getElem_cons_zero]
        refine wpAnyH_done (by kernel_rfl) ?_ _
        go_wp2_with fail
        go_ret
        exact ⟨rfl, ff4 HF10.out hHeld⟩
      · rcases hk15 with rfl | rfl
        · go_enter Tryz.func4, Tryz.ntmps4
          go_wp2_with ((with_reducible refine at_load4 25 ?_); refine wpList_load_blk 25 _ w.heap.size 0 25 (zoneC v) (zoneC v) _ (by rfl) rfl rfl HB1.out Tryz.underlying25 rfl (infoZn _) (zero_part _) ?_)
          refine (HLt.out _ HF1.out).mono ?_
          rintro q w2 ⟨rfl, hf2⟩
          have HF2 := Lib.hid (ff4 HF1.out hf2)
          have HB2 := Lib.hid (hf2.blk HB1.out (fun h => h))
          clear hf2
          go_wp2_with ((with_reducible refine at_load4 25 ?_); refine wpList_load_blk 25 _ w.heap.size 0 25 (zoneC v) (zoneC v) _ (by rfl) rfl rfl HB2.out Tryz.underlying25 rfl (infoZn _) (zero_part _) ?_)
          refine (zOwn_any v w2).mono ?_
          rintro q w3 ⟨rfl, hf3⟩
          have HF3 := Lib.hid (ff4 HF2.out hf3)
          have HB3 := Lib.hid (hf3.blk HB2.out (fun h => h))
          clear hf3
          go_wp2_with fail
          refine (HN.out w3 HF3.out).mono ?_
          rintro q w4 ⟨rfl, hf4⟩
          have HF4 := Lib.hid (ff4 HF3.out hf4)
          have HB4 := Lib.hid (hf4.blk HB3.out (fun h => h))
          have n5 := Fr.new w4 (.cells (stateC st0) 38) (fun _ => False)
          have HF5 := Lib.hid (ff4 HF4.out n5)
          have HS5 := Lib.hid (Blk.made w4 38 (stateC st0))
          have HB5 := Lib.hid (n5.blk HB4.out (fun h => h))
          clear hf4 n5
          go_wp2_with (first
            | ((with_reducible refine at_store4 38 ?_); refine wpList_store_blk 38 _ _ w4.heap.size 0 38 (stateC st0) (stateC s) (stateC s) (by rfl) rfl rfl rfl rfl HS5.out (infoDs _) (stateC_one _) (show 0 + 3 ≤ 3 by decide) (put_st _ _) ?_
               intro W6 hf6 hb6
               have HF6 := Lib.hid (HF5.out.fresh hf6 (fun i e => by have e : i = w4.heap.size := e; have := HF4.out.size; omega))
               have HB6 := Lib.hid (hf6.blk HB5.out (fun e => by have e : w.heap.size = w4.heap.size := e; have := HB4.out.lt; omega))
               have HS6 := Lib.hid hb6
               clear hf6 hb6)
            | ((with_reducible refine at_load4 25 ?_); refine wpList_load_blk 25 _ w.heap.size 0 25 (zoneC v) (zoneC v) _ (by rfl) rfl rfl HB6.out Tryz.underlying25 rfl (infoZn _) (zero_part _) ?_))
          refine (zOwn_any v W6).mono ?_
          rintro q w7 ⟨rfl, hf7⟩
          have HF7 := Lib.hid (ff4 HF6.out hf7)
          have HB7 := Lib.hid (hf7.blk HB6.out (fun h => h))
          have HS7 := Lib.hid (hf7.blk HS6.out (fun h => h))
          clear hf7
          go_wp2_with fail
          refine (HZ.out w7 HF7.out).mono ?_
          rintro q w8 ⟨rfl, hf8⟩
          have HF8 := Lib.hid (ff4 HF7.out hf8)
          have HB8 := Lib.hid (hf8.blk HB7.out (fun h => h))
          have HS8 := Lib.hid (hf8.blk HS7.out (fun h => h))
          have n9 := Fr.new w8 (.cells (locC loc0) 29) (fun _ => False)
          have HF9 := Lib.hid (ff4 HF8.out n9)
          have HB9 := Lib.hid (n9.blk HB8.out (fun h => h))
          have HS9 := Lib.hid (n9.blk HS8.out (fun h => h))
          have HL9 := Lib.hid (Blk.made w8 29 (locC loc0))
          clear hf8 n9
          go_wp2_with (first
            | ((with_reducible refine at_store4 29 ?_); refine wpList_store_blk 29 _ _ w8.heap.size 0 29 (locC loc0) (locC loc0) (locC loc0) (by rfl) rfl rfl rfl rfl HL9.out (infoLo _) (locC_one _) (show 0 + 3 ≤ 3 by decide) (put_lo _ _) ?_
               intro W10 hf10 hb10
               have HF10 := Lib.hid (HF9.out.fresh hf10 (fun i e => by have e : i = w8.heap.size := e; have := HF8.out.size; omega))
               have HB10 := Lib.hid (hf10.blk HB9.out (fun e => by have e : w.heap.size = w8.heap.size := e; have := HB8.out.lt; omega))
               have HS10 := Lib.hid (hf10.blk HS9.out (fun e => by have e : w4.heap.size = w8.heap.size := e; have := HS8.out.lt; omega))
               have HL10 := Lib.hid hb10
               clear hf10 hb10)
            | ((with_reducible refine at_load4 29 ?_); refine wpList_load_blk 29 _ w8.heap.size 0 29 (locC loc0) (locC loc0) _ (by rfl) rfl rfl HL10.out Tryz.underlying29 rfl (infoLo _) (zero_part _) ?_)
            | ((with_reducible refine at_eql6 29 ?_); refine wpList_eql6 (t := 29) (cs := locC loc0) (ds := locC loc0) (b := true) (by rfl) rfl rfl rfl (guard_loc _ _ _ _) (eql_loc loc0) ?_))
          refine (HAl.out _ HF10.out).mono ?_
          rintro q w11 ⟨rfl, hf11⟩
          go_wp2_with fail
          go_ret
          exact ⟨rfl, ff4 HF10.out hf11⟩
        · go_enter Tryz.func4, Tryz.ntmps4
          go_wp2_with ((with_reducible refine at_load4 25 ?_); refine wpList_load_blk 25 _ w.heap.size 0 25 (zoneC v) (zoneC v) _ (by rfl) rfl rfl HB1.out Tryz.underlying25 rfl (infoZn _) (zero_part _) ?_)
          refine (HLt.out _ HF1.out).mono ?_
          rintro q w2 ⟨rfl, hf2⟩
          have HF2 := Lib.hid (ff4 HF1.out hf2)
          have HB2 := Lib.hid (hf2.blk HB1.out (fun h => h))
          clear hf2
          go_wp2_with ((with_reducible refine at_load4 25 ?_); refine wpList_load_blk 25 _ w.heap.size 0 25 (zoneC v) (zoneC v) _ (by rfl) rfl rfl HB2.out Tryz.underlying25 rfl (infoZn _) (zero_part _) ?_)
          refine (zOwn_any v w2).mono ?_
          rintro q w3 ⟨rfl, hf3⟩
          have HF3 := Lib.hid (ff4 HF2.out hf3)
          have HB3 := Lib.hid (hf3.blk HB2.out (fun h => h))
          clear hf3
          go_wp2_with fail
          refine (HN.out w3 HF3.out).mono ?_
          rintro q w4 ⟨rfl, hf4⟩
          have HF4 := Lib.hid (ff4 HF3.out hf4)
          have HB4 := Lib.hid (hf4.blk HB3.out (fun h => h))
          have n5 := Fr.new w4 (.cells (stateC st0) 38) (fun _ => False)
          have HF5 := Lib.hid (ff4 HF4.out n5)
          have HS5 := Lib.hid (Blk.made w4 38 (stateC st0))
          have HB5 := Lib.hid (n5.blk HB4.out (fun h => h))
          clear hf4 n5
          go_wp2_with (first
            | ((with_reducible refine at_store4 38 ?_); refine wpList_store_blk 38 _ _ w4.heap.size 0 38 (stateC st0) (stateC s) (stateC s) (by rfl) rfl rfl rfl rfl HS5.out (infoDs _) (stateC_one _) (show 0 + 3 ≤ 3 by decide) (put_st _ _) ?_
               intro W6 hf6 hb6
               have HF6 := Lib.hid (HF5.out.fresh hf6 (fun i e => by have e : i = w4.heap.size := e; have := HF4.out.size; omega))
               have HB6 := Lib.hid (hf6.blk HB5.out (fun e => by have e : w.heap.size = w4.heap.size := e; have := HB4.out.lt; omega))
               have HS6 := Lib.hid hb6
               clear hf6 hb6)
            | ((with_reducible refine at_load4 25 ?_); refine wpList_load_blk 25 _ w.heap.size 0 25 (zoneC v) (zoneC v) _ (by rfl) rfl rfl HB6.out Tryz.underlying25 rfl (infoZn _) (zero_part _) ?_))
          refine (zOwn_any v W6).mono ?_
          rintro q w7 ⟨rfl, hf7⟩
          have HF7 := Lib.hid (ff4 HF6.out hf7)
          have HB7 := Lib.hid (hf7.blk HB6.out (fun h => h))
          have HS7 := Lib.hid (hf7.blk HS6.out (fun h => h))
          clear hf7
          go_wp2_with fail
          refine (HZ.out w7 HF7.out).mono ?_
          rintro q w8 ⟨rfl, hf8⟩
          have HF8 := Lib.hid (ff4 HF7.out hf8)
          have HB8 := Lib.hid (hf8.blk HB7.out (fun h => h))
          have HS8 := Lib.hid (hf8.blk HS7.out (fun h => h))
          have n9 := Fr.new w8 (.cells (locC loc0) 29) (fun _ => False)
          have HF9 := Lib.hid (ff4 HF8.out n9)
          have HB9 := Lib.hid (n9.blk HB8.out (fun h => h))
          have HS9 := Lib.hid (n9.blk HS8.out (fun h => h))
          have HL9 := Lib.hid (Blk.made w8 29 (locC loc0))
          clear hf8 n9
          go_wp2_with (first
            | ((with_reducible refine at_store4 29 ?_); refine wpList_store_blk 29 _ _ w8.heap.size 0 29 (locC loc0) (locC loc0) (locC loc0) (by rfl) rfl rfl rfl rfl HL9.out (infoLo _) (locC_one _) (show 0 + 3 ≤ 3 by decide) (put_lo _ _) ?_
               intro W10 hf10 hb10
               have HF10 := Lib.hid (HF9.out.fresh hf10 (fun i e => by have e : i = w8.heap.size := e; have := HF8.out.size; omega))
               have HB10 := Lib.hid (hf10.blk HB9.out (fun e => by have e : w.heap.size = w8.heap.size := e; have := HB8.out.lt; omega))
               have HS10 := Lib.hid (hf10.blk HS9.out (fun e => by have e : w4.heap.size = w8.heap.size := e; have := HS8.out.lt; omega))
               have HL10 := Lib.hid hb10
               clear hf10 hb10)
            | ((with_reducible refine at_load4 29 ?_); refine wpList_load_blk 29 _ w8.heap.size 0 29 (locC loc0) (locC loc0) _ (by rfl) rfl rfl HL10.out Tryz.underlying29 rfl (infoLo _) (zero_part _) ?_)
            | ((with_reducible refine at_eql6 29 ?_); refine wpList_eql6 (t := 29) (cs := locC loc0) (ds := locC loc0) (b := true) (by rfl) rfl rfl rfl (guard_loc _ _ _ _) (eql_loc loc0) ?_))
          refine (HAl.out _ HF10.out).mono ?_
          rintro q w11 ⟨rfl, hf11⟩
          go_wp2_with fail
          go_ret
          exact ⟨rfl, ff4 HF10.out hf11⟩
    · have HR := HBad.out hk
      obtain ⟨s, k, hsk⟩ : ∃ s k, atD (znD v) t = (s, k) := ⟨_, _, rfl⟩
      rw [hsk] at HR hk
      have HN := Lib.hid (fun W (f : Fr w W (fun _ => False)) => (show Calls Tryz.prog 10 #[.agg (zoneC v), intV t] W fun q w' => q = .returned (.tuple #[stateV s, intV k]) ∧ Fr W w' (fun _ => False) by have h := HN.out W f; rw [hsk] at h; exact h))
      have HZ := Lib.hid (fun W (f : Fr w W (fun _ => False)) => (show Calls Tryz.prog 7 #[.agg (zoneC v), intV t] W fun q w' => q = .returned (.tuple #[locV loc0, intV k]) ∧ Fr W w' (fun _ => False) by have h := HZ.out W f; rw [HR] at h; exact h))
      have k0 : (k == 0) = false := beq_eq_false_iff_ne.2 hk
      have kn : (k != 0) = true := by rw [bne_iff_ne]; exact hk
      clear hk hsk HR HSt HIn HBad
      go_enter Tryz.func4, Tryz.ntmps4
      go_wp2_with ((with_reducible refine at_load4 25 ?_); refine wpList_load_blk 25 _ w.heap.size 0 25 (zoneC v) (zoneC v) _ (by rfl) rfl rfl HB1.out Tryz.underlying25 rfl (infoZn _) (zero_part _) ?_)
      refine (HLt.out _ HF1.out).mono ?_
      rintro q w2 ⟨rfl, hf2⟩
      have HF2 := Lib.hid (ff4 HF1.out hf2)
      have HB2 := Lib.hid (hf2.blk HB1.out (fun h => h))
      clear hf2
      go_wp2_with ((with_reducible refine at_load4 25 ?_); refine wpList_load_blk 25 _ w.heap.size 0 25 (zoneC v) (zoneC v) _ (by rfl) rfl rfl HB2.out Tryz.underlying25 rfl (infoZn _) (zero_part _) ?_)
      refine (zOwn_any v w2).mono ?_
      rintro q w3 ⟨rfl, hf3⟩
      have HF3 := Lib.hid (ff4 HF2.out hf3)
      have HB3 := Lib.hid (hf3.blk HB2.out (fun h => h))
      clear hf3
      go_wp2_with fail
      refine (HN.out w3 HF3.out).mono ?_
      rintro q w4 ⟨rfl, hf4⟩
      have HF4 := Lib.hid (ff4 HF3.out hf4)
      have HB4 := Lib.hid (hf4.blk HB3.out (fun h => h))
      have n5 := Fr.new w4 (.cells (stateC st0) 38) (fun _ => False)
      have HF5 := Lib.hid (ff4 HF4.out n5)
      have HS5 := Lib.hid (Blk.made w4 38 (stateC st0))
      have HB5 := Lib.hid (n5.blk HB4.out (fun h => h))
      clear hf4 n5
      go_wp2_with (first
        | ((with_reducible refine at_store4 38 ?_); refine wpList_store_blk 38 _ _ w4.heap.size 0 38 (stateC st0) (stateC s) (stateC s) (by rfl) rfl rfl rfl rfl HS5.out (infoDs _) (stateC_one _) (show 0 + 3 ≤ 3 by decide) (put_st _ _) ?_
           intro W6 hf6 hb6
           have HF6 := Lib.hid (HF5.out.fresh hf6 (fun i e => by have e : i = w4.heap.size := e; have := HF4.out.size; omega))
           have HB6 := Lib.hid (hf6.blk HB5.out (fun e => by have e : w.heap.size = w4.heap.size := e; have := HB4.out.lt; omega))
           have HS6 := Lib.hid hb6
           clear hf6 hb6)
        | ((with_reducible refine at_load4 25 ?_); refine wpList_load_blk 25 _ w.heap.size 0 25 (zoneC v) (zoneC v) _ (by rfl) rfl rfl HB6.out Tryz.underlying25 rfl (infoZn _) (zero_part _) ?_))
      refine (zOwn_any v W6).mono ?_
      rintro q w7 ⟨rfl, hf7⟩
      have HF7 := Lib.hid (ff4 HF6.out hf7)
      have HB7 := Lib.hid (hf7.blk HB6.out (fun h => h))
      have HS7 := Lib.hid (hf7.blk HS6.out (fun h => h))
      clear hf7
      go_wp2_with fail
      refine (HZ.out w7 HF7.out).mono ?_
      rintro q w8 ⟨rfl, hf8⟩
      have HF8 := Lib.hid (ff4 HF7.out hf8)
      have HB8 := Lib.hid (hf8.blk HB7.out (fun h => h))
      have HS8 := Lib.hid (hf8.blk HS7.out (fun h => h))
      have n9 := Fr.new w8 (.cells (locC loc0) 29) (fun _ => False)
      have HF9 := Lib.hid (ff4 HF8.out n9)
      have HB9 := Lib.hid (n9.blk HB8.out (fun h => h))
      have HS9 := Lib.hid (n9.blk HS8.out (fun h => h))
      have HL9 := Lib.hid (Blk.made w8 29 (locC loc0))
      clear hf8 n9
      go_wp2_with (first
        | ((with_reducible refine at_store4 29 ?_); refine wpList_store_blk 29 _ _ w8.heap.size 0 29 (locC loc0) (locC loc0) (locC loc0) (by rfl) rfl rfl rfl rfl HL9.out (infoLo _) (locC_one _) (show 0 + 3 ≤ 3 by decide) (put_lo _ _) ?_
           intro W10 hf10 hb10
           have HF10 := Lib.hid (HF9.out.fresh hf10 (fun i e => by have e : i = w8.heap.size := e; have := HF8.out.size; omega))
           have HB10 := Lib.hid (hf10.blk HB9.out (fun e => by have e : w.heap.size = w8.heap.size := e; have := HB8.out.lt; omega))
           have HS10 := Lib.hid (hf10.blk HS9.out (fun e => by have e : w4.heap.size = w8.heap.size := e; have := HS8.out.lt; omega))
           have HL10 := Lib.hid hb10
           clear hf10 hb10)
        | ((with_reducible refine at_load4 29 ?_); refine wpList_load_blk 29 _ w8.heap.size 0 29 (locC loc0) (locC loc0) _ (by rfl) rfl rfl HL10.out Tryz.underlying29 rfl (infoLo _) (zero_part _) ?_)
        | ((with_reducible refine at_eql6 29 ?_); refine wpList_eql6 (t := 29) (cs := locC loc0) (ds := locC loc0) (b := true) (by rfl) rfl rfl rfl (guard_loc _ _ _ _) (eql_loc loc0) ?_))
      refine (HAl.out _ HF10.out).mono ?_
      rintro q w11 ⟨rfl, hf11⟩
      go_wp2_with fail
      go_ret
      exact ⟨rfl, ff4 HF10.out hf11⟩
  · rw [decide_eq_false hP] at HLt
    clear hm hw hv hR hP
    go_enter Tryz.func4, Tryz.ntmps4
    go_wp2_with ((with_reducible refine at_load4 25 ?_); refine wpList_load_blk 25 _ w.heap.size 0 25 (zoneC v) (zoneC v) _ (by rfl) rfl rfl HB1.out Tryz.underlying25 rfl (infoZn _) (zero_part _) ?_)
    refine (HLt.out _ HF1.out).mono ?_
    rintro e w2 ⟨rfl, hf2⟩
    have HF2 := Lib.hid (ff4 HF1.out hf2)
    clear hf2
    go_wp2_with fail
    refine (HAl.out w2 HF2.out).mono ?_
    rintro e w3 ⟨rfl, hf3⟩
    go_wp2_with fail
    go_ret
    exact ⟨rfl, ff4 HF2.out hf3⟩
end Go.Proofs.YtghcfmoagkimaaaGreatDoor
