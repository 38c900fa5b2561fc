import Derived.Test.YtghcfmoagkimaaaGreatDoorYa28
import Derived.Test.YtghcfmoagkimaaaGreatDoorYa30
import Derived.Test.YtghcfmoagkimaaaGreatDoorYa24
import Derived.Test.YtghcfmoagkimaaaGreatDoorYa09
namespace Go.Proofs.YtghcfmoagkimaaaGreatDoor
open Go.RowKit Go.Mem Go.Lin Go.Fmx Go.Den

theorem results_f16At (tmps : Array Value) (w : World) (q : Nat) (s : LocD) (u : Value) (h4 : tmps.getD 4 undef = .pointer (some ⟨q, 0, none⟩)) (h5 : tmps.getD 5 undef = u)
    (hb : Blk w q 29 (locC s)) : (results Tryz.f7 tmps).run Tryz.prog w = .ok (.tuple #[locV s, u]) w := by
  have h4' : tmps[4]?.getD undef = .pointer (some ⟨q, 0, none⟩) := by simpa using h4
  have h5' : tmps[5]?.getD undef = u := by simpa using h5
  have hL := run_loadVar_blk (P := Tryz.prog) w q 0 29 29 (locC s) (locC s) _ hb Tryz.underlying29 rfl (infoLo s) (zero_part _)
  simp [results, Tryz.results7, h4', h5', asAddr, hL]
set_option maxHeartbeats 6400000 in
set_option maxRecDepth 100000 in
theorem f16At_any (v : ZnV) (t : Int) (w : World) (hm : MOk w) (hw : S6.WOk w) (hv : ZnAt w v) (hR : ZnR v) (hL : LightZ v) (ht : S6.inRange t) :
    Calls Tryz.prog 7 #[.agg (zoneC v), intV t] w fun q w' => q = .returned (.tuple #[locV (atD16 (znD v) t).1, intV (atD16 (znD v) t).2]) ∧ Fr w w' (fun _ => False) := by
  obtain ⟨w1, hw1⟩ : ∃ w1, w.alloc (.cells (zoneC v) 33) = w1 := ⟨_, rfl⟩
  obtain ⟨w2, hw2⟩ : ∃ w2, w1.alloc (.cells (locC loc0) 29) = w2 := ⟨_, rfl⟩
  have z1 : w1.heap.size = w.heap.size + 1 := by rw [← hw1]; simp
  have n2 : Fr w1 w2 (fun _ => False) := by rw [← hw2]; exact Fr.new _ _ _
  have n1 : Fr w w2 (fun _ => False) := ff4 (by rw [← hw1]; exact Fr.new _ _ _) n2
  have HB1 := Lib.hid (show Blk w2 w.heap.size 33 (zoneC v) from n2.blk (by rw [← hw1]; exact Blk.made w _ _) (fun h => h))
  have HB2 := Lib.hid (show Blk w2 (w.heap.size + 1) 29 (locC loc0) by rw [← hw2, ← z1]; exact Blk.made w1 _ _)
  have e2 : (w.alloc (.cells (zoneC v) 33)).alloc (.cells #[.int .i64 0, .bool false, .string ⟨#[]⟩] 29) = w2 := by
    rw [hw1, ← hw2]; rfl
  have HF2 := Lib.hid n1
  have HA := Lib.hid (nAt_any v t w2 (hw.fr n1) (hv.kept n1) hR hL.weak ht)
  have HV := Lib.hid hv
  have HM := Lib.hid (fun W (g : Fr w W (fun _ => False)) => hm.fr g)
  have HBad := Lib.hid (at16_bad (v := v) (t := t))
  have HSt := Lib.hid (at_state (t := t) hL.v hR)
  have HIn := Lib.hid (fun i e s => at16_in (v := v) (t := t) (i := i) (e := e) (s := s))
  have HFm := Lib.hid (fun (e : EraL) (he : e ∈ v.eras) => (hL.2.2.2 e he).2.2.2.2.2.2.2)
  clear hw1 hw2 z1 n1 n2 hv hR hL ht hw hm
  by_cases hk : (atD (znD v) t).2 = 0
  · obtain ⟨i, e, s, he, hat, hsi, hsl, hs1, hs2, hok⟩ := HSt.out hk
    have HR := Lib.hid (HIn.out i e s he hat hsi)
    rw [hat] at HA
    have HA := Lib.hid (show Calls Tryz.prog 10 #[.agg (zoneC v), intV t] w2 fun q w' => q = .returned (.tuple #[stateV s, intV 0]) ∧ Fr w2 w' (fun _ => False) from HA.out)
    have hfl := HFm.out e (List.mem_of_getElem? he)
    have HO := Lib.hid (fun W (h : MOk W) => f16Of_any e s W h (by omega) (by omega) ⟨by have := hok.1; omega, by have := hok.2.1; omega⟩ ⟨by omega, by omega⟩)
    have HEr := Lib.hid he
    have HSi := Lib.hid hsi
    have hin := (List.getElem?_eq_some_iff.1 he).1
    have i1 : (i : Int) < (v.eras.length : Int) := by omega
    have i0 : (0 : Int) ≤ (i : Int) := by omega
    obtain ⟨x, hx⟩ : ∃ x, ofD16 e s = x := ⟨_, rfl⟩
    obtain ⟨x, k⟩ := x
    rw [hx] at HR HO
    have HO := Lib.hid (show ∀ W, MOk W → Calls Tryz.prog 14 #[.agg (eraC e), stateV s] W fun q w' => q = .returned (.tuple #[locV x, intV k]) ∧ Fr W w' (fun _ => False) from HO.out)
    clear hk he hat hsi hsl hs1 hs2 hok hfl hx hin HBad HSt HIn HFm
    go_enter Tryz.func7, Tryz.ntmps7
    go_wp2_with ((with_reducible refine at_load4 33 ?_); refine wpList_load_blk 33 _ w.heap.size 0 33 (zoneC v) (zoneC v) _ (by rfl) rfl rfl HB1.out Tryz.underlying33 rfl (infoDn _) (zero_part _) ?_)
    refine HA.out.mono ?_
    rintro q w4 ⟨rfl, hf4⟩
    have HF4 := Lib.hid (ff4 HF2.out hf4)
    have HZ4 := Lib.hid (hf4.blk HB1.out (fun h => h))
    have HL4 := Lib.hid (hf4.blk HB2.out (fun h => h))
    have n5 := Fr.new w4 (.cells (stateC st0) 38) (fun _ => False)
    have HF5 := Lib.hid (ff4 HF4.out n5)
    have HS5 := Lib.hid (Blk.made w4 38 (stateC st0))
    have HZ5 := Lib.hid (n5.blk HZ4.out (fun h => h))
    have HL5 := Lib.hid (n5.blk HL4.out (fun h => h))
    clear hf4 n5
    go_wp2_with (first
      | ((with_reducible refine at_store4 38 ?_); refine wpList_store_blk 38 _ _ w4.heap.size 0 38 (stateC st0) (stateC s) (stateC s) (by rfl) rfl rfl rfl rfl HS5.out (infoSd _) (stateC_one _) (show 0 + 3 ≤ 3 by decide) (put_st _ _) ?_
         intro W6 hf6 hb6
         have HF6 := Lib.hid (HF5.out.fresh hf6 (fun i e => by have e : i = w4.heap.size := e; have := HF4.out.size; omega))
         have HZ6 := Lib.hid (hf6.blk HZ5.out (fun e => by have e : w.heap.size = w4.heap.size := e; have := HZ4.out.lt; omega))
         have HL6 := Lib.hid (hf6.blk HL5.out (fun e => by have e : w.heap.size + 1 = w4.heap.size := e; have := HL4.out.lt; omega))
         have HS6 := Lib.hid hb6
         clear hf6 hb6))
    obtain ⟨b, off, hA, hc⟩ := (HV.out.e.kept HF6.out).at_ HEr.out
    have hbo : b < W6.heap.size := by
      have c0 : W6.cell? ⟨b, off + i * 13 + 0, none⟩ = some (intV e.off) := hc 0 (show 0 < 13 by decide)
      exact World.block_lt_of_cell? _ _ c0
    obtain ⟨hbD, hcT⟩ : b ≠ w.heap.size + 1 ∧ True := ⟨by
      have h0 := HV.out.e.at_ HEr.out
      obtain ⟨b', off', hA', hc'⟩ := h0
      rw [hA] at hA'
      obtain ⟨rfl, rfl⟩ : b = b' ∧ off = off' := by simpa using hA'
      have c0 : w.cell? ⟨b, off + i * 13 + 0, none⟩ = some (intV e.off) := hc' 0 (show 0 < 13 by decide)
      have hbw : b < w.heap.size := World.block_lt_of_cell? _ _ c0
      omega, trivial⟩
    have HCx := Lib.hid hc
    have z0 : W6.cell? ⟨w.heap.size, 0, none⟩ = some (.slice (some ⟨b, off, none⟩) v.eras.length v.ce) := by rw [← hA]; exact blkc HZ6.out 0 _ rfl
    have s0 : W6.cell? ⟨w4.heap.size, 0, none⟩ = some (.int .i64 (i : Int)) := by rw [← HSi.out]; exact blkc HS6.out 0 _ rfl
    have hwD : w4.heap.size ≠ w.heap.size + 1 := by have := HL4.out.lt; omega
    clear hc hA hcT
    refine wp_region_held_drew (S := fun w' => Fr W6 w' (fun i => i = w.heap.size + 1) ∧ ∃ y, Blk w' (w.heap.size + 1) 29 (locC y)) (by kernel_rfl) (⟨Fr.drew W6 _, loc0, HL6.out⟩) (fun hHeld => ?_)
    refine wpAnyH_take (i := 0) (v := ?_) rfl (by kernel_rfl) (by kernel_rfl) (by kernel_rfl) (fun _ _ _ h => h) (Or.inl ⟨by rfl, ?_⟩) (by assumption) ?_
    rotate_left
    · intro w' hSw
      go_simp
      try with_reducible rfl
    try simp only [Act.put, List.setIfInBounds_toArray, List.set_cons_zero, List.set_cons_succ, List.getElem_toArray, List.getElem_cons_zero]
    refine wpAnyH_take (i := 1) (v := ?_) rfl (by kernel_rfl) (by kernel_rfl) (by kernel_rfl) (fun _ _ _ h => h) (Or.inl ⟨by rfl, ?_⟩) (by assumption) ?_
    rotate_left
    · intro w' hSw
      have c1 : w'.cell? ⟨w.heap.size, 0, none⟩ = some (.slice (some ⟨b, off, none⟩) v.eras.length v.ce) := cell_far hSw.1 z0 (fun e => by omega)
      go_simp
      try with_reducible rfl
    try simp only [Act.put, List.setIfInBounds_toArray, List.set_cons_zero, List.set_cons_succ, List.getElem_toArray, List.getElem_cons_succ, List.getElem_cons_zero]
    refine wpAnyH_take (i := 2) (v := ?_) rfl (by kernel_rfl) (by kernel_rfl) (by kernel_rfl) (fun _ _ _ h => h) (Or.inl ⟨by rfl, ?_⟩) (by assumption) ?_
    rotate_left
    · intro w' hSw
      go_simp
      try with_reducible rfl
    try simp only [Act.put, List.setIfInBounds_toArray, List.set_cons_zero, List.set_cons_succ, List.getElem_toArray, List.getElem_cons_succ, List.getElem_cons_zero]
    refine wpAnyH_take (i := 3) (v := ?_) rfl (by kernel_rfl) (by kernel_rfl) (by kernel_rfl) (fun _ _ _ h => h) (Or.inl ⟨by rfl, ?_⟩) (by assumption) ?_
    rotate_left
    · intro w' hSw
      have c1 : w'.cell? ⟨w4.heap.size, 0, none⟩ = some (.int .i64 (i : Int)) := cell_far hSw.1 s0 hwD
      go_simp
      try with_reducible rfl
    try simp only [Act.put, List.setIfInBounds_toArray, List.set_cons_zero, List.set_cons_succ, List.getElem_toArray, List.getElem_cons_succ, List.getElem_cons_zero]
    refine wpAnyH_take (i := 4) (v := ?_) rfl (by kernel_rfl) (by kernel_rfl) (by kernel_rfl) (fun _ _ _ h => h) (Or.inl ⟨by rfl, ?_⟩) (by assumption) ?_
    rotate_left
    · intro w' hSw
      go_simp
      try with_reducible rfl
    try simp only [Act.put, List.setIfInBounds_toArray, List.set_cons_zero, List.set_cons_succ, List.getElem_toArray, List.getElem_cons_succ, List.getElem_cons_zero]
    refine wpAnyH_take (i := 5) (v := _) rfl (by kernel_rfl) (by kernel_rfl) (by kernel_rfl) (fun _ _ _ h => h) (yields_at 48 _ b (off + i * 13) (eraC e) _ (by rfl) rfl rfl (fun w' hSw j hj => (World.cell?_of_block (w := W6) (hSw.1.block b hbo hbD) (a := ⟨b, off + i * 13 + j, none⟩)).trans (HCx.out j hj)) Tryz.underlying48 rfl (infoE _)) (by assumption) ?_
    try simp only [Act.put, List.setIfInBounds_toArray, List.set_cons_zero, List.set_cons_succ, List.getElem_toArray, List.getElem_cons_succ, List.getElem_cons_zero]
    refine wpAnyH_take (i := 6) (v := _) rfl (by kernel_rfl) (by kernel_rfl) (by kernel_rfl) (fun _ _ _ h => h) (yields_blk 38 _ w4.heap.size 0 38 (stateC s) (stateC s) _ (by rfl) rfl rfl (fun w' hSw => hSw.1.blk HS6.out hwD) Tryz.underlying38 rfl (infoSd _) (zero_part _)) (by assumption) ?_
    try simp only [Act.put, List.setIfInBounds_toArray, List.set_cons_zero, List.set_cons_succ, List.getElem_toArray, List.getElem_cons_succ, List.getElem_cons_zero]
    refine wpAnyH_ready (rs := [7]) (by kernel_rfl) (by simp) ?_
    refine AllReadyH.cons rfl (fun K hK => ?_) AllReadyH.nil
    go_simp
    refine (HO.out _ (HM.out _ (HF6.out.fresh hHeld.1 (fun i e => by have e : i = w.heap.size + 1 := e; omega)))).mono ?_
    rintro q w8 ⟨rfl, hf8⟩
    refine hK.out _ _ ⟨hHeld.1.trans hf8 (fun _ _ h => h) (fun _ _ h => h.elim), hHeld.2.choose, hf8.blk hHeld.2.choose_spec (fun h => h)⟩ (fun hHeld2 => ?_)
    clear hK K hHeld hf8
    rename_i hHeld2
    have hHeld := hHeld2
    clear hHeld2
    try simp only [Act.put, List.setIfInBounds_toArray, List.set_cons_zero, List.set_cons_succ, List.getElem_toArray, List.getElem_cons_succ, List.getElem_cons_zero]
    refine wpAnyH_take (i := 8) (v := ?_) rfl (by kernel_rfl) (by kernel_rfl) (by kernel_rfl) (fun _ _ _ h => h) (Or.inl ⟨by rfl, ?_⟩) (by assumption) ?_
    rotate_left
    · intro w' hSw
      go_simp
      try with_reducible rfl
    try simp only [Act.put, List.setIfInBounds_toArray, List.set_cons_zero, List.set_cons_succ, List.getElem_toArray, List.getElem_cons_succ, List.getElem_cons_zero]
    refine wpAnyH_take (i := 9) (v := ?_) rfl (by kernel_rfl) (by kernel_rfl) (by kernel_rfl) (fun _ _ _ h => h) (Or.inl ⟨by rfl, ?_⟩) (by assumption) ?_
    rotate_left
    · intro w' hSw
      go_simp
      try with_reducible rfl
    try simp only [Act.put, List.setIfInBounds_toArray, List.set_cons_zero, List.set_cons_succ, List.getElem_toArray, List.getElem_cons_succ, List.getElem_cons_zero]
    refine wpAnyH_putN 10 _ rfl (by kernel_rfl) rfl rfl rfl (w.heap.size + 1) 0 29 (locC hHeld.2.choose) (locC x) (locC x) hHeld.2.choose_spec rfl rfl (infoLo _) (locC_one _) (show 0 + 3 ≤ 3 by decide) (put_lo _ _) (fun W hf hb => ⟨hHeld.1.trans hf (fun _ _ h => h) (fun _ _ h => h), x, hb⟩) ?_
    intro W9 hS9 hf9 hb9
    have HF9 := Lib.hid (HF6.out.fresh (hHeld.1.trans hf9 (fun _ _ h => h) (fun _ _ h => h) : Fr W6 W9 (fun i => i = w.heap.size + 1)) (fun i e => by have e : i = w.heap.size + 1 := e; omega))
    have HB9 := Lib.hid hb9
    clear hHeld hf9 hb9
    have hHeld := hS9
    try simp only [Act.put, List.setIfInBounds_toArray, List.set_cons_zero, List.set_cons_succ, List.getElem_toArray, List.getElem_cons_succ, List.getElem_cons_zero]
    refine wpAnyH_take (i := 11) (v := ?_) rfl (by kernel_rfl) (by kernel_rfl) (by kernel_rfl) (fun _ _ _ h => h) (Or.inl ⟨by rfl, ?_⟩) (by assumption) ?_
    rotate_left
    · intro w' hSw
      go_simp
      try with_reducible rfl
    try simp only [Act.put, List.setIfInBounds_toArray, List.set_cons_zero, List.set_cons_succ, List.getElem_toArray, List.getElem_cons_succ, List.getElem_cons_zero]
    refine wpAnyH_done (by kernel_rfl) ?_ _
    go_wp2_with fail
    exact bodyPost_ret (results_f16At _ _ (w.heap.size + 1) x (intV k) rfl rfl HB9.out) rfl ⟨by rw [HR.out], HF9.out⟩
  · have HR := Lib.hid (HBad.out hk)
    obtain ⟨s, k, hsk⟩ : ∃ s k, atD (znD v) t = (s, k) := ⟨_, _, rfl⟩
    rw [hsk] at HA HR hk
    have HA := Lib.hid (show Calls Tryz.prog 10 #[.agg (zoneC v), intV t] w2 fun q w' => q = .returned (.tuple #[stateV s, intV k]) ∧ Fr w2 w' (fun _ => False) from HA.out)
    have HR := Lib.hid (show atD16 (znD v) t = (loc0, k) from HR.out)
    have k0 : (k == 0) = false := beq_eq_false_iff_ne.2 hk
    clear hk hsk HBad HSt HIn HFm
    go_enter Tryz.func7, Tryz.ntmps7
    go_wp2_with ((with_reducible refine at_load4 33 ?_); refine wpList_load_blk 33 _ w.heap.size 0 33 (zoneC v) (zoneC v) _ (by rfl) rfl rfl HB1.out Tryz.underlying33 rfl (infoDn _) (zero_part _) ?_)
    refine HA.out.mono ?_
    rintro q w4 ⟨rfl, hf4⟩
    have HF4 := Lib.hid (ff4 HF2.out hf4)
    have HZ4 := Lib.hid (hf4.blk HB1.out (fun h => h))
    have HL4 := Lib.hid (hf4.blk HB2.out (fun h => h))
    have n5 := Fr.new w4 (.cells (stateC st0) 38) (fun _ => False)
    have HF5 := Lib.hid (ff4 HF4.out n5)
    have HS5 := Lib.hid (Blk.made w4 38 (stateC st0))
    have HZ5 := Lib.hid (n5.blk HZ4.out (fun h => h))
    have HL5 := Lib.hid (n5.blk HL4.out (fun h => h))
    clear hf4 n5
    go_wp2_with (first
      | ((with_reducible refine at_store4 38 ?_); refine wpList_store_blk 38 _ _ w4.heap.size 0 38 (stateC st0) (stateC s) (stateC s) (by rfl) rfl rfl rfl rfl HS5.out (infoSd _) (stateC_one _) (show 0 + 3 ≤ 3 by decide) (put_st _ _) ?_
         intro W6 hf6 hb6
         have HF6 := Lib.hid (HF5.out.fresh hf6 (fun i e => by have e : i = w4.heap.size := e; have := HF4.out.size; omega))
         have HZ6 := Lib.hid (hf6.blk HZ5.out (fun e => by have e : w.heap.size = w4.heap.size := e; have := HZ4.out.lt; omega))
         have HL6 := Lib.hid (hf6.blk HL5.out (fun e => by have e : w.heap.size + 1 = w4.heap.size := e; have := HL4.out.lt; omega))
         have HS6 := Lib.hid hb6
         clear hf6 hb6)
      | ((with_reducible refine at_store4 29 ?_); refine wpList_store_blk 29 _ _ (w.heap.size + 1) 0 29 (locC loc0) (locC loc0) (locC loc0) (by rfl) rfl rfl rfl rfl HL6.out (infoLo _) (locC_one _) (show 0 + 3 ≤ 3 by decide) (put_lo _ _) ?_
         intro W9 hf9 hb9
         have HF9 := Lib.hid (HF6.out.fresh hf9 (fun i e => by have e : i = w.heap.size + 1 := e; omega))
         have HB9 := Lib.hid hb9
         clear hf9 hb9))
    exact bodyPost_ret (results_f16At _ _ (w.heap.size + 1) loc0 (intV k) rfl rfl HB9.out) rfl ⟨by rw [HR.out], HF9.out⟩
end Go.Proofs.YtghcfmoagkimaaaGreatDoor
namespace Go.Proofs.YtghcfmoagkimaaaGreatDoor
open Go.RowKit Go.Mem Go.Lin Go.Fmx Go.Den

theorem results_r16At (tmps : Array Value) (w : World) (q : Nat) (s : LocD) (u : Value) (h4 : tmps.getD 4 undef = .pointer (some ⟨q, 0, none⟩)) (h5 : tmps.getD 5 undef = u)
    (hb : Blk w q 29 (locC s)) : (results Tryz.f9 tmps).run Tryz.prog w = .ok (.tuple #[locV s, u]) w := by
  have h4' : tmps[4]?.getD undef = .pointer (some ⟨q, 0, none⟩) := by simpa using h4
  have h5' : tmps[5]?.getD undef = u := by simpa using h5
  have hL := run_loadVar_blk (P := Tryz.prog) w q 0 29 29 (locC s) (locC s) _ hb Tryz.underlying29 rfl (infoLo s) (zero_part _)
  simp [results, Tryz.results9, h4', h5', asAddr, hL]
set_option maxHeartbeats 6400000 in
set_option maxRecDepth 100000 in
theorem r16At_any (v : ZnV) (t : Int) (w : World) (hv : ZnAt w v) (hR : ZnR v) (hL : LightZ v) (ht : S6.inRange t) :
    Calls Tryz.prog 9 #[.agg (zoneC v), intV t] w fun q w' => q = .returned (.tuple #[locV (atD16 (znD v) t).1, intV (atD16 (znD v) t).2]) ∧ Fr w w' (fun _ => False) := by
  obtain ⟨w1, hw1⟩ : ∃ w1, w.alloc (.cells (zoneC v) 25) = w1 := ⟨_, rfl⟩
  obtain ⟨w2, hw2⟩ : ∃ w2, w1.alloc (.cells (locC loc0) 29) = w2 := ⟨_, rfl⟩
  have z1 : w1.heap.size = w.heap.size + 1 := by rw [← hw1]; simp
  have n2 : Fr w1 w2 (fun _ => False) := by rw [← hw2]; exact Fr.new _ _ _
  have n1 : Fr w w2 (fun _ => False) := ff4 (by rw [← hw1]; exact Fr.new _ _ _) n2
  have HB1 := Lib.hid (show Blk w2 w.heap.size 25 (zoneC v) from n2.blk (by rw [← hw1]; exact Blk.made w _ _) (fun h => h))
  have HB2 := Lib.hid (show Blk w2 (w.heap.size + 1) 29 (locC loc0) by rw [← hw2, ← z1]; exact Blk.made w1 _ _)
  have e2 : (w.alloc (.cells (zoneC v) 25)).alloc (.cells #[.int .i64 0, .bool false, .string ⟨#[]⟩] 29) = w2 := by
    rw [hw1, ← hw2]; rfl
  have HF2 := Lib.hid n1
  have HA := Lib.hid (zAt_any v t w2 (hv.kept n1) hL ht)
  have HV := Lib.hid hv
  have HBad := Lib.hid (at16_bad (v := v) (t := t))
  have HSt := Lib.hid (at_state (t := t) hL.v hR)
  have HIn := Lib.hid (fun i e s => at16_in (v := v) (t := t) (i := i) (e := e) (s := s))
  have HFm := Lib.hid (fun (e : EraL) (he : e ∈ v.eras) => (hL.2.2.2 e he).2.2.2.2.2.2.2)
  clear hw1 hw2 z1 n1 n2 hv hR hL ht
  by_cases hk : (atD (znD v) t).2 = 0
  · obtain ⟨i, e, s, he, hat, hsi, hsl, hs1, hs2, hok⟩ := HSt.out hk
    have HR := Lib.hid (HIn.out i e s he hat hsi)
    rw [hat] at HA
    have HA := Lib.hid (show Calls Tryz.prog 15 #[.agg (zoneC v), intV t] w2 fun q w' => q = .returned (.tuple #[stateV s, intV 0]) ∧ Fr w2 w' (fun _ => False) from HA.out)
    have hfl := HFm.out e (List.mem_of_getElem? he)
    have HO := Lib.hid (fun W => r16Of_any e s W (by omega) (by omega) ⟨by have := hok.1; omega, by have := hok.2.1; omega⟩ ⟨by omega, by omega⟩)
    have HEr := Lib.hid he
    have HSi := Lib.hid hsi
    have hin := (List.getElem?_eq_some_iff.1 he).1
    have i1 : (i : Int) < (v.eras.length : Int) := by omega
    have i0 : (0 : Int) ≤ (i : Int) := by omega
    obtain ⟨x, hx⟩ : ∃ x, ofD16 e s = x := ⟨_, rfl⟩
    obtain ⟨x, k⟩ := x
    rw [hx] at HR HO
    have HO := Lib.hid (show ∀ W, Calls Tryz.prog 16 #[.agg (eraC e), stateV s] W fun q w' => q = .returned (.tuple #[locV x, intV k]) ∧ Fr W w' (fun _ => False) from HO.out)
    clear hk he hat hsi hsl hs1 hs2 hok hfl hx hin HBad HSt HIn HFm
    go_enter Tryz.func9, Tryz.ntmps9
    go_wp2_with ((with_reducible refine at_load4 25 ?_); refine wpList_load_blk 25 _ w.heap.size 0 25 (zoneC v) (zoneC v) _ (by rfl) rfl rfl HB1.out Tryz.underlying25 rfl (infoZn _) (zero_part _) ?_)
    refine HA.out.mono ?_
    rintro q w4 ⟨rfl, hf4⟩
    have HF4 := Lib.hid (ff4 HF2.out hf4)
    have HZ4 := Lib.hid (hf4.blk HB1.out (fun h => h))
    have HL4 := Lib.hid (hf4.blk HB2.out (fun h => h))
    have n5 := Fr.new w4 (.cells (stateC st0) 55) (fun _ => False)
    have HF5 := Lib.hid (ff4 HF4.out n5)
    have HS5 := Lib.hid (Blk.made w4 55 (stateC st0))
    have HZ5 := Lib.hid (n5.blk HZ4.out (fun h => h))
    have HL5 := Lib.hid (n5.blk HL4.out (fun h => h))
    clear hf4 n5
    go_wp2_with (first
      | ((with_reducible refine at_store4 55 ?_); refine wpList_store_blk 55 _ _ w4.heap.size 0 55 (stateC st0) (stateC s) (stateC s) (by rfl) rfl rfl rfl rfl HS5.out (infoSt _) (stateC_one _) (show 0 + 3 ≤ 3 by decide) (put_st _ _) ?_
         intro W6 hf6 hb6
         have HF6 := Lib.hid (HF5.out.fresh hf6 (fun i e => by have e : i = w4.heap.size := e; have := HF4.out.size; omega))
         have HZ6 := Lib.hid (hf6.blk HZ5.out (fun e => by have e : w.heap.size = w4.heap.size := e; have := HZ4.out.lt; omega))
         have HL6 := Lib.hid (hf6.blk HL5.out (fun e => by have e : w.heap.size + 1 = w4.heap.size := e; have := HL4.out.lt; omega))
         have HS6 := Lib.hid hb6
         clear hf6 hb6))
    obtain ⟨b, off, hA, hc⟩ := (HV.out.e.kept HF6.out).at_ HEr.out
    have hbo : b < W6.heap.size := by
      have c0 : W6.cell? ⟨b, off + i * 13 + 0, none⟩ = some (intV e.off) := hc 0 (show 0 < 13 by decide)
      exact World.block_lt_of_cell? _ _ c0
    obtain ⟨hbD, hcT⟩ : b ≠ w.heap.size + 1 ∧ True := ⟨by
      have h0 := HV.out.e.at_ HEr.out
      obtain ⟨b', off', hA', hc'⟩ := h0
      rw [hA] at hA'
      obtain ⟨rfl, rfl⟩ : b = b' ∧ off = off' := by simpa using hA'
      have c0 : w.cell? ⟨b, off + i * 13 + 0, none⟩ = some (intV e.off) := hc' 0 (show 0 < 13 by decide)
      have hbw : b < w.heap.size := World.block_lt_of_cell? _ _ c0
      omega, trivial⟩
    have HCx := Lib.hid hc
    have z0 : W6.cell? ⟨w.heap.size, 0, none⟩ = some (.slice (some ⟨b, off, none⟩) v.eras.length v.ce) := by rw [← hA]; exact blkc HZ6.out 0 _ rfl
    have s0 : W6.cell? ⟨w4.heap.size, 0, none⟩ = some (.int .i64 (i : Int)) := by rw [← HSi.out]; exact blkc HS6.out 0 _ rfl
    have hwD : w4.heap.size ≠ w.heap.size + 1 := by have := HL4.out.lt; omega
    clear hc hA hcT
    refine wp_region_held_drew (S := fun w' => Fr W6 w' (fun i => i = w.heap.size + 1) ∧ ∃ y, Blk w' (w.heap.size + 1) 29 (locC y)) (by kernel_rfl) (⟨Fr.drew W6 _, loc0, HL6.out⟩) (fun hHeld => ?_)
    refine wpAnyH_take (i := 0) (v := ?_) rfl (by kernel_rfl) (by kernel_rfl) (by kernel_rfl) (fun _ _ _ h => h) (Or.inl ⟨by rfl, ?_⟩) (by assumption) ?_
    rotate_left
    · intro w' hSw
      go_simp
      try with_reducible rfl
    try simp only [Act.put, List.setIfInBounds_toArray, List.set_cons_zero, List.set_cons_succ, List.getElem_toArray, List.getElem_cons_zero]
    refine wpAnyH_take (i := 1) (v := ?_) rfl (by kernel_rfl) (by kernel_rfl) (by kernel_rfl) (fun _ _ _ h => h) (Or.inl ⟨by rfl, ?_⟩) (by assumption) ?_
    rotate_left
    · intro w' hSw
      have c1 : w'.cell? ⟨w.heap.size, 0, none⟩ = some (.slice (some ⟨b, off, none⟩) v.eras.length v.ce) := cell_far hSw.1 z0 (fun e => by omega)
      go_simp
      try with_reducible rfl
    try simp only [Act.put, List.setIfInBounds_toArray, List.set_cons_zero, List.set_cons_succ, List.getElem_toArray, List.getElem_cons_succ, List.getElem_cons_zero]
    refine wpAnyH_take (i := 2) (v := ?_) rfl (by kernel_rfl) (by kernel_rfl) (by kernel_rfl) (fun _ _ _ h => h) (Or.inl ⟨by rfl, ?_⟩) (by assumption) ?_
    rotate_left
    · intro w' hSw
      go_simp
      try with_reducible rfl
    try simp only [Act.put, List.setIfInBounds_toArray, List.set_cons_zero, List.set_cons_succ, List.getElem_toArray, List.getElem_cons_succ, List.getElem_cons_zero]
    refine wpAnyH_take (i := 3) (v := ?_) rfl (by kernel_rfl) (by kernel_rfl) (by kernel_rfl) (fun _ _ _ h => h) (Or.inl ⟨by rfl, ?_⟩) (by assumption) ?_
    rotate_left
    · intro w' hSw
      have c1 : w'.cell? ⟨w4.heap.size, 0, none⟩ = some (.int .i64 (i : Int)) := cell_far hSw.1 s0 hwD
      go_simp
      try with_reducible rfl
    try simp only [Act.put, List.setIfInBounds_toArray, List.set_cons_zero, List.set_cons_succ, List.getElem_toArray, List.getElem_cons_succ, List.getElem_cons_zero]
    refine wpAnyH_take (i := 4) (v := ?_) rfl (by kernel_rfl) (by kernel_rfl) (by kernel_rfl) (fun _ _ _ h => h) (Or.inl ⟨by rfl, ?_⟩) (by assumption) ?_
    rotate_left
    · intro w' hSw
      go_simp
      try with_reducible rfl
    try simp only [Act.put, List.setIfInBounds_toArray, List.set_cons_zero, List.set_cons_succ, List.getElem_toArray, List.getElem_cons_succ, List.getElem_cons_zero]
    refine wpAnyH_take (i := 5) (v := _) rfl (by kernel_rfl) (by kernel_rfl) (by kernel_rfl) (fun _ _ _ h => h) (yields_at 48 _ b (off + i * 13) (eraC e) _ (by rfl) rfl rfl (fun w' hSw j hj => (World.cell?_of_block (w := W6) (hSw.1.block b hbo hbD) (a := ⟨b, off + i * 13 + j, none⟩)).trans (HCx.out j hj)) Tryz.underlying48 rfl (infoE _)) (by assumption) ?_
    try simp only [Act.put, List.setIfInBounds_toArray, List.set_cons_zero, List.set_cons_succ, List.getElem_toArray, List.getElem_cons_succ, List.getElem_cons_zero]
    refine wpAnyH_take (i := 6) (v := _) rfl (by kernel_rfl) (by kernel_rfl) (by kernel_rfl) (fun _ _ _ h => h) (yields_blk 55 _ w4.heap.size 0 55 (stateC s) (stateC s) _ (by rfl) rfl rfl (fun w' hSw => hSw.1.blk HS6.out hwD) Tryz.underlying55 rfl (infoSt _) (zero_part _)) (by assumption) ?_
    try simp only [Act.put, List.setIfInBounds_toArray, List.set_cons_zero, List.set_cons_succ, List.getElem_toArray, List.getElem_cons_succ, List.getElem_cons_zero]
    refine wpAnyH_ready (rs := [7]) (by kernel_rfl) (by simp) ?_
    refine AllReadyH.cons rfl (fun K hK => ?_) AllReadyH.nil
    go_simp
    refine (HO.out _).mono ?_
    rintro q w8 ⟨rfl, hf8⟩
    refine hK.out _ _ ⟨hHeld.1.trans hf8 (fun _ _ h => h) (fun _ _ h => h.elim), hHeld.2.choose, hf8.blk hHeld.2.choose_spec (fun h => h)⟩ (fun hHeld2 => ?_)
    clear hK K hHeld hf8
    rename_i hHeld2
    have hHeld := hHeld2
    clear hHeld2
    try simp only [Act.put, List.setIfInBounds_toArray, List.set_cons_zero, List.set_cons_succ, List.getElem_toArray, List.getElem_cons_succ, List.getElem_cons_zero]
    refine wpAnyH_take (i := 8) (v := ?_) rfl (by kernel_rfl) (by kernel_rfl) (by kernel_rfl) (fun _ _ _ h => h) (Or.inl ⟨by rfl, ?_⟩) (by assumption) ?_
    rotate_left
    · intro w' hSw
      go_simp
      try with_reducible rfl
    try simp only [Act.put, List.setIfInBounds_toArray, List.set_cons_zero, List.set_cons_succ, List.getElem_toArray, List.getElem_cons_succ, List.getElem_cons_zero]
    refine wpAnyH_take (i := 9) (v := ?_) rfl (by kernel_rfl) (by kernel_rfl) (by kernel_rfl) (fun _ _ _ h => h) (Or.inl ⟨by rfl, ?_⟩) (by assumption) ?_
    rotate_left
    · intro w' hSw
      go_simp
      try with_reducible rfl
    try simp only [Act.put, List.setIfInBounds_toArray, List.set_cons_zero, List.set_cons_succ, List.getElem_toArray, List.getElem_cons_succ, List.getElem_cons_zero]
    refine wpAnyH_putN 10 _ rfl (by kernel_rfl) rfl rfl rfl (w.heap.size + 1) 0 29 (locC hHeld.2.choose) (locC x) (locC x) hHeld.2.choose_spec rfl rfl (infoLo _) (locC_one _) (show 0 + 3 ≤ 3 by decide) (put_lo _ _) (fun W hf hb => ⟨hHeld.1.trans hf (fun _ _ h => h) (fun _ _ h => h), x, hb⟩) ?_
    intro W9 hS9 hf9 hb9
    have HF9 := Lib.hid (HF6.out.fresh (hHeld.1.trans hf9 (fun _ _ h => h) (fun _ _ h => h) : Fr W6 W9 (fun i => i = w.heap.size + 1)) (fun i e => by have e : i = w.heap.size + 1 := e; omega))
    have HB9 := Lib.hid hb9
    clear hHeld hf9 hb9
    have hHeld := hS9
    try simp only [Act.put, List.setIfInBounds_toArray, List.set_cons_zero, List.set_cons_succ, List.getElem_toArray, List.getElem_cons_succ, List.getElem_cons_zero]
    refine wpAnyH_take (i := 11) (v := ?_) rfl (by kernel_rfl) (by kernel_rfl) (by kernel_rfl) (fun _ _ _ h => h) (Or.inl ⟨by rfl, ?_⟩) (by assumption) ?_
    rotate_left
    · intro w' hSw
      go_simp
      try with_reducible rfl
    try simp only [Act.put, List.setIfInBounds_toArray, List.set_cons_zero, List.set_cons_succ, List.getElem_toArray, List.getElem_cons_succ, List.getElem_cons_zero]
    refine wpAnyH_done (by kernel_rfl) ?_ _
    go_wp2_with fail
    exact bodyPost_ret (results_r16At _ _ (w.heap.size + 1) x (intV k) rfl rfl HB9.out) rfl ⟨by rw [HR.out], HF9.out⟩
  · have HR := Lib.hid (HBad.out hk)
    obtain ⟨s, k, hsk⟩ : ∃ s k, atD (znD v) t = (s, k) := ⟨_, _, rfl⟩
    rw [hsk] at HA HR hk
    have HA := Lib.hid (show Calls Tryz.prog 15 #[.agg (zoneC v), intV t] w2 fun q w' => q = .returned (.tuple #[stateV s, intV k]) ∧ Fr w2 w' (fun _ => False) from HA.out)
    have HR := Lib.hid (show atD16 (znD v) t = (loc0, k) from HR.out)
    have k0 : (k == 0) = false := beq_eq_false_iff_ne.2 hk
    clear hk hsk HBad HSt HIn HFm
    go_enter Tryz.func9, Tryz.ntmps9
    go_wp2_with ((with_reducible refine at_load4 25 ?_); refine wpList_load_blk 25 _ w.heap.size 0 25 (zoneC v) (zoneC v) _ (by rfl) rfl rfl HB1.out Tryz.underlying25 rfl (infoZn _) (zero_part _) ?_)
    refine HA.out.mono ?_
    rintro q w4 ⟨rfl, hf4⟩
    have HF4 := Lib.hid (ff4 HF2.out hf4)
    have HZ4 := Lib.hid (hf4.blk HB1.out (fun h => h))
    have HL4 := Lib.hid (hf4.blk HB2.out (fun h => h))
    have n5 := Fr.new w4 (.cells (stateC st0) 55) (fun _ => False)
    have HF5 := Lib.hid (ff4 HF4.out n5)
    have HS5 := Lib.hid (Blk.made w4 55 (stateC st0))
    have HZ5 := Lib.hid (n5.blk HZ4.out (fun h => h))
    have HL5 := Lib.hid (n5.blk HL4.out (fun h => h))
    clear hf4 n5
    go_wp2_with (first
      | ((with_reducible refine at_store4 55 ?_); refine wpList_store_blk 55 _ _ w4.heap.size 0 55 (stateC st0) (stateC s) (stateC s) (by rfl) rfl rfl rfl rfl HS5.out (infoSt _) (stateC_one _) (show 0 + 3 ≤ 3 by decide) (put_st _ _) ?_
         intro W6 hf6 hb6
         have HF6 := Lib.hid (HF5.out.fresh hf6 (fun i e => by have e : i = w4.heap.size := e; have := HF4.out.size; omega))
         have HZ6 := Lib.hid (hf6.blk HZ5.out (fun e => by have e : w.heap.size = w4.heap.size := e; have := HZ4.out.lt; omega))
         have HL6 := Lib.hid (hf6.blk HL5.out (fun e => by have e : w.heap.size + 1 = w4.heap.size := e; have := HL4.out.lt; omega))
         have HS6 := Lib.hid hb6
         clear hf6 hb6)
      | ((with_reducible refine at_store4 29 ?_); refine wpList_store_blk 29 _ _ (w.heap.size + 1) 0 29 (locC loc0) (locC loc0) (locC loc0) (by rfl) rfl rfl rfl rfl HL6.out (infoLo _) (locC_one _) (show 0 + 3 ≤ 3 by decide) (put_lo _ _) ?_
         intro W9 hf9 hb9
         have HF9 := Lib.hid (HF6.out.fresh hf9 (fun i e => by have e : i = w.heap.size + 1 := e; omega))
         have HB9 := Lib.hid hb9
         clear hf9 hb9))
    exact bodyPost_ret (results_r16At _ _ (w.heap.size + 1) loc0 (intV k) rfl rfl HB9.out) rfl ⟨by rw [HR.out], HF9.out⟩
end Go.Proofs.YtghcfmoagkimaaaGreatDoor
namespace Go.Mem
section
variable {P : Program} {ops : Array Oper} {rest : List Oper} {o : Oper} {a : Act} {w : World} {Q : Exit → Act → World → Prop}
end
end Go.Mem
namespace Go.Proofs.YtghcfmoagkimaaaGreatDoor
open Go.RowKit Go.Mem Go.Lin Go.Xpd Go.Den

theorem results_zOwn (tmps : Array Value) (w : World) (q : Nat) (v : ZnV) (hp : tmps.getD 2 undef = .pointer (some ⟨q, 0, none⟩)) (hb : Blk w q 33 (zoneC v)) : (results Tryz.f8 tmps).run Tryz.prog w = .ok (.agg (zoneC v)) w :=
  results_cell_row (P := Tryz.prog) (fn := Tryz.f8) (p := 2) (ty := 33) rfl tmps _ q 33 (zoneC v) (0, 0) _ hp hb Tryz.underlying33 rfl (show _ = some 2 by kernel_rfl)
theorem zOwn_any (v : ZnV) (w : World) : Calls Tryz.prog 8 #[.agg (zoneC v)] w fun e w' => e = .returned (.agg (zoneC v)) ∧ Fr w w' (fun _ => False) := by
  have n1 := Fr.new w (.cells (zoneC v) 25) (fun _ => False)
  have s1 : (w.alloc (.cells (zoneC v) 25)).heap.size = w.heap.size + 1 := by simp
  have n2 := Fr.new (w.alloc (.cells (zoneC v) 25)) (.cells #[.slice none 0 0, .slice none 0 0] 33) (fun _ => False)
  have hb1 := n2.blk (Blk.made w 25 (zoneC v)) (fun h => h)
  have HF1 := Lib.hid n1
  have HS1 := Lib.hid s1
  have c0 : ((w.alloc (.cells (zoneC v) 25)).alloc (.cells #[.slice none 0 0, .slice none 0 0] 33)).cell? ⟨w.heap.size, 0, none⟩ = some (.slice v.Ae v.eras.length v.ce) := blkc hb1 0 _ rfl
  have c1 : ((w.alloc (.cells (zoneC v) 25)).alloc (.cells #[.slice none 0 0, .slice none 0 0] 33)).cell? ⟨w.heap.size, 1, none⟩ = some (.slice v.Ar v.Z.length v.cr) := blkc hb1 1 _ rfl
  clear n1 s1 n2 hb1
  go_enter Tryz.func8, Tryz.ntmps8
  go_wp2_with fail
  have hb6 := Blk.made (w.alloc (.cells (zoneC v) 25)) 33 (zoneC v)
  rw [HS1.out] at hb6
  exact bodyPost_ret (results_zOwn _ _ (w.heap.size + 1) v rfl hb6) rfl ⟨rfl, ff4 HF1.out (Fr.new _ _ _)⟩
theorem infoDs (s : StateD) : (Tryz.prog.info? 38).map (·.size) = some (stateC s).size := show _ = some 3 by kernel_rfl
end Go.Proofs.YtghcfmoagkimaaaGreatDoor
namespace Go.Proofs.YtghcfmoagkimaaaGreatDoor
open Go.RowKit Go.Mem Go.Lin Go.Fmx Go.Den

set_option maxHeartbeats 6400000 in
set_option maxRecDepth 100000 in
theorem l16Ats_any (v : ZnV) (t : Int) (w : World) (hm : MOk w) (hw : S6.WOk w) (hv : ZnAt w v) (hR : ZnR v) (ht : inR t) :
    Calls Tryz.prog 3 #[.agg (zoneC v), intV t] w fun e w' => e = .returned (.bool true) ∧ Fr w w' (fun _ => False) := by
  have HF1 := Lib.hid (Fr.new w (.cells (zoneC v) 25) (fun _ => False))
  have HB1 := Lib.hid (Blk.made w 25 (zoneC v))
  have HAl := Lib.hid (fun W (g : Fr w W (fun _ => False)) => l16alive_any W (hm.fr g))
  have HLt := Lib.hid (fun W (f : Fr w W (fun _ => False)) => zLight_any v W (hv.kept f) hR)
  by_cases hP : LightZ v
  · have HN := Lib.hid (fun W (f : Fr w W (fun _ => False)) => f16At_any v t W (hm.fr f) (hw.fr f) (hv.kept f) hR hP ht)
    have HZ := Lib.hid (fun W (f : Fr w W (fun _ => False)) => r16At_any v t W (hv.kept f) hR hP ht)
    rw [decide_eq_true hP] at HLt
    generalize atD16 (znD v) t = ad at *
    obtain ⟨x, k⟩ := ad
    dsimp only at HN HZ
    clear hm hw hv hR hP
    go_enter Tryz.func3, Tryz.ntmps3
    go_wp2_with ((with_reducible refine at_load4 25 ?_); refine wpList_load_blk 25 _ w.heap.size 0 25 (zoneC v) (zoneC v) _ (by rfl) rfl rfl HB1.out Tryz.underlying25 rfl (infoZn _) (zero_part _) ?_)
    refine (HLt.out _ HF1.out).mono ?_
    rintro e w2 ⟨rfl, hf2⟩
    have HF2 := Lib.hid (ff4 HF1.out hf2)
    have HB2 := Lib.hid (hf2.blk HB1.out (fun h => h))
    clear hf2
    go_wp2_with ((with_reducible refine at_load4 25 ?_); refine wpList_load_blk 25 _ w.heap.size 0 25 (zoneC v) (zoneC v) _ (by rfl) rfl rfl HB2.out Tryz.underlying25 rfl (infoZn _) (zero_part _) ?_)
    refine (zOwn_any v w2).mono ?_
    rintro e w3 ⟨rfl, hf3⟩
    have HF3 := Lib.hid (ff4 HF2.out hf3)
    have HB3 := Lib.hid (hf3.blk HB2.out (fun h => h))
    clear hf3
    go_wp2_with fail
    refine (HN.out w3 HF3.out).mono ?_
    rintro e w4 ⟨rfl, hf4⟩
    have HF4 := Lib.hid (ff4 HF3.out hf4)
    have HB4 := Lib.hid (hf4.blk HB3.out (fun h => h))
    have n5 := Fr.new w4 (.cells (locC loc0) 29) (fun _ => False)
    have HF5 := Lib.hid (ff4 HF4.out n5)
    have HS5 := Lib.hid (Blk.made w4 29 (locC loc0))
    have HB5 := Lib.hid (n5.blk HB4.out (fun h => h))
    clear hf4 n5
    go_wp2_with (first
      | ((with_reducible refine at_store4 29 ?_); refine wpList_store_blk 29 _ _ w4.heap.size 0 29 (locC loc0) (locC x) (locC x) (by rfl) rfl rfl rfl rfl HS5.out (infoLo _) (locC_one _) (show 0 + 3 ≤ 3 by decide) (put_lo _ _) ?_
         intro W6 hf6 hb6
         have HF6 := Lib.hid (HF5.out.fresh hf6 (fun i e => by have e : i = w4.heap.size := e; have := HF4.out.size; omega))
         have HB6 := Lib.hid (hf6.blk HB5.out (fun e => by have e : w.heap.size = w4.heap.size := e; have := HB4.out.lt; omega))
         have HS6 := Lib.hid hb6
         clear hf6 hb6)
      | ((with_reducible refine at_load4 25 ?_); refine wpList_load_blk 25 _ w.heap.size 0 25 (zoneC v) (zoneC v) _ (by rfl) rfl rfl HB6.out Tryz.underlying25 rfl (infoZn _) (zero_part _) ?_))
    refine (HZ.out W6 HF6.out).mono ?_
    rintro e w7 ⟨rfl, hf7⟩
    have HF7 := Lib.hid (ff4 HF6.out hf7)
    have HS7 := Lib.hid (hf7.blk HS6.out (fun h => h))
    have n8 := Fr.new w7 (.cells (locC loc0) 29) (fun _ => False)
    have HF8 := Lib.hid (ff4 HF7.out n8)
    have HS8 := Lib.hid (n8.blk HS7.out (fun h => h))
    have HR8 := Lib.hid (Blk.made w7 29 (locC loc0))
    clear hf7 n8
    go_wp2_with (first
      | ((with_reducible refine at_store4 29 ?_); refine wpList_store_blk 29 _ _ w7.heap.size 0 29 (locC loc0) (locC x) (locC x) (by rfl) rfl rfl rfl rfl HR8.out (infoLo _) (locC_one _) (show 0 + 3 ≤ 3 by decide) (put_lo _ _) ?_
         intro W9 hf9 hb9
         have HF9 := Lib.hid (HF8.out.fresh hf9 (fun i e => by have e : i = w7.heap.size := e; have := HF7.out.size; omega))
         have HS9 := Lib.hid (hf9.blk HS8.out (fun e => by have e : w4.heap.size = w7.heap.size := e; have := HS7.out.lt; omega))
         have HR9 := Lib.hid hb9
         clear hf9 hb9)
      | ((with_reducible refine at_load4 29 ?_); refine wpList_load_blk 29 _ w4.heap.size 0 29 (locC x) (locC x) _ (by rfl) rfl rfl HS9.out Tryz.underlying29 rfl (infoLo _) (zero_part _) ?_)
      | ((with_reducible refine at_load4 29 ?_); refine wpList_load_blk 29 _ w7.heap.size 0 29 (locC x) (locC x) _ (by rfl) rfl rfl HR9.out Tryz.underlying29 rfl (infoLo _) (zero_part _) ?_)
      | ((with_reducible refine at_eql6 29 ?_); refine wpList_eql6 (t := 29) (cs := locC x) (ds := locC x) (b := true) (by rfl) rfl rfl rfl (guard_loc _ _ _ _) (eql_loc x) ?_))
    refine (HAl.out W9 HF9.out).mono ?_
    rintro e w10 ⟨rfl, hf10⟩
    have HF10 := Lib.hid (ff4 HF9.out hf10)
    clear hf10
    go_wp2_with fail
    go_ret
    exact ⟨rfl, HF10.out⟩
  · rw [decide_eq_false hP] at HLt
    clear hm hw hv hR hP
    go_enter Tryz.func3, Tryz.ntmps3
    go_wp2_with ((with_reducible refine at_load4 25 ?_); refine wpList_load_blk 25 _ w.heap.size 0 25 (zoneC v) (zoneC v) _ (by rfl) rfl rfl HB1.out Tryz.underlying25 rfl (infoZn _) (zero_part _) ?_)
    refine (HLt.out _ HF1.out).mono ?_
    rintro e w2 ⟨rfl, hf2⟩
    have HF2 := Lib.hid (ff4 HF1.out hf2)
    clear hf2
    go_wp2_with fail
    refine (HAl.out w2 HF2.out).mono ?_
    rintro e w3 ⟨rfl, hf3⟩
    have HF3 := Lib.hid (ff4 HF2.out hf3)
    clear hf3
    go_wp2_with fail
    go_ret
    exact ⟨rfl, HF3.out⟩
end Go.Proofs.YtghcfmoagkimaaaGreatDoor
