import Derived.Test.YtghcfmoagkimaaaGreatDoorYa29
import Derived.Test.YtghcfmoagkimaaaGreatDoorYa24
namespace Go.Proofs.YtghcfmoagkimaaaGreatDoor
open Go.RowKit Go.Mem Go.Lin Go.Xpd Go.Den

theorem nAt1_any (x t : Int) (B : Nat) (w : World) (hB : w.cell? ⟨B, 0, none⟩ = some (intV t)) : Calls Tryz.prog 20 #[intV x, .pointer (some ⟨B, 0, none⟩)] w fun e w' => e = .returned (.bool (decide (t < x))) ∧ w' = w := by
  go_enter Tryz.func20, Tryz.ntmps20
  go_wp2_with fail
  go_ret
  exact ⟨rfl, rfl⟩
/-- the first of a list above an instant, or its end -/
def FirstI (l : List Int) (t : Int) (i : Nat) : Prop := i ≤ l.length ∧ (∀ (j : Nat) (x : Int), j < i → l[j]? = some x → x ≤ t) ∧ ∀ x, l[i]? = some x → t < x
set_option maxHeartbeats 3200000 in
set_option maxRecDepth 100000 in
theorem idxI_any (l : List Int) (A : Option Addr) (c : Nat) (t : Int) (B base : Nat) (w : World) (ho : IntsO w base (.slice A l.length c) l) (hB : w.cell? ⟨B, 0, none⟩ = some (intV t)) (hn : l.length ≤ 1000) :
    Calls Tryz.prog 19 #[.slice A l.length c, .func (.func 20) #[] #[.pointer (some ⟨B, 0, none⟩)]] w fun e w' => ∃ (k : Int) (i : Nat), e = .returned (intV k) ∧ FirstI l t i ∧ (k = (i : Int) ∧ i < l.length ∨ k = -1 ∧ i = l.length) ∧ w' = w := by
  have HO := Lib.hid ho
  have HP := Lib.hid (fun x => nAt1_any x t B w hB)
  clear ho hB
  go_enter Tryz.func19, Tryz.ntmps19
  go_wp2_with fail
  go_loopg [5, 8] l.length (fun g _ v8 wr => ∃ i : Nat, i + g = l.length ∧ v8 = intV i ∧ (∀ (j : Nat) (x : Int), j < i → l[j]? = some x → x ≤ t) ∧ wr = w)
  case atStart => exact ⟨0, by simp, rfl, fun j x h => absurd h (Nat.not_lt_zero j), rfl⟩
  case round =>
    obtain ⟨i, hi, rfl, hp, rfl⟩ := hrel
    have HPr := Lib.hid hp
    clear hp
    by_cases hlt : i < l.length
    · obtain ⟨x, hx⟩ : ∃ x, l[i]? = some x := ⟨l[i], List.getElem?_eq_getElem hlt⟩
      obtain ⟨b, off, hA, hc⟩ := ints_at HO.out hx
      subst hA
      have HX := Lib.hid hx
      have i0 : (i : Int) < (l.length : Int) := by omega
      clear hx
      by_cases hd : t < x
      · have HQ := HP.out x
        rw [decide_eq_true hd] at HQ
        have HQ := Lib.hid HQ
        go_wp2_with fail
        refine HQ.out.mono ?_
        rintro e w2 ⟨rfl, rfl⟩
        go_wp2_with fail
        go_ret
        exact ⟨i, i, rfl, ⟨by omega, HPr.out, fun y hy => by rw [HX.out] at hy; cases hy; exact hd⟩, .inl ⟨rfl, hlt⟩, rfl⟩
      · have HQ := HP.out x
        rw [decide_eq_false hd] at HQ
        have HQ := Lib.hid HQ
        go_wp2_with fail
        refine HQ.out.mono ?_
        rintro e w2 ⟨rfl, rfl⟩
        clear hc
        go_wp2_with fail
        go_roundg (l.length - (i + 1))
        case measure => omega
        case rel => exact ⟨i + 1, by omega, by go_num, fun j y hj hy => by
          by_cases e : j = i
          · subst e
            rw [HX.out] at hy
            cases hy
            omega
          · exact HPr.out j y (by omega) hy, rfl⟩
    · obtain rfl : i = l.length := by omega
      go_wp2_with fail
      go_ret
      exact ⟨-1, l.length, rfl, ⟨Nat.le_refl _, HPr.out, fun y hy => by rw [List.getElem?_eq_none (Nat.le_refl _)] at hy; cases hy⟩, .inr ⟨rfl, rfl⟩, rfl⟩
theorem eraAt_eq {z : ZoneD} {t : Int} {n i : Nat} (h : i ≤ n) (h1 : ∀ j, j < i → endD z j ≤ t) (h2 : i < n → t < endD z i) : eraAt z t 0 n = i := by
  obtain ⟨-, a2, a3, a4⟩ := eraAt_spec z t n 0
  by_cases c : eraAt z t 0 n < i
  · have := a3 (by omega)
    have := h1 _ c
    omega
  · by_cases d : i < eraAt z t 0 n
    · have := a4 i (Nat.zero_le _) d
      have := h2 (by omega)
      omega
    · omega
theorem first_era {v : ZnV} {t : Int} {m i : Nat} (h : FirstI (endsL v m) t i) : i ≤ m ∧ eraAt (znD v) t 0 m = i := by
  obtain ⟨h0, h1, h2⟩ := h
  rw [endsL_len] at h0
  refine ⟨h0, eraAt_eq h0 (fun j hj => h1 j _ hj (endsL_at (by omega))) (fun hi => h2 _ (endsL_at hi))⟩
theorem infoSd (s : StateD) : (Tryz.prog.info? 38).map (·.size) = some (stateC s).size := show _ = some 3 by kernel_rfl
theorem results_nAt (tmps : Array Value) (w : World) (q : Nat) (s : StateD) (u : Value) (h4 : tmps.getD 4 undef = .pointer (some ⟨q, 0, none⟩)) (h5 : tmps.getD 5 undef = u)
    (hb : Blk w q 38 (stateC s)) : (results Tryz.f10 tmps).run Tryz.prog w = .ok (.tuple #[stateV s, u]) w := by
  have h4' : tmps[4]?.getD undef = .pointer (some ⟨q, 0, none⟩) := by simpa using h4
  have h5' : tmps[5]?.getD undef = u := by simpa using h5
  have hL := run_loadVar_blk (P := Tryz.prog) w q 0 38 38 (stateC s) (stateC s) _ hb Tryz.underlying38 rfl (infoSd s) (zero_part _)
  simp [results, Tryz.results10, h4', h5', asAddr, hL]
set_option maxHeartbeats 12800000 in
set_option maxRecDepth 100000 in
theorem nAt_any (v : ZnV) (t : Int) (w : World) (hw : S6.WOk w) (hv : ZnAt w v) (hR : ZnR v) (hL : LightW v) (ht : S6.inRange t) :
    Calls Tryz.prog 10 #[.agg (zoneC v), intV t] w fun e w' => e = .returned (.tuple #[stateV (atD (znD v) t).1, intV (atD (znD v) t).2]) ∧ Fr w w' (fun _ => False) := by
  obtain ⟨w1, hw1⟩ : ∃ w1, w.alloc (.cells (zoneC v) 33) = w1 := ⟨_, rfl⟩
  obtain ⟨w2, hw2⟩ : ∃ w2, w1.alloc (.cells #[intV t] 2) = w2 := ⟨_, rfl⟩
  obtain ⟨w3, hw3⟩ : ∃ w3, w2.alloc (.cells (stateC st0) 38) = w3 := ⟨_, rfl⟩
  have z1 : w1.heap.size = w.heap.size + 1 := by rw [← hw1]; simp
  have z2 : w2.heap.size = w.heap.size + 1 + 1 := by rw [← hw2]; simp [z1]
  have n3 : Fr w2 w3 (fun _ => False) := by rw [← hw3]; exact Fr.new _ _ _
  have n2 : Fr w1 w3 (fun _ => False) := ff4 (by rw [← hw2]; exact Fr.new _ _ _) n3
  have n1 : Fr w w3 (fun _ => False) := ff4 (by rw [← hw1]; exact Fr.new _ _ _) n2
  have HB1 := Lib.hid (show Blk w3 w.heap.size 33 (zoneC v) from n2.blk (by rw [← hw1]; exact Blk.made w _ _) (fun h => h))
  have HB2 := Lib.hid (show Blk w3 (w.heap.size + 1) 2 #[intV t] from n3.blk (by rw [← hw2, ← z1]; exact Blk.made w1 _ _) (fun h => h))
  have HB3 := Lib.hid (show Blk w3 (w.heap.size + 1 + 1) 38 (stateC st0) by rw [← hw3, ← z2]; exact Blk.made w2 _ _)
  have e3 : ((w.alloc (.cells (zoneC v) 33)).alloc (.cells #[intV t] 2)).alloc (.cells #[.int .i64 0, .int .i64 0, .string ⟨#[]⟩] 38) = w3 := by
    rw [hw1, hw2, ← hw3]; rfl
  have HF3 := Lib.hid n1
  have HW := Lib.hid hw
  have HV := Lib.hid hv
  have HT := Lib.hid ht
  have HE := Lib.hid (ends_any v w3 (hw.fr n1) (hv.kept n1) hR hL)
  have HIn := Lib.hid (fun W (f : Fr w W (fun _ => False)) => inReach_any t W (hw.fr f) ht)
  have HBad := Lib.hid (atD_bad (v := v) (t := t))
  have HFar := Lib.hid (atD_far (v := v) (t := t))
  have HAt := Lib.hid (fun y => atD_in (v := v) (t := t) (y := y))
  have HLv := Lib.hid (fun (h : rightD (znD v) = 0) => (show fitB v = true by
    cases hf : fitB v with
    | true => rfl
    | false => rw [fit_no hf] at h; cases h))
  have HRu := Lib.hid (fun (h : rightD (znD v) = 0) i => rus_ok (fit_light (HLv.out h) hL) hR i)
  have HOk := Lib.hid (fun (h : rightD (znD v) = 0) => (fit_light (HLv.out h) hL).e)
  have HPk := Lib.hid (fun i e (he : v.eras[i]? = some e) W (f : Fr w W (fun _ => False)) => pick_any v i e W (hv.kept f) he (by have := hL.1; omega) hR.nz)
  have hn8 : v.eras.length ≤ 10 := hL.1
  clear n1 n2 n3 z1 z2 hw1 hw2 hw3 hw hv hR hL ht
  by_cases hk : rightD (znD v) = 0
  · have HK := Lib.hid hk
    cases hre : reachY t with
    | none =>
      have HA := Lib.hid (HFar.out hk hre)
      rw [hre] at HIn
      have HE := Lib.hid (show Calls Tryz.prog 17 #[.agg (zoneC v)] w3 fun q w' => ∃ r, q = .returned (.tuple #[r, intV 0]) ∧ Fr w3 w' (fun _ => False) from HE.out.mono (by
        rintro q w' ⟨r, rfl, -, hf⟩
        exact ⟨r, by rw [hk], hf⟩))
      clear hk hre
      go_enter Tryz.func10, Tryz.ntmps10
      go_wp2_with ((with_reducible refine at_load4 33 ?_); refine wpList_load_blk 33 _ w.heap.size 0 33 (zoneC v) (zoneC v) _ (by rfl) rfl rfl HB1.out Tryz.underlying33 rfl (infoDn _) (zero_part _) ?_)
      refine HE.out.mono ?_
      rintro q w4 ⟨r, rfl, hf4⟩
      have HF4 := Lib.hid (ff4 HF3.out hf4)
      have HZ4 := Lib.hid (hf4.blk HB1.out (fun h => h))
      have HT4 := Lib.hid (hf4.blk HB2.out (fun h => h))
      have HS4 := Lib.hid (hf4.blk HB3.out (fun h => h))
      clear hf4
      have t4 : w4.cell? ⟨w.heap.size + 1, 0, none⟩ = some (.int .i64 t) := blkc HT4.out 0 _ rfl
      go_wp2_with fail
      refine (HIn.out _ HF4.out).mono ?_
      rintro q w5 ⟨rfl, hf5⟩
      have HF5 := Lib.hid (ff4 HF4.out hf5)
      have HS5 := Lib.hid (hf5.blk HS4.out (fun h => h))
      clear hf5 t4
      go_wp2_with (first
        | ((with_reducible refine at_store4 38 ?_); refine wpList_store_blk 38 _ _ (w.heap.size + 1 + 1) 0 38 (stateC st0) (stateC st0) (stateC st0) (by rfl) rfl rfl rfl rfl HS5.out (infoSd _) (stateC_one _) (show 0 + 3 ≤ 3 by decide) (put_st _ _) ?_
           intro W9 hf9 hb9
           have HF9 := Lib.hid (HF5.out.fresh hf9 (fun i e => by have e : i = w.heap.size + 1 + 1 := e; omega))
           have HB9 := Lib.hid hb9
           clear hf9 hb9))
      exact bodyPost_ret (results_nAt _ _ (w.heap.size + 1 + 1) st0 (intV 2) rfl rfl HB9.out) rfl ⟨by rw [HA.out], HF9.out⟩
    | some y =>
      have HA := Lib.hid (fun i (hi : eraAt (znD v) t 0 (v.eras.length - 1) = i) => HAt.out y hk hre hi)
      rw [hre] at HIn
      have HE := Lib.hid (show Calls Tryz.prog 17 #[.agg (zoneC v)] w3 fun q w' => ∃ r, q = .returned (.tuple #[r, intV 0]) ∧ (∃ (m : Nat) (A : Option Addr) (c : Nat), v.eras.length = m + 1 ∧ r = .slice A m c ∧ IntsO w' w3.heap.size (.slice A (endsL v m).length c) (endsL v m)) ∧ Fr w3 w' (fun _ => False) from HE.out.mono (by
        rintro q w' ⟨r, rfl, hr, hf⟩
        exact ⟨r, by rw [hk], hr hk, hf⟩))
      clear hk hre
      go_enter Tryz.func10, Tryz.ntmps10
      go_wp2_with ((with_reducible refine at_load4 33 ?_); refine wpList_load_blk 33 _ w.heap.size 0 33 (zoneC v) (zoneC v) _ (by rfl) rfl rfl HB1.out Tryz.underlying33 rfl (infoDn _) (zero_part _) ?_)
      refine HE.out.mono ?_
      rintro q w4 ⟨r, rfl, ⟨m, A, c, hm, rfl, ho⟩, hf4⟩
      have HF4 := Lib.hid (ff4 HF3.out hf4)
      have HZ4 := Lib.hid (hf4.blk HB1.out (fun h => h))
      have HT4 := Lib.hid (hf4.blk HB2.out (fun h => h))
      have HS4 := Lib.hid (hf4.blk HB3.out (fun h => h))
      have HO4 := Lib.hid ho
      have HM := Lib.hid hm
      have hm8 : m ≤ 10 := by omega
      clear ho hf4 hm
      have t4 : w4.cell? ⟨w.heap.size + 1, 0, none⟩ = some (.int .i64 t) := blkc HT4.out 0 _ rfl
      go_wp2_with fail
      refine (HIn.out _ HF4.out).mono ?_
      rintro q w5 ⟨rfl, hf5⟩
      have HF5 := Lib.hid (ff4 HF4.out hf5)
      have HS5 := Lib.hid (hf5.blk HS4.out (fun h => h))
      have HZ5 := Lib.hid (hf5.blk HZ4.out (fun h => h))
      have HT5 := Lib.hid (hf5.blk HT4.out (fun h => h))
      have HI := Lib.hid (show Calls Tryz.prog 19 #[.slice A m c, .func (.func 20) #[] #[.pointer (some ⟨w.heap.size + 1, 0, none⟩)]] w5 fun e w' => ∃ (k : Int) (i : Nat), e = .returned (intV k) ∧ FirstI (endsL v m) t i ∧ (k = (i : Int) ∧ i < m ∨ k = -1 ∧ i = m) ∧ w' = w5 by
        have h := idxI_any (endsL v m) A c t (w.heap.size + 1) w3.heap.size w5 (HO4.out.kept hf5) (blkc HT5.out 0 _ rfl) (by rw [endsL_len]; omega)
        rw [endsL_len] at h
        exact h)
      clear hf5 t4
      go_wp2_with fail
      refine HI.out.mono ?_
      rintro q w6 ⟨k, i, rfl, hfi, hki, rfl⟩
      obtain ⟨him, hera⟩ := first_era hfi
      have hiv : i < v.eras.length := by have := HM.out; omega
      obtain ⟨e, he⟩ : ∃ e, v.eras[i]? = some e := ⟨v.eras[i], List.getElem?_eq_getElem hiv⟩
      have HAi := Lib.hid (show atD (znD v) t = (⟨i, (eraT e (rusV v i) t).1, (eraT e (rusV v i) t).2⟩, 0) by
        have h := HA.out i (by rw [show v.eras.length - 1 = m by have := HM.out; omega]; exact hera)
        rw [eraS_T he] at h
        exact h)
      have HOe := Lib.hid (HOk.out HK.out e (List.mem_of_getElem? he))
      have HRx := Lib.hid (HRu.out HK.out i)
      have HRa := Lib.hid (fun W (f : Fr w W (fun _ => False)) => rus_at (HV.out.kept f) i)
      have HP := Lib.hid (HPk.out i e he _ HF5.out)
      generalize rusV v i = x at *
      clear hfi hera he hiv him
      have hkc : (k = (i : Int) ∧ 0 ≤ k) ∨ (k = -1 ∧ i = m) := by omega
      clear hki
      rcases hkc with ⟨rfl, hk0⟩ | ⟨rfl, rfl⟩
      · go_wp2_with ((with_reducible refine at_load4 33 ?_); refine wpList_load_blk 33 _ w.heap.size 0 33 (zoneC v) (zoneC v) _ (by rfl) rfl rfl HZ5.out Tryz.underlying33 rfl (infoDn _) (zero_part _) ?_)
        refine HP.out.mono ?_
        rintro q w7 ⟨rfl, hf7⟩
        have HF7 := Lib.hid (ff4 HF5.out hf7)
        have HS7 := Lib.hid (hf7.blk HS5.out (fun h => h))
        have HT7 := Lib.hid (hf7.blk HT5.out (fun h => h))
        have HB7 := Lib.hid (show Blk _ w7.heap.size 65 (nerC eraZ nilV) from Blk.made w7 65 (nerC eraZ nilV))
        have HN7 := Lib.hid (Fr.new w7 (.cells (nerC eraZ nilV) 65) (fun _ => False))
        clear hf7
        go_wp2_with ((with_reducible refine at_store4 65 ?_); refine wpList_store_blk 65 _ _ w7.heap.size 0 65 (nerC eraZ nilV) (nerC e (rulV x)) (nerC e (rulV x)) (by rfl) rfl rfl rfl rfl HB7.out (infoNe _ _) (nerC_one _ _) (show 0 + 14 ≤ 14 by decide) (put_ne _ _ _ _) ?_
                     intro W8 hf8 hb8
                     have hf8' := HN7.out.fresh hf8 (fun i e => by have e : i = w7.heap.size := e; omega)
                     have HF8 := Lib.hid (ff4 HF7.out hf8')
                     have HS8 := Lib.hid (hf8'.blk HS7.out (fun h => h))
                     have HT8 := Lib.hid (hf8'.blk HT7.out (fun h => h))
                     have HB8 := Lib.hid hb8
                     clear hf8 hf8' hb8 HN7 HB7)
        have h3 : e.kind = 1 ∨ (e.kind ≠ 1 ∧ e.kind = 2) ∨ (e.kind ≠ 1 ∧ e.kind ≠ 2) := by omega
        rcases h3 with hk | ⟨hk1, hk⟩ | ⟨hk1, hk2⟩
        · have HS := Lib.hid (eraT_1 (x := x) (t := t) hk)
          have HAs := Lib.hid (HAi.out.trans (congrArg (fun s : Int × Bs => ((⟨i, s.1, s.2⟩ : StateD), (0 : Int))) HS.out))
          have t8 : W8.cell? ⟨w.heap.size + 1, 0, none⟩ = some (.int .i64 t) := blkc HT8.out 0 _ rfl
          have d1 : W8.cell? ⟨w7.heap.size, 1, none⟩ = some (.int .i64 1) := by rw [← hk]; exact blkc HB8.out 1 _ rfl
          clear hk
          clear HS
          refine wp_region_held_drew (S := fun w' => Fr W8 w' (fun _ => False)) (by kernel_rfl) (Fr.drew W8 _) (fun hHeld => ?_)
          refine wpAnyH_take (i := 0) (v := ?_) rfl (by kernel_rfl) (by kernel_rfl) (by kernel_rfl) (fun _ _ _ h => h) (Or.inl ⟨by rfl, ?_⟩) (by assumption) ?_
          rotate_left
          · intro w' hSw
            go_simp
            try with_reducible rfl
          try simp only [Act.put, List.setIfInBounds_toArray, List.set_cons_zero, List.set_cons_succ, List.getElem_toArray, List.getElem_cons_zero]
          refine wpAnyH_take (i := 1) (v := ?_) rfl (by kernel_rfl) (by kernel_rfl) (by kernel_rfl) (fun _ _ _ h => h) (Or.inl ⟨by rfl, ?_⟩) (by assumption) ?_
          rotate_left
          · intro w' hSw
            go_simp
            try with_reducible rfl
          try simp only [Act.put, List.setIfInBounds_toArray, List.set_cons_zero, List.set_cons_succ, List.getElem_toArray, List.getElem_cons_succ, List.getElem_cons_zero]
          refine wpAnyH_take (i := 2) (v := ?_) rfl (by kernel_rfl) (by kernel_rfl) (by kernel_rfl) (fun _ _ _ h => h) (Or.inl ⟨by rfl, ?_⟩) (by assumption) ?_
          rotate_left
          · intro w' hSw
            have c1 : w'.cell? ⟨w7.heap.size, 1, none⟩ = some (.int .i64 1) := (cell_far hSw d1 (fun h => h))
            go_simp
            try with_reducible rfl
          try simp only [Act.put, List.setIfInBounds_toArray, List.set_cons_zero, List.set_cons_succ, List.getElem_toArray, List.getElem_cons_succ, List.getElem_cons_zero]
          refine wpAnyH_take (i := 4) (v := _) rfl (by kernel_rfl) (by kernel_rfl) (by kernel_rfl) (fun _ _ _ h => h) (yields_blk 65 _ w7.heap.size 0 65 (nerC e (rulV x)) (nerC e (rulV x)) _ (by rfl) rfl rfl (fun w' hSw => hSw.blk HB8.out (fun h => h)) Tryz.underlying65 rfl (infoNe _ _) (zero_part _)) (by assumption) ?_
          try simp only [Act.put, List.setIfInBounds_toArray, List.set_cons_zero, List.set_cons_succ, List.getElem_toArray, List.getElem_cons_succ, List.getElem_cons_zero]
          refine wpAnyH_take (i := 5) (v := ?_) rfl (by kernel_rfl) (by kernel_rfl) (by kernel_rfl) (fun _ _ _ h => h) (Or.inl ⟨by rfl, ?_⟩) (by assumption) ?_
          rotate_left
          · intro w' hSw
            have c1 : w'.cell? ⟨w.heap.size + 1, 0, none⟩ = some (.int .i64 t) := (cell_far hSw t8 (fun h => h))
            go_simp
            try with_reducible rfl
          try simp only [Act.put, List.setIfInBounds_toArray, List.set_cons_zero, List.set_cons_succ, List.getElem_toArray, List.getElem_cons_succ, List.getElem_cons_zero]
          refine wpAnyH_ready (rs := [3]) (by kernel_rfl) (by simp) ?_
          refine AllReadyH.cons rfl (fun K hK => ?_) AllReadyH.nil
          go_simp
          refine (saving_1 _).mono ?_
          rintro q w9 ⟨rfl, rfl⟩
          refine hK.out _ _ hHeld (fun hHeld2 => ?_)
          clear hK K hHeld
          rename_i hHeld2
          have hHeld := hHeld2
          clear hHeld2
          try simp only [Act.put, List.setIfInBounds_toArray, List.set_cons_zero, List.set_cons_succ, List.getElem_toArray, List.getElem_cons_succ, List.getElem_cons_zero]
          refine wpAnyH_ready (rs := [6]) (by kernel_rfl) (by simp) ?_
          refine AllReadyH.cons rfl (fun K hK => ?_) AllReadyH.nil
          go_simp
          refine (same_any e (rulV x) t _).mono ?_
          rintro q w10 ⟨rfl, hf10⟩
          refine hK.out _ _ (ff4 hHeld hf10) (fun hHeld2 => ?_)
          clear hK K hHeld hf10
          rename_i hHeld2
          have hHeld := hHeld2
          clear hHeld2
          try simp only [Act.put, List.setIfInBounds_toArray, List.set_cons_zero, List.set_cons_succ, List.getElem_toArray, List.getElem_cons_succ, List.getElem_cons_zero]
          refine wpAnyH_take (i := 7) (v := ?_) rfl (by kernel_rfl) (by kernel_rfl) (by kernel_rfl) (fun _ _ _ h => h) (Or.inl ⟨by rfl, ?_⟩) (by assumption) ?_
          rotate_left
          · intro w' hSw
            go_simp
            try with_reducible rfl
          try simp only [Act.put, List.setIfInBounds_toArray, List.set_cons_zero, List.set_cons_succ, List.getElem_toArray, List.getElem_cons_succ, List.getElem_cons_zero]
          refine wpAnyH_take (i := 8) (v := ?_) rfl (by kernel_rfl) (by kernel_rfl) (by kernel_rfl) (fun _ _ _ h => h) (Or.inl ⟨by rfl, ?_⟩) (by assumption) ?_
          rotate_left
          · intro w' hSw
            go_simp
            try with_reducible rfl
          try simp only [Act.put, List.setIfInBounds_toArray, List.set_cons_zero, List.set_cons_succ, List.getElem_toArray, List.getElem_cons_succ, List.getElem_cons_zero]
          refine wpAnyH_take (i := 9) (v := ?_) rfl (by kernel_rfl) (by kernel_rfl) (by kernel_rfl) (fun _ _ _ h => h) (Or.inl ⟨by rfl, ?_⟩) (by assumption) ?_
          rotate_left
          · intro w' hSw
            go_simp
            try with_reducible rfl
          try simp only [Act.put, List.setIfInBounds_toArray, List.set_cons_zero, List.set_cons_succ, List.getElem_toArray, List.getElem_cons_succ, List.getElem_cons_zero]
          refine wpAnyH_take (i := 10) (v := ?_) rfl (by kernel_rfl) (by kernel_rfl) (by kernel_rfl) (fun _ _ _ h => h) (Or.inl ⟨by rfl, ?_⟩) (by assumption) ?_
          rotate_left
          · intro w' hSw
            go_simp
            try with_reducible rfl
          try simp only [Act.put, List.setIfInBounds_toArray, List.set_cons_zero, List.set_cons_succ, List.getElem_toArray, List.getElem_cons_succ, List.getElem_cons_zero]
          refine wpAnyH_take (i := 11) (v := ?_) rfl (by kernel_rfl) (by kernel_rfl) (by kernel_rfl) (fun _ _ _ h => h) (Or.inl ⟨by rfl, ?_⟩) (by assumption) ?_
          rotate_left
          · intro w' hSw
            go_simp
            try with_reducible rfl
          try simp only [Act.put, List.setIfInBounds_toArray, List.set_cons_zero, List.set_cons_succ, List.getElem_toArray, List.getElem_cons_succ, List.getElem_cons_zero]
          refine wpAnyH_done (by kernel_rfl) ?_ _
          have HFh := Lib.hid (ff4 HF8.out hHeld)
          have HSh := Lib.hid (hHeld.blk HS8.out (fun h => h))
          clear hHeld t8 d1
          go_wp2_with (first
            | ((with_reducible refine at_build 38 ?_); refine wpList_build1 38 _ (.agg (stateC ⟨i, e.save, []⟩)) (by rfl) rfl (fun w => by kernel_rfl) ?_)
            | ((with_reducible refine at_store4 38 ?_); refine wpList_store_blk 38 _ _ (w.heap.size + 1 + 1) 0 38 (stateC st0) (stateC ⟨i, e.save, []⟩) (stateC ⟨i, e.save, []⟩) (by rfl) rfl rfl rfl rfl HSh.out (infoSd _) (stateC_one _) (show 0 + 3 ≤ 3 by decide) (put_st _ _) ?_
               intro W9 hf9 hb9
               have HF9 := Lib.hid (HFh.out.fresh hf9 (fun i e => by have e : i = w.heap.size + 1 + 1 := e; omega))
               have HB9 := Lib.hid hb9
               clear hf9 hb9))
          exact bodyPost_ret (results_nAt _ _ (w.heap.size + 1 + 1) ⟨i, e.save, []⟩ (intV 0) rfl rfl HB9.out) rfl ⟨by rw [HAs.out], HF9.out⟩
        · have HS := Lib.hid (eraT_2 (x := x) (t := t) hk)
          have HAs := Lib.hid (HAi.out.trans (congrArg (fun s : Int × Bs => ((⟨i, s.1, s.2⟩ : StateD), (0 : Int))) HS.out))
          obtain ⟨g1, g2, -, -, -⟩ := HOe.out
          have HRl := fun W (hW : S6.WOk W) (hx : RusAt W x.A x.l) => ruled_any e x t W hW hx HRx.out ⟨g1, g2⟩ HT.out
          generalize savA x.l e.off t = s at *
          have HRl := Lib.hid HRl
          have t8 : W8.cell? ⟨w.heap.size + 1, 0, none⟩ = some (.int .i64 t) := blkc HT8.out 0 _ rfl
          have d1 : W8.cell? ⟨w7.heap.size, 1, none⟩ = some (.int .i64 2) := by rw [← hk]; exact blkc HB8.out 1 _ rfl
          clear hk
          clear HS
          refine wp_region_held_drew (S := fun w' => Fr W8 w' (fun _ => False)) (by kernel_rfl) (Fr.drew W8 _) (fun hHeld => ?_)
          refine wpAnyH_take (i := 0) (v := ?_) rfl (by kernel_rfl) (by kernel_rfl) (by kernel_rfl) (fun _ _ _ h => h) (Or.inl ⟨by rfl, ?_⟩) (by assumption) ?_
          rotate_left
          · intro w' hSw
            go_simp
            try with_reducible rfl
          try simp only [Act.put, List.setIfInBounds_toArray, List.set_cons_zero, List.set_cons_succ, List.getElem_toArray, List.getElem_cons_zero]
          refine wpAnyH_take (i := 1) (v := ?_) rfl (by kernel_rfl) (by kernel_rfl) (by kernel_rfl) (fun _ _ _ h => h) (Or.inl ⟨by rfl, ?_⟩) (by assumption) ?_
          rotate_left
          · intro w' hSw
            go_simp
            try with_reducible rfl
          try simp only [Act.put, List.setIfInBounds_toArray, List.set_cons_zero, List.set_cons_succ, List.getElem_toArray, List.getElem_cons_succ, List.getElem_cons_zero]
          refine wpAnyH_take (i := 2) (v := ?_) rfl (by kernel_rfl) (by kernel_rfl) (by kernel_rfl) (fun _ _ _ h => h) (Or.inl ⟨by rfl, ?_⟩) (by assumption) ?_
          rotate_left
          · intro w' hSw
            have c1 : w'.cell? ⟨w7.heap.size, 1, none⟩ = some (.int .i64 2) := (cell_far hSw d1 (fun h => h))
            go_simp
            try with_reducible rfl
          try simp only [Act.put, List.setIfInBounds_toArray, List.set_cons_zero, List.set_cons_succ, List.getElem_toArray, List.getElem_cons_succ, List.getElem_cons_zero]
          refine wpAnyH_take (i := 4) (v := _) rfl (by kernel_rfl) (by kernel_rfl) (by kernel_rfl) (fun _ _ _ h => h) (yields_blk 65 _ w7.heap.size 0 65 (nerC e (rulV x)) (nerC e (rulV x)) _ (by rfl) rfl rfl (fun w' hSw => hSw.blk HB8.out (fun h => h)) Tryz.underlying65 rfl (infoNe _ _) (zero_part _)) (by assumption) ?_
          try simp only [Act.put, List.setIfInBounds_toArray, List.set_cons_zero, List.set_cons_succ, List.getElem_toArray, List.getElem_cons_succ, List.getElem_cons_zero]
          refine wpAnyH_take (i := 5) (v := ?_) rfl (by kernel_rfl) (by kernel_rfl) (by kernel_rfl) (fun _ _ _ h => h) (Or.inl ⟨by rfl, ?_⟩) (by assumption) ?_
          rotate_left
          · intro w' hSw
            have c1 : w'.cell? ⟨w.heap.size + 1, 0, none⟩ = some (.int .i64 t) := (cell_far hSw t8 (fun h => h))
            go_simp
            try with_reducible rfl
          try simp only [Act.put, List.setIfInBounds_toArray, List.set_cons_zero, List.set_cons_succ, List.getElem_toArray, List.getElem_cons_succ, List.getElem_cons_zero]
          refine wpAnyH_ready (rs := [3]) (by kernel_rfl) (by simp) ?_
          refine AllReadyH.cons rfl (fun K hK => ?_) AllReadyH.nil
          go_simp
          refine (saving_2 _).mono ?_
          rintro q w9 ⟨rfl, rfl⟩
          refine hK.out _ _ hHeld (fun hHeld2 => ?_)
          clear hK K hHeld
          rename_i hHeld2
          have hHeld := hHeld2
          clear hHeld2
          try simp only [Act.put, List.setIfInBounds_toArray, List.set_cons_zero, List.set_cons_succ, List.getElem_toArray, List.getElem_cons_succ, List.getElem_cons_zero]
          refine wpAnyH_ready (rs := [6]) (by kernel_rfl) (by simp) ?_
          refine AllReadyH.cons rfl (fun K hK => ?_) AllReadyH.nil
          go_simp
          refine (HRl.out _ (HW.out.fr (ff4 HF8.out hHeld)) (HRa.out _ (ff4 HF8.out hHeld))).mono ?_
          rintro q w10 ⟨rfl, hf10⟩
          refine hK.out _ _ (ff4 hHeld hf10) (fun hHeld2 => ?_)
          clear hK K hHeld hf10
          rename_i hHeld2
          have hHeld := hHeld2
          clear hHeld2
          try simp only [Act.put, List.setIfInBounds_toArray, List.set_cons_zero, List.set_cons_succ, List.getElem_toArray, List.getElem_cons_succ, List.getElem_cons_zero]
          refine wpAnyH_take (i := 7) (v := ?_) rfl (by kernel_rfl) (by kernel_rfl) (by kernel_rfl) (fun _ _ _ h => h) (Or.inl ⟨by rfl, ?_⟩) (by assumption) ?_
          rotate_left
          · intro w' hSw
            go_simp
            try with_reducible rfl
          try simp only [Act.put, List.setIfInBounds_toArray, List.set_cons_zero, List.set_cons_succ, List.getElem_toArray, List.getElem_cons_succ, List.getElem_cons_zero]
          refine wpAnyH_take (i := 8) (v := ?_) rfl (by kernel_rfl) (by kernel_rfl) (by kernel_rfl) (fun _ _ _ h => h) (Or.inl ⟨by rfl, ?_⟩) (by assumption) ?_
          rotate_left
          · intro w' hSw
            go_simp
            try with_reducible rfl
          try simp only [Act.put, List.setIfInBounds_toArray, List.set_cons_zero, List.set_cons_succ, List.getElem_toArray, List.getElem_cons_succ, List.getElem_cons_zero]
          refine wpAnyH_take (i := 9) (v := ?_) rfl (by kernel_rfl) (by kernel_rfl) (by kernel_rfl) (fun _ _ _ h => h) (Or.inl ⟨by rfl, ?_⟩) (by assumption) ?_
          rotate_left
          · intro w' hSw
            go_simp
            try with_reducible rfl
          try simp only [Act.put, List.setIfInBounds_toArray, List.set_cons_zero, List.set_cons_succ, List.getElem_toArray, List.getElem_cons_succ, List.getElem_cons_zero]
          refine wpAnyH_take (i := 10) (v := ?_) rfl (by kernel_rfl) (by kernel_rfl) (by kernel_rfl) (fun _ _ _ h => h) (Or.inl ⟨by rfl, ?_⟩) (by assumption) ?_
          rotate_left
          · intro w' hSw
            go_simp
            try with_reducible rfl
          try simp only [Act.put, List.setIfInBounds_toArray, List.set_cons_zero, List.set_cons_succ, List.getElem_toArray, List.getElem_cons_succ, List.getElem_cons_zero]
          refine wpAnyH_take (i := 11) (v := ?_) rfl (by kernel_rfl) (by kernel_rfl) (by kernel_rfl) (fun _ _ _ h => h) (Or.inl ⟨by rfl, ?_⟩) (by assumption) ?_
          rotate_left
          · intro w' hSw
            go_simp
            try with_reducible rfl
          try simp only [Act.put, List.setIfInBounds_toArray, List.set_cons_zero, List.set_cons_succ, List.getElem_toArray, List.getElem_cons_succ, List.getElem_cons_zero]
          refine wpAnyH_done (by kernel_rfl) ?_ _
          have HFh := Lib.hid (ff4 HF8.out hHeld)
          have HSh := Lib.hid (hHeld.blk HS8.out (fun h => h))
          clear hHeld t8 d1
          go_wp2_with (first
            | ((with_reducible refine at_build 38 ?_); refine wpList_build1 38 _ (.agg (stateC ⟨i, s.1, s.2⟩)) (by rfl) rfl (fun w => by kernel_rfl) ?_)
            | ((with_reducible refine at_store4 38 ?_); refine wpList_store_blk 38 _ _ (w.heap.size + 1 + 1) 0 38 (stateC st0) (stateC ⟨i, s.1, s.2⟩) (stateC ⟨i, s.1, s.2⟩) (by rfl) rfl rfl rfl rfl HSh.out (infoSd _) (stateC_one _) (show 0 + 3 ≤ 3 by decide) (put_st _ _) ?_
               intro W9 hf9 hb9
               have HF9 := Lib.hid (HFh.out.fresh hf9 (fun i e => by have e : i = w.heap.size + 1 + 1 := e; omega))
               have HB9 := Lib.hid hb9
               clear hf9 hb9))
          exact bodyPost_ret (results_nAt _ _ (w.heap.size + 1 + 1) ⟨i, s.1, s.2⟩ (intV 0) rfl rfl HB9.out) rfl ⟨by rw [HAs.out], HF9.out⟩
        · have HS := Lib.hid (eraT_0 (x := x) (t := t) hk1 hk2)
          have HAs := Lib.hid (HAi.out.trans (congrArg (fun s : Int × Bs => ((⟨i, s.1, s.2⟩ : StateD), (0 : Int))) HS.out))
          have t8 : W8.cell? ⟨w.heap.size + 1, 0, none⟩ = some (.int .i64 t) := blkc HT8.out 0 _ rfl
          have d1 : W8.cell? ⟨w7.heap.size, 1, none⟩ = some (.int .i64 e.kind) := blkc HB8.out 1 _ rfl
          clear HS
          refine wp_region_held_drew (S := fun w' => Fr W8 w' (fun _ => False)) (by kernel_rfl) (Fr.drew W8 _) (fun hHeld => ?_)
          refine wpAnyH_take (i := 0) (v := ?_) rfl (by kernel_rfl) (by kernel_rfl) (by kernel_rfl) (fun _ _ _ h => h) (Or.inl ⟨by rfl, ?_⟩) (by assumption) ?_
          rotate_left
          · intro w' hSw
            go_simp
            try with_reducible rfl
          try simp only [Act.put, List.setIfInBounds_toArray, List.set_cons_zero, List.set_cons_succ, List.getElem_toArray, List.getElem_cons_zero]
          refine wpAnyH_take (i := 1) (v := ?_) rfl (by kernel_rfl) (by kernel_rfl) (by kernel_rfl) (fun _ _ _ h => h) (Or.inl ⟨by rfl, ?_⟩) (by assumption) ?_
          rotate_left
          · intro w' hSw
            go_simp
            try with_reducible rfl
          try simp only [Act.put, List.setIfInBounds_toArray, List.set_cons_zero, List.set_cons_succ, List.getElem_toArray, List.getElem_cons_succ, List.getElem_cons_zero]
          refine wpAnyH_take (i := 2) (v := ?_) rfl (by kernel_rfl) (by kernel_rfl) (by kernel_rfl) (fun _ _ _ h => h) (Or.inl ⟨by rfl, ?_⟩) (by assumption) ?_
          rotate_left
          · intro w' hSw
            have c1 : w'.cell? ⟨w7.heap.size, 1, none⟩ = some (.int .i64 e.kind) := (cell_far hSw d1 (fun h => h))
            go_simp
            try with_reducible rfl
          try simp only [Act.put, List.setIfInBounds_toArray, List.set_cons_zero, List.set_cons_succ, List.getElem_toArray, List.getElem_cons_succ, List.getElem_cons_zero]
          refine wpAnyH_take (i := 4) (v := _) rfl (by kernel_rfl) (by kernel_rfl) (by kernel_rfl) (fun _ _ _ h => h) (yields_blk 65 _ w7.heap.size 0 65 (nerC e (rulV x)) (nerC e (rulV x)) _ (by rfl) rfl rfl (fun w' hSw => hSw.blk HB8.out (fun h => h)) Tryz.underlying65 rfl (infoNe _ _) (zero_part _)) (by assumption) ?_
          try simp only [Act.put, List.setIfInBounds_toArray, List.set_cons_zero, List.set_cons_succ, List.getElem_toArray, List.getElem_cons_succ, List.getElem_cons_zero]
          refine wpAnyH_take (i := 5) (v := ?_) rfl (by kernel_rfl) (by kernel_rfl) (by kernel_rfl) (fun _ _ _ h => h) (Or.inl ⟨by rfl, ?_⟩) (by assumption) ?_
          rotate_left
          · intro w' hSw
            have c1 : w'.cell? ⟨w.heap.size + 1, 0, none⟩ = some (.int .i64 t) := (cell_far hSw t8 (fun h => h))
            go_simp
            try with_reducible rfl
          try simp only [Act.put, List.setIfInBounds_toArray, List.set_cons_zero, List.set_cons_succ, List.getElem_toArray, List.getElem_cons_succ, List.getElem_cons_zero]
          refine wpAnyH_ready (rs := [3]) (by kernel_rfl) (by simp) ?_
          refine AllReadyH.cons rfl (fun K hK => ?_) AllReadyH.nil
          go_simp
          refine (saving_0 e.kind _ hk1 hk2).mono ?_
          rintro q w9 ⟨rfl, rfl⟩
          refine hK.out _ _ hHeld (fun hHeld2 => ?_)
          clear hK K hHeld
          rename_i hHeld2
          have hHeld := hHeld2
          clear hHeld2
          try simp only [Act.put, List.setIfInBounds_toArray, List.set_cons_zero, List.set_cons_succ, List.getElem_toArray, List.getElem_cons_succ, List.getElem_cons_zero]
          refine wpAnyH_ready (rs := [6]) (by kernel_rfl) (by simp) ?_
          refine AllReadyH.cons rfl (fun K hK => ?_) AllReadyH.nil
          go_simp
          refine (none_any e (rulV x) t _).mono ?_
          rintro q w10 ⟨rfl, hf10⟩
          refine hK.out _ _ (ff4 hHeld hf10) (fun hHeld2 => ?_)
          clear hK K hHeld hf10
          rename_i hHeld2
          have hHeld := hHeld2
          clear hHeld2
          try simp only [Act.put, List.setIfInBounds_toArray, List.set_cons_zero, List.set_cons_succ, List.getElem_toArray, List.getElem_cons_succ, List.getElem_cons_zero]
          refine wpAnyH_take (i := 7) (v := ?_) rfl (by kernel_rfl) (by kernel_rfl) (by kernel_rfl) (fun _ _ _ h => h) (Or.inl ⟨by rfl, ?_⟩) (by assumption) ?_
          rotate_left
          · intro w' hSw
            go_simp
            try with_reducible rfl
          try simp only [Act.put, List.setIfInBounds_toArray, List.set_cons_zero, List.set_cons_succ, List.getElem_toArray, List.getElem_cons_succ, List.getElem_cons_zero]
          refine wpAnyH_take (i := 8) (v := ?_) rfl (by kernel_rfl) (by kernel_rfl) (by kernel_rfl) (fun _ _ _ h => h) (Or.inl ⟨by rfl, ?_⟩) (by assumption) ?_
          rotate_left
          · intro w' hSw
            go_simp
            try with_reducible rfl
          try simp only [Act.put, List.setIfInBounds_toArray, List.set_cons_zero, List.set_cons_succ, List.getElem_toArray, List.getElem_cons_succ, List.getElem_cons_zero]
          refine wpAnyH_take (i := 9) (v := ?_) rfl (by kernel_rfl) (by kernel_rfl) (by kernel_rfl) (fun _ _ _ h => h) (Or.inl ⟨by rfl, ?_⟩) (by assumption) ?_
          rotate_left
          · intro w' hSw
            go_simp
            try with_reducible rfl
          try simp only [Act.put, List.setIfInBounds_toArray, List.set_cons_zero, List.set_cons_succ, List.getElem_toArray, List.getElem_cons_succ, List.getElem_cons_zero]
          refine wpAnyH_take (i := 10) (v := ?_) rfl (by kernel_rfl) (by kernel_rfl) (by kernel_rfl) (fun _ _ _ h => h) (Or.inl ⟨by rfl, ?_⟩) (by assumption) ?_
          rotate_left
          · intro w' hSw
            go_simp
            try with_reducible rfl
          try simp only [Act.put, List.setIfInBounds_toArray, List.set_cons_zero, List.set_cons_succ, List.getElem_toArray, List.getElem_cons_succ, List.getElem_cons_zero]
          refine wpAnyH_take (i := 11) (v := ?_) rfl (by kernel_rfl) (by kernel_rfl) (by kernel_rfl) (fun _ _ _ h => h) (Or.inl ⟨by rfl, ?_⟩) (by assumption) ?_
          rotate_left
          · intro w' hSw
            go_simp
            try with_reducible rfl
          try simp only [Act.put, List.setIfInBounds_toArray, List.set_cons_zero, List.set_cons_succ, List.getElem_toArray, List.getElem_cons_succ, List.getElem_cons_zero]
          refine wpAnyH_done (by kernel_rfl) ?_ _
          have HFh := Lib.hid (ff4 HF8.out hHeld)
          have HSh := Lib.hid (hHeld.blk HS8.out (fun h => h))
          clear hHeld t8 d1
          go_wp2_with (first
            | ((with_reducible refine at_build 38 ?_); refine wpList_build1 38 _ (.agg (stateC ⟨i, 0, []⟩)) (by rfl) rfl (fun w => by kernel_rfl) ?_)
            | ((with_reducible refine at_store4 38 ?_); refine wpList_store_blk 38 _ _ (w.heap.size + 1 + 1) 0 38 (stateC st0) (stateC ⟨i, 0, []⟩) (stateC ⟨i, 0, []⟩) (by rfl) rfl rfl rfl rfl HSh.out (infoSd _) (stateC_one _) (show 0 + 3 ≤ 3 by decide) (put_st _ _) ?_
               intro W9 hf9 hb9
               have HF9 := Lib.hid (HFh.out.fresh hf9 (fun i e => by have e : i = w.heap.size + 1 + 1 := e; omega))
               have HB9 := Lib.hid hb9
               clear hf9 hb9))
          exact bodyPost_ret (results_nAt _ _ (w.heap.size + 1 + 1) ⟨i, 0, []⟩ (intV 0) rfl rfl HB9.out) rfl ⟨by rw [HAs.out], HF9.out⟩
      · go_wp2_with ((with_reducible refine at_load4 33 ?_); refine wpList_load_blk 33 _ w.heap.size 0 33 (zoneC v) (zoneC v) _ (by rfl) rfl rfl HZ5.out Tryz.underlying33 rfl (infoDn _) (zero_part _) ?_)
        refine HP.out.mono ?_
        rintro q w7 ⟨rfl, hf7⟩
        have HF7 := Lib.hid (ff4 HF5.out hf7)
        have HS7 := Lib.hid (hf7.blk HS5.out (fun h => h))
        have HT7 := Lib.hid (hf7.blk HT5.out (fun h => h))
        have HB7 := Lib.hid (show Blk _ w7.heap.size 65 (nerC eraZ nilV) from Blk.made w7 65 (nerC eraZ nilV))
        have HN7 := Lib.hid (Fr.new w7 (.cells (nerC eraZ nilV) 65) (fun _ => False))
        clear hf7
        go_wp2_with ((with_reducible refine at_store4 65 ?_); refine wpList_store_blk 65 _ _ w7.heap.size 0 65 (nerC eraZ nilV) (nerC e (rulV x)) (nerC e (rulV x)) (by rfl) rfl rfl rfl rfl HB7.out (infoNe _ _) (nerC_one _ _) (show 0 + 14 ≤ 14 by decide) (put_ne _ _ _ _) ?_
                     intro W8 hf8 hb8
                     have hf8' := HN7.out.fresh hf8 (fun i e => by have e : i = w7.heap.size := e; omega)
                     have HF8 := Lib.hid (ff4 HF7.out hf8')
                     have HS8 := Lib.hid (hf8'.blk HS7.out (fun h => h))
                     have HT8 := Lib.hid (hf8'.blk HT7.out (fun h => h))
                     have HB8 := Lib.hid hb8
                     clear hf8 hf8' hb8 HN7 HB7)
        have h3 : e.kind = 1 ∨ (e.kind ≠ 1 ∧ e.kind = 2) ∨ (e.kind ≠ 1 ∧ e.kind ≠ 2) := by omega
        rcases h3 with hk | ⟨hk1, hk⟩ | ⟨hk1, hk2⟩
        · have HS := Lib.hid (eraT_1 (x := x) (t := t) hk)
          have HAs := Lib.hid (HAi.out.trans (congrArg (fun s : Int × Bs => ((⟨i, s.1, s.2⟩ : StateD), (0 : Int))) HS.out))
          have t8 : W8.cell? ⟨w.heap.size + 1, 0, none⟩ = some (.int .i64 t) := blkc HT8.out 0 _ rfl
          have d1 : W8.cell? ⟨w7.heap.size, 1, none⟩ = some (.int .i64 1) := by rw [← hk]; exact blkc HB8.out 1 _ rfl
          clear hk
          clear HS
          refine wp_region_held_drew (S := fun w' => Fr W8 w' (fun _ => False)) (by kernel_rfl) (Fr.drew W8 _) (fun hHeld => ?_)
          refine wpAnyH_take (i := 0) (v := ?_) rfl (by kernel_rfl) (by kernel_rfl) (by kernel_rfl) (fun _ _ _ h => h) (Or.inl ⟨by rfl, ?_⟩) (by assumption) ?_
          rotate_left
          · intro w' hSw
            go_simp
            try with_reducible rfl
          try simp only [Act.put, List.setIfInBounds_toArray, List.set_cons_zero, List.set_cons_succ, List.getElem_toArray, List.getElem_cons_zero]
          refine wpAnyH_take (i := 1) (v := ?_) rfl (by kernel_rfl) (by kernel_rfl) (by kernel_rfl) (fun _ _ _ h => h) (Or.inl ⟨by rfl, ?_⟩) (by assumption) ?_
          rotate_left
          · intro w' hSw
            go_simp
            try with_reducible rfl
          try simp only [Act.put, List.setIfInBounds_toArray, List.set_cons_zero, List.set_cons_succ, List.getElem_toArray, List.getElem_cons_succ, List.getElem_cons_zero]
          refine wpAnyH_take (i := 2) (v := ?_) rfl (by kernel_rfl) (by kernel_rfl) (by kernel_rfl) (fun _ _ _ h => h) (Or.inl ⟨by rfl, ?_⟩) (by assumption) ?_
          rotate_left
          · intro w' hSw
            have c1 : w'.cell? ⟨w7.heap.size, 1, none⟩ = some (.int .i64 1) := (cell_far hSw d1 (fun h => h))
            go_simp
            try with_reducible rfl
          try simp only [Act.put, List.setIfInBounds_toArray, List.set_cons_zero, List.set_cons_succ, List.getElem_toArray, List.getElem_cons_succ, List.getElem_cons_zero]
          refine wpAnyH_take (i := 4) (v := _) rfl (by kernel_rfl) (by kernel_rfl) (by kernel_rfl) (fun _ _ _ h => h) (yields_blk 65 _ w7.heap.size 0 65 (nerC e (rulV x)) (nerC e (rulV x)) _ (by rfl) rfl rfl (fun w' hSw => hSw.blk HB8.out (fun h => h)) Tryz.underlying65 rfl (infoNe _ _) (zero_part _)) (by assumption) ?_
          try simp only [Act.put, List.setIfInBounds_toArray, List.set_cons_zero, List.set_cons_succ, List.getElem_toArray, List.getElem_cons_succ, List.getElem_cons_zero]
          refine wpAnyH_take (i := 5) (v := ?_) rfl (by kernel_rfl) (by kernel_rfl) (by kernel_rfl) (fun _ _ _ h => h) (Or.inl ⟨by rfl, ?_⟩) (by assumption) ?_
          rotate_left
          · intro w' hSw
            have c1 : w'.cell? ⟨w.heap.size + 1, 0, none⟩ = some (.int .i64 t) := (cell_far hSw t8 (fun h => h))
            go_simp
            try with_reducible rfl
          try simp only [Act.put, List.setIfInBounds_toArray, List.set_cons_zero, List.set_cons_succ, List.getElem_toArray, List.getElem_cons_succ, List.getElem_cons_zero]
          refine wpAnyH_ready (rs := [3]) (by kernel_rfl) (by simp) ?_
          refine AllReadyH.cons rfl (fun K hK => ?_) AllReadyH.nil
          go_simp
          refine (saving_1 _).mono ?_
          rintro q w9 ⟨rfl, rfl⟩
          refine hK.out _ _ hHeld (fun hHeld2 => ?_)
          clear hK K hHeld
          rename_i hHeld2
          have hHeld := hHeld2
          clear hHeld2
          try simp only [Act.put, List.setIfInBounds_toArray, List.set_cons_zero, List.set_cons_succ, List.getElem_toArray, List.getElem_cons_succ, List.getElem_cons_zero]
          refine wpAnyH_ready (rs := [6]) (by kernel_rfl) (by simp) ?_
          refine AllReadyH.cons rfl (fun K hK => ?_) AllReadyH.nil
          go_simp
          refine (same_any e (rulV x) t _).mono ?_
          rintro q w10 ⟨rfl, hf10⟩
          refine hK.out _ _ (ff4 hHeld hf10) (fun hHeld2 => ?_)
          clear hK K hHeld hf10
          rename_i hHeld2
          have hHeld := hHeld2
          clear hHeld2
          try simp only [Act.put, List.setIfInBounds_toArray, List.set_cons_zero, List.set_cons_succ, List.getElem_toArray, List.getElem_cons_succ, List.getElem_cons_zero]
          refine wpAnyH_take (i := 7) (v := ?_) rfl (by kernel_rfl) (by kernel_rfl) (by kernel_rfl) (fun _ _ _ h => h) (Or.inl ⟨by rfl, ?_⟩) (by assumption) ?_
          rotate_left
          · intro w' hSw
            go_simp
            try with_reducible rfl
          try simp only [Act.put, List.setIfInBounds_toArray, List.set_cons_zero, List.set_cons_succ, List.getElem_toArray, List.getElem_cons_succ, List.getElem_cons_zero]
          refine wpAnyH_take (i := 8) (v := ?_) rfl (by kernel_rfl) (by kernel_rfl) (by kernel_rfl) (fun _ _ _ h => h) (Or.inl ⟨by rfl, ?_⟩) (by assumption) ?_
          rotate_left
          · intro w' hSw
            go_simp
            try with_reducible rfl
          try simp only [Act.put, List.setIfInBounds_toArray, List.set_cons_zero, List.set_cons_succ, List.getElem_toArray, List.getElem_cons_succ, List.getElem_cons_zero]
          refine wpAnyH_take (i := 9) (v := ?_) rfl (by kernel_rfl) (by kernel_rfl) (by kernel_rfl) (fun _ _ _ h => h) (Or.inl ⟨by rfl, ?_⟩) (by assumption) ?_
          rotate_left
          · intro w' hSw
            go_simp
            try with_reducible rfl
          try simp only [Act.put, List.setIfInBounds_toArray, List.set_cons_zero, List.set_cons_succ, List.getElem_toArray, List.getElem_cons_succ, List.getElem_cons_zero]
          refine wpAnyH_take (i := 10) (v := ?_) rfl (by kernel_rfl) (by kernel_rfl) (by kernel_rfl) (fun _ _ _ h => h) (Or.inl ⟨by rfl, ?_⟩) (by assumption) ?_
          rotate_left
          · intro w' hSw
            go_simp
            try with_reducible rfl
          try simp only [Act.put, List.setIfInBounds_toArray, List.set_cons_zero, List.set_cons_succ, List.getElem_toArray, List.getElem_cons_succ, List.getElem_cons_zero]
          refine wpAnyH_take (i := 11) (v := ?_) rfl (by kernel_rfl) (by kernel_rfl) (by kernel_rfl) (fun _ _ _ h => h) (Or.inl ⟨by rfl, ?_⟩) (by assumption) ?_
          rotate_left
          · intro w' hSw
            go_simp
            try with_reducible rfl
          try simp only [Act.put, List.setIfInBounds_toArray, List.set_cons_zero, List.set_cons_succ, List.getElem_toArray, List.getElem_cons_succ, List.getElem_cons_zero]
          refine wpAnyH_done (by kernel_rfl) ?_ _
          have HFh := Lib.hid (ff4 HF8.out hHeld)
          have HSh := Lib.hid (hHeld.blk HS8.out (fun h => h))
          clear hHeld t8 d1
          go_wp2_with (first
            | ((with_reducible refine at_build 38 ?_); refine wpList_build1 38 _ (.agg (stateC ⟨i, e.save, []⟩)) (by rfl) rfl (fun w => by kernel_rfl) ?_)
            | ((with_reducible refine at_store4 38 ?_); refine wpList_store_blk 38 _ _ (w.heap.size + 1 + 1) 0 38 (stateC st0) (stateC ⟨i, e.save, []⟩) (stateC ⟨i, e.save, []⟩) (by rfl) rfl rfl rfl rfl HSh.out (infoSd _) (stateC_one _) (show 0 + 3 ≤ 3 by decide) (put_st _ _) ?_
               intro W9 hf9 hb9
               have HF9 := Lib.hid (HFh.out.fresh hf9 (fun i e => by have e : i = w.heap.size + 1 + 1 := e; omega))
               have HB9 := Lib.hid hb9
               clear hf9 hb9))
          exact bodyPost_ret (results_nAt _ _ (w.heap.size + 1 + 1) ⟨i, e.save, []⟩ (intV 0) rfl rfl HB9.out) rfl ⟨by rw [HAs.out], HF9.out⟩
        · have HS := Lib.hid (eraT_2 (x := x) (t := t) hk)
          have HAs := Lib.hid (HAi.out.trans (congrArg (fun s : Int × Bs => ((⟨i, s.1, s.2⟩ : StateD), (0 : Int))) HS.out))
          obtain ⟨g1, g2, -, -, -⟩ := HOe.out
          have HRl := fun W (hW : S6.WOk W) (hx : RusAt W x.A x.l) => ruled_any e x t W hW hx HRx.out ⟨g1, g2⟩ HT.out
          generalize savA x.l e.off t = s at *
          have HRl := Lib.hid HRl
          have t8 : W8.cell? ⟨w.heap.size + 1, 0, none⟩ = some (.int .i64 t) := blkc HT8.out 0 _ rfl
          have d1 : W8.cell? ⟨w7.heap.size, 1, none⟩ = some (.int .i64 2) := by rw [← hk]; exact blkc HB8.out 1 _ rfl
          clear hk
          clear HS
          refine wp_region_held_drew (S := fun w' => Fr W8 w' (fun _ => False)) (by kernel_rfl) (Fr.drew W8 _) (fun hHeld => ?_)
          refine wpAnyH_take (i := 0) (v := ?_) rfl (by kernel_rfl) (by kernel_rfl) (by kernel_rfl) (fun _ _ _ h => h) (Or.inl ⟨by rfl, ?_⟩) (by assumption) ?_
          rotate_left
          · intro w' hSw
            go_simp
            try with_reducible rfl
          try simp only [Act.put, List.setIfInBounds_toArray, List.set_cons_zero, List.set_cons_succ, List.getElem_toArray, List.getElem_cons_zero]
          refine wpAnyH_take (i := 1) (v := ?_) rfl (by kernel_rfl) (by kernel_rfl) (by kernel_rfl) (fun _ _ _ h => h) (Or.inl ⟨by rfl, ?_⟩) (by assumption) ?_
          rotate_left
          · intro w' hSw
            go_simp
            try with_reducible rfl
          try simp only [Act.put, List.setIfInBounds_toArray, List.set_cons_zero, List.set_cons_succ, List.getElem_toArray, List.getElem_cons_succ, List.getElem_cons_zero]
          refine wpAnyH_take (i := 2) (v := ?_) rfl (by kernel_rfl) (by kernel_rfl) (by kernel_rfl) (fun _ _ _ h => h) (Or.inl ⟨by rfl, ?_⟩) (by assumption) ?_
          rotate_left
          · intro w' hSw
            have c1 : w'.cell? ⟨w7.heap.size, 1, none⟩ = some (.int .i64 2) := (cell_far hSw d1 (fun h => h))
            go_simp
            try with_reducible rfl
          try simp only [Act.put, List.setIfInBounds_toArray, List.set_cons_zero, List.set_cons_succ, List.getElem_toArray, List.getElem_cons_succ, List.getElem_cons_zero]
          refine wpAnyH_take (i := 4) (v := _) rfl (by kernel_rfl) (by kernel_rfl) (by kernel_rfl) (fun _ _ _ h => h) (yields_blk 65 _ w7.heap.size 0 65 (nerC e (rulV x)) (nerC e (rulV x)) _ (by rfl) rfl rfl (fun w' hSw => hSw.blk HB8.out (fun h => h)) Tryz.underlying65 rfl (infoNe _ _) (zero_part _)) (by assumption) ?_
          try simp only [Act.put, List.setIfInBounds_toArray, List.set_cons_zero, List.set_cons_succ, List.getElem_toArray, List.getElem_cons_succ, List.getElem_cons_zero]
          refine wpAnyH_take (i := 5) (v := ?_) rfl (by kernel_rfl) (by kernel_rfl) (by kernel_rfl) (fun _ _ _ h => h) (Or.inl ⟨by rfl, ?_⟩) (by assumption) ?_
          rotate_left
          · intro w' hSw
            have c1 : w'.cell? ⟨w.heap.size + 1, 0, none⟩ = some (.int .i64 t) := (cell_far hSw t8 (fun h => h))
            go_simp
            try with_reducible rfl
          try simp only [Act.put, List.setIfInBounds_toArray, List.set_cons_zero, List.set_cons_succ, List.getElem_toArray, List.getElem_cons_succ, List.getElem_cons_zero]
          refine wpAnyH_ready (rs := [3]) (by kernel_rfl) (by simp) ?_
          refine AllReadyH.cons rfl (fun K hK => ?_) AllReadyH.nil
          go_simp
          refine (saving_2 _).mono ?_
          rintro q w9 ⟨rfl, rfl⟩
          refine hK.out _ _ hHeld (fun hHeld2 => ?_)
          clear hK K hHeld
          rename_i hHeld2
          have hHeld := hHeld2
          clear hHeld2
          try simp only [Act.put, List.setIfInBounds_toArray, List.set_cons_zero, List.set_cons_succ, List.getElem_toArray, List.getElem_cons_succ, List.getElem_cons_zero]
          refine wpAnyH_ready (rs := [6]) (by kernel_rfl) (by simp) ?_
          refine AllReadyH.cons rfl (fun K hK => ?_) AllReadyH.nil
          go_simp
          refine (HRl.out _ (HW.out.fr (ff4 HF8.out hHeld)) (HRa.out _ (ff4 HF8.out hHeld))).mono ?_
          rintro q w10 ⟨rfl, hf10⟩
          refine hK.out _ _ (ff4 hHeld hf10) (fun hHeld2 => ?_)
          clear hK K hHeld hf10
          rename_i hHeld2
          have hHeld := hHeld2
          clear hHeld2
          try simp only [Act.put, List.setIfInBounds_toArray, List.set_cons_zero, List.set_cons_succ, List.getElem_toArray, List.getElem_cons_succ, List.getElem_cons_zero]
          refine wpAnyH_take (i := 7) (v := ?_) rfl (by kernel_rfl) (by kernel_rfl) (by kernel_rfl) (fun _ _ _ h => h) (Or.inl ⟨by rfl, ?_⟩) (by assumption) ?_
          rotate_left
          · intro w' hSw
            go_simp
            try with_reducible rfl
          try simp only [Act.put, List.setIfInBounds_toArray, List.set_cons_zero, List.set_cons_succ, List.getElem_toArray, List.getElem_cons_succ, List.getElem_cons_zero]
          refine wpAnyH_take (i := 8) (v := ?_) rfl (by kernel_rfl) (by kernel_rfl) (by kernel_rfl) (fun _ _ _ h => h) (Or.inl ⟨by rfl, ?_⟩) (by assumption) ?_
          rotate_left
          · intro w' hSw
            go_simp
            try with_reducible rfl
          try simp only [Act.put, List.setIfInBounds_toArray, List.set_cons_zero, List.set_cons_succ, List.getElem_toArray, List.getElem_cons_succ, List.getElem_cons_zero]
          refine wpAnyH_take (i := 9) (v := ?_) rfl (by kernel_rfl) (by kernel_rfl) (by kernel_rfl) (fun _ _ _ h => h) (Or.inl ⟨by rfl, ?_⟩) (by assumption) ?_
          rotate_left
          · intro w' hSw
            go_simp
            try with_reducible rfl
          try simp only [Act.put, List.setIfInBounds_toArray, List.set_cons_zero, List.set_cons_succ, List.getElem_toArray, List.getElem_cons_succ, List.getElem_cons_zero]
          refine wpAnyH_take (i := 10) (v := ?_) rfl (by kernel_rfl) (by kernel_rfl) (by kernel_rfl) (fun _ _ _ h => h) (Or.inl ⟨by rfl, ?_⟩) (by assumption) ?_
          rotate_left
          · intro w' hSw
            go_simp
            try with_reducible rfl
          try simp only [Act.put, List.setIfInBounds_toArray, List.set_cons_zero, List.set_cons_succ, List.getElem_toArray, List.getElem_cons_succ, List.getElem_cons_zero]
          refine wpAnyH_take (i := 11) (v := ?_) rfl (by kernel_rfl) (by kernel_rfl) (by kernel_rfl) (fun _ _ _ h => h) (Or.inl ⟨by rfl, ?_⟩) (by assumption) ?_
          rotate_left
          · intro w' hSw
            go_simp
            try with_reducible rfl
          try simp only [Act.put, List.setIfInBounds_toArray, List.set_cons_zero, List.set_cons_succ, List.getElem_toArray, List.getElem_cons_succ, List.getElem_cons_zero]
          refine wpAnyH_done (by kernel_rfl) ?_ _
          have HFh := Lib.hid (ff4 HF8.out hHeld)
          have HSh := Lib.hid (hHeld.blk HS8.out (fun h => h))
          clear hHeld t8 d1
          go_wp2_with (first
            | ((with_reducible refine at_build 38 ?_); refine wpList_build1 38 _ (.agg (stateC ⟨i, s.1, s.2⟩)) (by rfl) rfl (fun w => by kernel_rfl) ?_)
            | ((with_reducible refine at_store4 38 ?_); refine wpList_store_blk 38 _ _ (w.heap.size + 1 + 1) 0 38 (stateC st0) (stateC ⟨i, s.1, s.2⟩) (stateC ⟨i, s.1, s.2⟩) (by rfl) rfl rfl rfl rfl HSh.out (infoSd _) (stateC_one _) (show 0 + 3 ≤ 3 by decide) (put_st _ _) ?_
               intro W9 hf9 hb9
               have HF9 := Lib.hid (HFh.out.fresh hf9 (fun i e => by have e : i = w.heap.size + 1 + 1 := e; omega))
               have HB9 := Lib.hid hb9
               clear hf9 hb9))
          exact bodyPost_ret (results_nAt _ _ (w.heap.size + 1 + 1) ⟨i, s.1, s.2⟩ (intV 0) rfl rfl HB9.out) rfl ⟨by rw [HAs.out], HF9.out⟩
        · have HS := Lib.hid (eraT_0 (x := x) (t := t) hk1 hk2)
          have HAs := Lib.hid (HAi.out.trans (congrArg (fun s : Int × Bs => ((⟨i, s.1, s.2⟩ : StateD), (0 : Int))) HS.out))
          have t8 : W8.cell? ⟨w.heap.size + 1, 0, none⟩ = some (.int .i64 t) := blkc HT8.out 0 _ rfl
          have d1 : W8.cell? ⟨w7.heap.size, 1, none⟩ = some (.int .i64 e.kind) := blkc HB8.out 1 _ rfl
          clear HS
          refine wp_region_held_drew (S := fun w' => Fr W8 w' (fun _ => False)) (by kernel_rfl) (Fr.drew W8 _) (fun hHeld => ?_)
          refine wpAnyH_take (i := 0) (v := ?_) rfl (by kernel_rfl) (by kernel_rfl) (by kernel_rfl) (fun _ _ _ h => h) (Or.inl ⟨by rfl, ?_⟩) (by assumption) ?_
          rotate_left
          · intro w' hSw
            go_simp
            try with_reducible rfl
          try simp only [Act.put, List.setIfInBounds_toArray, List.set_cons_zero, List.set_cons_succ, List.getElem_toArray, List.getElem_cons_zero]
          refine wpAnyH_take (i := 1) (v := ?_) rfl (by kernel_rfl) (by kernel_rfl) (by kernel_rfl) (fun _ _ _ h => h) (Or.inl ⟨by rfl, ?_⟩) (by assumption) ?_
          rotate_left
          · intro w' hSw
            go_simp
            try with_reducible rfl
          try simp only [Act.put, List.setIfInBounds_toArray, List.set_cons_zero, List.set_cons_succ, List.getElem_toArray, List.getElem_cons_succ, List.getElem_cons_zero]
          refine wpAnyH_take (i := 2) (v := ?_) rfl (by kernel_rfl) (by kernel_rfl) (by kernel_rfl) (fun _ _ _ h => h) (Or.inl ⟨by rfl, ?_⟩) (by assumption) ?_
          rotate_left
          · intro w' hSw
            have c1 : w'.cell? ⟨w7.heap.size, 1, none⟩ = some (.int .i64 e.kind) := (cell_far hSw d1 (fun h => h))
            go_simp
            try with_reducible rfl
          try simp only [Act.put, List.setIfInBounds_toArray, List.set_cons_zero, List.set_cons_succ, List.getElem_toArray, List.getElem_cons_succ, List.getElem_cons_zero]
          refine wpAnyH_take (i := 4) (v := _) rfl (by kernel_rfl) (by kernel_rfl) (by kernel_rfl) (fun _ _ _ h => h) (yields_blk 65 _ w7.heap.size 0 65 (nerC e (rulV x)) (nerC e (rulV x)) _ (by rfl) rfl rfl (fun w' hSw => hSw.blk HB8.out (fun h => h)) Tryz.underlying65 rfl (infoNe _ _) (zero_part _)) (by assumption) ?_
          try simp only [Act.put, List.setIfInBounds_toArray, List.set_cons_zero, List.set_cons_succ, List.getElem_toArray, List.getElem_cons_succ, List.getElem_cons_zero]
          refine wpAnyH_take (i := 5) (v := ?_) rfl (by kernel_rfl) (by kernel_rfl) (by kernel_rfl) (fun _ _ _ h => h) (Or.inl ⟨by rfl, ?_⟩) (by assumption) ?_
          rotate_left
          · intro w' hSw
            have c1 : w'.cell? ⟨w.heap.size + 1, 0, none⟩ = some (.int .i64 t) := (cell_far hSw t8 (fun h => h))
            go_simp
            try with_reducible rfl
          try simp only [Act.put, List.setIfInBounds_toArray, List.set_cons_zero, List.set_cons_succ, List.getElem_toArray, List.getElem_cons_succ, List.getElem_cons_zero]
          refine wpAnyH_ready (rs := [3]) (by kernel_rfl) (by simp) ?_
          refine AllReadyH.cons rfl (fun K hK => ?_) AllReadyH.nil
          go_simp
          refine (saving_0 e.kind _ hk1 hk2).mono ?_
          rintro q w9 ⟨rfl, rfl⟩
          refine hK.out _ _ hHeld (fun hHeld2 => ?_)
          clear hK K hHeld
          rename_i hHeld2
          have hHeld := hHeld2
          clear hHeld2
          try simp only [Act.put, List.setIfInBounds_toArray, List.set_cons_zero, List.set_cons_succ, List.getElem_toArray, List.getElem_cons_succ, List.getElem_cons_zero]
          refine wpAnyH_ready (rs := [6]) (by kernel_rfl) (by simp) ?_
          refine AllReadyH.cons rfl (fun K hK => ?_) AllReadyH.nil
          go_simp
          refine (none_any e (rulV x) t _).mono ?_
          rintro q w10 ⟨rfl, hf10⟩
          refine hK.out _ _ (ff4 hHeld hf10) (fun hHeld2 => ?_)
          clear hK K hHeld hf10
          rename_i hHeld2
          have hHeld := hHeld2
          clear hHeld2
          try simp only [Act.put, List.setIfInBounds_toArray, List.set_cons_zero, List.set_cons_succ, List.getElem_toArray, List.getElem_cons_succ, List.getElem_cons_zero]
          refine wpAnyH_take (i := 7) (v := ?_) rfl (by kernel_rfl) (by kernel_rfl) (by kernel_rfl) (fun _ _ _ h => h) (Or.inl ⟨by rfl, ?_⟩) (by assumption) ?_
          rotate_left
          · intro w' hSw
            go_simp
            try with_reducible rfl
          try simp only [Act.put, List.setIfInBounds_toArray, List.set_cons_zero, List.set_cons_succ, List.getElem_toArray, List.getElem_cons_succ, List.getElem_cons_zero]
          refine wpAnyH_take (i := 8) (v := ?_) rfl (by kernel_rfl) (by kernel_rfl) (by kernel_rfl) (fun _ _ _ h => h) (Or.inl ⟨by rfl, ?_⟩) (by assumption) ?_
          rotate_left
          · intro w' hSw
            go_simp
            try with_reducible rfl
          try simp only [Act.put, List.setIfInBounds_toArray, List.set_cons_zero, List.set_cons_succ, List.getElem_toArray, List.getElem_cons_succ, List.getElem_cons_zero]
          refine wpAnyH_take (i := 9) (v := ?_) rfl (by kernel_rfl) (by kernel_rfl) (by kernel_rfl) (fun _ _ _ h => h) (Or.inl ⟨by rfl, ?_⟩) (by assumption) ?_
          rotate_left
          · intro w' hSw
            go_simp
            try with_reducible rfl
          try simp only [Act.put, List.setIfInBounds_toArray, List.set_cons_zero, List.set_cons_succ, List.getElem_toArray, List.getElem_cons_succ, List.getElem_cons_zero]
          refine wpAnyH_take (i := 10) (v := ?_) rfl (by kernel_rfl) (by kernel_rfl) (by kernel_rfl) (fun _ _ _ h => h) (Or.inl ⟨by rfl, ?_⟩) (by assumption) ?_
          rotate_left
          · intro w' hSw
            go_simp
            try with_reducible rfl
          try simp only [Act.put, List.setIfInBounds_toArray, List.set_cons_zero, List.set_cons_succ, List.getElem_toArray, List.getElem_cons_succ, List.getElem_cons_zero]
          refine wpAnyH_take (i := 11) (v := ?_) rfl (by kernel_rfl) (by kernel_rfl) (by kernel_rfl) (fun _ _ _ h => h) (Or.inl ⟨by rfl, ?_⟩) (by assumption) ?_
          rotate_left
          · intro w' hSw
            go_simp
            try with_reducible rfl
          try simp only [Act.put, List.setIfInBounds_toArray, List.set_cons_zero, List.set_cons_succ, List.getElem_toArray, List.getElem_cons_succ, List.getElem_cons_zero]
          refine wpAnyH_done (by kernel_rfl) ?_ _
          have HFh := Lib.hid (ff4 HF8.out hHeld)
          have HSh := Lib.hid (hHeld.blk HS8.out (fun h => h))
          clear hHeld t8 d1
          go_wp2_with (first
            | ((with_reducible refine at_build 38 ?_); refine wpList_build1 38 _ (.agg (stateC ⟨i, 0, []⟩)) (by rfl) rfl (fun w => by kernel_rfl) ?_)
            | ((with_reducible refine at_store4 38 ?_); refine wpList_store_blk 38 _ _ (w.heap.size + 1 + 1) 0 38 (stateC st0) (stateC ⟨i, 0, []⟩) (stateC ⟨i, 0, []⟩) (by rfl) rfl rfl rfl rfl HSh.out (infoSd _) (stateC_one _) (show 0 + 3 ≤ 3 by decide) (put_st _ _) ?_
               intro W9 hf9 hb9
               have HF9 := Lib.hid (HFh.out.fresh hf9 (fun i e => by have e : i = w.heap.size + 1 + 1 := e; omega))
               have HB9 := Lib.hid hb9
               clear hf9 hb9))
          exact bodyPost_ret (results_nAt _ _ (w.heap.size + 1 + 1) ⟨i, 0, []⟩ (intV 0) rfl rfl HB9.out) rfl ⟨by rw [HAs.out], HF9.out⟩
  · have HA := Lib.hid (HBad.out hk)
    obtain ⟨k, hkk⟩ : ∃ k, rightD (znD v) = k := ⟨_, rfl⟩
    have HE := Lib.hid (show Calls Tryz.prog 17 #[.agg (zoneC v)] w3 fun q w' => ∃ r, q = .returned (.tuple #[r, intV k]) ∧ Fr w3 w' (fun _ => False) from HE.out.mono (by
      rintro q w' ⟨r, rfl, -, hf⟩
      exact ⟨r, by rw [hkk], hf⟩))
    rw [hkk] at HA hk
    have k0 : (k == 0) = false := beq_eq_false_iff_ne.2 hk
    clear hk hkk
    go_enter Tryz.func10, Tryz.ntmps10
    go_wp2_with ((with_reducible refine at_load4 33 ?_); refine wpList_load_blk 33 _ w.heap.size 0 33 (zoneC v) (zoneC v) _ (by rfl) rfl rfl HB1.out Tryz.underlying33 rfl (infoDn _) (zero_part _) ?_)
    refine HE.out.mono ?_
    rintro q w4 ⟨r, rfl, hf4⟩
    have HF4 := Lib.hid (ff4 HF3.out hf4)
    have HS4 := Lib.hid (hf4.blk HB3.out (fun h => h))
    clear hf4
    go_wp2_with (first
      | ((with_reducible refine at_store4 38 ?_); refine wpList_store_blk 38 _ _ (w.heap.size + 1 + 1) 0 38 (stateC st0) (stateC st0) (stateC st0) (by rfl) rfl rfl rfl rfl HS4.out (infoSd _) (stateC_one _) (show 0 + 3 ≤ 3 by decide) (put_st _ _) ?_
         intro W9 hf9 hb9
         have HF9 := Lib.hid (HF4.out.fresh hf9 (fun i e => by have e : i = w.heap.size + 1 + 1 := e; omega))
         have HB9 := Lib.hid hb9
         clear hf9 hb9))
    exact bodyPost_ret (results_nAt _ _ (w.heap.size + 1 + 1) st0 (intV k) rfl rfl HB9.out) rfl ⟨by rw [HA.out], HF9.out⟩
end Go.Proofs.YtghcfmoagkimaaaGreatDoor
