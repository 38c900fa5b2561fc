import Derived.Test.YtghcfmoagkimaaaGreatDoorYa27
import Derived.Test.YtghcfmoagkimaaaGreatDoorYa20
import Derived.Test.YtghcfmoagkimaaaGreatDoorYa22
import Derived.Test.YtghcfmoagkimaaaGreatDoorYa10
import Derived.Test.YtghcfmoagkimaaaGreatDoorYa24
namespace Go.Proofs.YtghcfmoagkimaaaGreatDoor
open Go.RowKit Go.Mem Go.Lin Go.Xpd Go.Den

/-- an era's saving, by itself -/
def eraT (e : EraL) (x : RuV) (t : Int) : Int × Bs := if e.kind = 1 then (e.save, []) else if e.kind = 2 then savA x.l e.off t else (0, [])
theorem eraT_1 {e : EraL} {x : RuV} {t : Int} (h : e.kind = 1) : eraT e x t = (e.save, []) := if_pos h
theorem eraT_2 {e : EraL} {x : RuV} {t : Int} (h : e.kind = 2) : eraT e x t = savA x.l e.off t := by unfold eraT; rw [if_neg (by omega), if_pos h]
theorem eraT_0 {e : EraL} {x : RuV} {t : Int} (h1 : e.kind ≠ 1) (h2 : e.kind ≠ 2) : eraT e x t = (0, []) := by unfold eraT; rw [if_neg h1, if_neg h2]
theorem eraS_T {v : ZnV} {i : Nat} {e : EraL} (h : v.eras[i]? = some e) (t : Int) : eraS (znD v) i t = eraT e (rusV v i) t := by
  have hl : (((v.Z.map RuV.l)[i]?).getD []) = (rusV v i).l := by
    rw [List.getElem?_map]
    cases hx : v.Z[i]? with
    | none => rw [rusV_none hx]; rfl
    | some x => rw [rusV_some hx]; rfl
  unfold eraS eraT
  show (match v.eras[i]? with | none => _ | some e => if e.kind = 1 then (e.save, []) else if e.kind = 2 then savA (((v.Z.map RuV.l)[i]?).getD []) e.off t else (0, [])) = _
  rw [h, hl]
/-- numbers of an era that a zone of some weeks has -/
def OkW (e : EraL) : Prop := -100000 ≤ e.off ∧ e.off ≤ 100000 ∧ (e.kind = 1 → -100000 ≤ e.save ∧ e.save ≤ 100000) ∧ -700000 ≤ e.til.at_.s ∧ e.til.at_.s ≤ 700000
/-- what the walks want of a zone -/
structure LightV (v : ZnV) : Prop where
  ne : v.eras.length ≤ 10
  nz : v.Z.length ≤ 10
  z : ∀ x ∈ v.Z, LightP x.l 6
  e : ∀ e ∈ v.eras, OkW e
theorem LightZ.v {v : ZnV} (h : LightZ v) : LightV v := ⟨h.1, h.2.1, h.2.2.1, fun e he => by
  obtain ⟨h1, h2, h3, h4, h5, h6, -, -⟩ := h.2.2.2 e he
  exact ⟨h1, h2, fun _ => ⟨h3, h4⟩, h5, h6⟩⟩
/-- rules that go with an era -/
structure RuOk (x : RuV) : Prop where
  n : x.l.length ≤ 8
  r : ∀ r ∈ x.l, OkF r ∧ RuR r
theorem rus_ok {v : ZnV} (hL : LightV v) (hR : ZnR v) (i : Nat) : RuOk (rusV v i) := by
  cases hx : v.Z[i]? with
  | none => rw [rusV_none hx]; exact ⟨by simp, by simp⟩
  | some x =>
    rw [rusV_some hx]
    have h1 := hL.z x (List.mem_of_getElem? hx)
    have h2 := hR.z x (List.mem_of_getElem? hx)
    exact ⟨by have := h1.1; omega, fun r hr => ⟨h1.2 r hr, h2.2 r hr⟩⟩
theorem rus_at {w : World} {v : ZnV} (hv : ZnAt w v) (i : Nat) : RusAt w (rusV v i).A (rusV v i).l := by
  cases hx : v.Z[i]? with
  | none => rw [rusV_none hx]; exact ⟨by simp, fun h => absurd h (by simp)⟩
  | some x => rw [rusV_some hx]; exact hv.r.e x (List.mem_of_getElem? hx)
theorem same_any (e : EraL) (u : Value) (t : Int) (w : World) : Calls Tryz.prog 35 #[.agg (nerC e u), intV t] w fun q w' => q = .returned (.tuple #[intV e.save, strV []]) ∧ Fr w w' (fun _ => False) := by
  have HF := Lib.hid (Fr.new w (.cells (nerC e u) 65) (fun _ => False))
  have c2 : (w.alloc (.cells (nerC e u) 65)).cell? ⟨w.heap.size, 2, none⟩ = some (.int .i64 e.save) := blkc (Blk.made w 65 (nerC e u)) 2 _ rfl
  go_enter Tryz.func35, Tryz.ntmps35
  go_wp2_with fail
  go_ret2
  exact ⟨rfl, HF.out⟩
theorem none_any (e : EraL) (u : Value) (t : Int) (w : World) : Calls Tryz.prog 37 #[.agg (nerC e u), intV t] w fun q w' => q = .returned (.tuple #[intV 0, strV []]) ∧ Fr w w' (fun _ => False) := by
  have HF := Lib.hid (Fr.new w (.cells (nerC e u) 65) (fun _ => False))
  go_enter Tryz.func37, Tryz.ntmps37
  go_wp2_with fail
  go_ret2
  exact ⟨rfl, HF.out⟩
theorem ruled_any (e : EraL) (x : RuV) (t : Int) (w : World) (hw : S6.WOk w) (hx : RusAt w x.A x.l) (hok : RuOk x) (ho : -100000 ≤ e.off ∧ e.off ≤ 100000) (ht : S6.inRange t) :
    Calls Tryz.prog 36 #[.agg (nerC e (rulV x)), intV t] w fun q w' => q = .returned (.tuple #[intV (savA x.l e.off t).1, strV (savA x.l e.off t).2]) ∧ Fr w w' (fun _ => False) := by
  have hf := Fr.new w (.cells (nerC e (rulV x)) 65) (fun _ => False)
  have HF := Lib.hid hf
  have HS := Lib.hid (nSaving_any x.l x.A x.c e.off t _ (hw.fr hf) (hx.kept hf) hok.n hok.r ho ht)
  have c0 : (w.alloc (.cells (nerC e (rulV x)) 65)).cell? ⟨w.heap.size, 0, none⟩ = some (.int .i64 e.off) := blkc (Blk.made w 65 (nerC e (rulV x))) 0 _ rfl
  have c13 : (w.alloc (.cells (nerC e (rulV x)) 65)).cell? ⟨w.heap.size, 13, none⟩ = some (.slice x.A x.l.length x.c) := blkc (Blk.made w 65 (nerC e (rulV x))) 13 _ rfl
  clear hf hx hok hw
  generalize savA x.l e.off t = s at *
  go_enter Tryz.func36, Tryz.ntmps36
  go_wp2_with fail
  refine HS.out.mono ?_
  rintro q w2 ⟨rfl, hf2⟩
  go_wp2_with fail
  go_ret2
  exact ⟨rfl, ff4 HF.out hf2⟩
theorem saving_1 (w : World) : Calls Tryz.prog 22 #[intV 1] w fun q w' => q = .returned (.func (.func 35) #[] #[]) ∧ w' = w := by
  go_enter Tryz.func22, Tryz.ntmps22
  go_wp2_with fail
  go_ret
  exact ⟨rfl, rfl⟩
theorem saving_2 (w : World) : Calls Tryz.prog 22 #[intV 2] w fun q w' => q = .returned (.func (.func 36) #[] #[]) ∧ w' = w := by
  go_enter Tryz.func22, Tryz.ntmps22
  go_wp2_with fail
  go_ret
  exact ⟨rfl, rfl⟩
theorem saving_0 (k : Int) (w : World) (h1 : k ≠ 1) (h2 : k ≠ 2) : Calls Tryz.prog 22 #[intV k] w fun q w' => q = .returned (.func (.func 37) #[] #[]) ∧ w' = w := by
  have k1 : (k == 1) = false := beq_eq_false_iff_ne.2 h1
  have k2 : (k == 2) = false := beq_eq_false_iff_ne.2 h2
  clear h1 h2
  go_enter Tryz.func22, Tryz.ntmps22
  go_wp2_with fail
  go_ret
  exact ⟨rfl, rfl⟩
/-- an era's saving lies within its numbers -/
theorem eraT_in {e : EraL} {x : RuV} (h : OkW e) (hx : RuOk x) (t : Int) : -100000 ≤ (eraT e x t).1 ∧ (eraT e x t).1 ≤ 100000 := by
  by_cases h1 : e.kind = 1
  · rw [eraT_1 h1]; exact h.2.2.1 h1
  · by_cases h2 : e.kind = 2
    · rw [eraT_2 h2]
      unfold savA
      cases reachY t with
      | none => show -100000 ≤ (0 : Int) ∧ (0 : Int) ≤ 100000; omega
      | some y =>
        dsimp only
        cases findA x.l e.off t with
        | none => show -100000 ≤ (0 : Int) ∧ (0 : Int) ≤ 100000; omega
        | some f =>
          show -100000 ≤ savD x.l f.i ∧ savD x.l f.i ≤ 100000
          exact OkS.sav ⟨fun r hr => ⟨(hx.r r hr).1.1, (hx.r r hr).1.2.1⟩, fun r hr => ⟨(hx.r r hr).1.2.2.1, (hx.r r hr).1.2.2.2.1⟩⟩ _
    · rw [eraT_0 h1 h2]; show -100000 ≤ (0 : Int) ∧ (0 : Int) ≤ 100000; omega
theorem infoDn (v : ZnV) : (Tryz.prog.info? 33).map (·.size) = some (zoneC v).size := show _ = some 2 by kernel_rfl
theorem clock_in {u : UntilL} (h : (clockD u).2 = true) (hs : -700000 ≤ u.at_.s ∧ u.at_.s ≤ 700000) : -400000000000 ≤ (clockD u).1 ∧ (clockD u).1 ≤ 400000000000 := by
  cases hn : numX u.on u.year u.month with
  | none => rw [clockM_none hn] at h; cases h
  | some n =>
    have := numX_range hn
    rw [clockM_some hn]
    show -400000000000 ≤ n * 86400 + u.at_.s ∧ n * 86400 + u.at_.s ≤ 400000000000
    omega
theorem endN_no {v : ZnV} {i : Nat} {e : EraL} (h : v.eras[i]? = some e) (hc : ¬ (e.til.has = true ∧ (clockD e.til).2 = true)) : endD (znD v) i = 0 := by
  unfold endD
  show (match v.eras[i]? with | none => _ | some e => _) = _
  rw [h]
  exact if_neg hc
theorem endN_yes {v : ZnV} {i : Nat} {e : EraL} (h : v.eras[i]? = some e) (hc : e.til.has = true ∧ (clockD e.til).2 = true) :
    endD (znD v) i = if e.til.at_.k = 0 then (clockD e.til).1 - e.off - (eraT e (rusV v i) ((clockD e.til).1 - e.off - 1)).1 else if e.til.at_.k = 1 then (clockD e.til).1 - e.off else (clockD e.til).1 := by
  unfold endD
  show (match v.eras[i]? with | none => _ | some e => _) = _
  rw [h]
  refine (if_pos hc).trans ?_
  rw [eraS_T h]
set_option maxHeartbeats 6400000 in
set_option maxRecDepth 100000 in
theorem nEnd_gen (v : ZnV) (i : Nat) (w : World) (hw : S6.WOk w) (hv : ZnAt w v) (hR : ZnR v) (hL : LightV v) (hi : i < v.eras.length) : Calls Tryz.prog 32 #[.agg (zoneC v), intV i] w fun q w' => q = .returned (intV (endD (znD v) i)) ∧ Fr w w' (fun _ => False) := by
  obtain ⟨e, he⟩ : ∃ e, v.eras[i]? = some e := ⟨v.eras[i], List.getElem?_eq_getElem hi⟩
  have hok := hL.e e (List.mem_of_getElem? he)
  have n1 := Fr.new w (.cells (zoneC v) 33) (fun _ => False)
  have HF1 := Lib.hid n1
  have HB1 := Lib.hid (Blk.made w 33 (zoneC v))
  have c0 : (w.alloc (.cells (zoneC v) 33)).cell? ⟨w.heap.size, 0, none⟩ = some (.slice v.Ae v.eras.length v.ce) := blkc HB1.out 0 _ rfl
  have HV := Lib.hid hv
  have HW := Lib.hid hw
  have HOk := Lib.hid hok
  have HRu := Lib.hid (rus_ok hL hR i)
  have HP := Lib.hid (fun W (f : Fr w W (fun _ => False)) => pick_any v i e W (hv.kept f) he (by have := hL.ne; omega) hR.nz)
  have HC := Lib.hid (fun W (f : Fr w W (fun _ => False)) => nclock_any e.til W (hw.fr f) ⟨hok.2.2.2.1, hok.2.2.2.2⟩)
  have HRa := Lib.hid (fun W (f : Fr w W (fun _ => False)) => rus_at (hv.kept f) i)
  have HNo := Lib.hid (endN_no he)
  have HYes := Lib.hid (endN_yes he)
  have i0 : (i : Int) < (v.eras.length : Int) := by omega
  have i1 : (0 : Int) ≤ (i : Int) := by omega
  generalize rusV v i = x at *
  clear hv hw hR hL he n1
  by_cases hcl : e.til.has = true ∧ (clockD e.til).2 = true
  · have hcn : clockN e.til = ((clockD e.til).1, true) := clockN_yes hcl.1 hcl.2
    have hci := clock_in hcl.2 ⟨HOk.out.2.2.2.1, HOk.out.2.2.2.2⟩
    have HY := Lib.hid (HYes.out hcl)
    rw [hcn] at HC
    obtain ⟨g1, g2, -, -, -⟩ := hok
    generalize (clockD e.til).1 = c at *
    clear hcl hcn
    have hs1 : IntKind.i64.wrap (c - e.off) = c - e.off := by rw [IntKind.wrap_i64]; omega
    by_cases k0 : e.til.at_.k = 0
    · have HE := Lib.hid (HY.out.trans (if_pos k0))
      have HK0 := Lib.hid k0
      obtain ⟨t, ht⟩ : ∃ t, c - e.off = t := ⟨_, rfl⟩
      have hti : -500000000000 ≤ t ∧ t ≤ 500000000000 := by omega
      rw [ht] at HE hs1
      have hs2 : IntKind.i64.wrap (t - 1) = t - 1 := by rw [IntKind.wrap_i64]; omega
      have hsv := eraT_in HOk.out HRu.out (t - 1)
      have HT := Lib.hid (show S6.inRange (t - 1) by unfold S6.inRange; omega)
      have HTe := Lib.hid ht
      clear k0 ht
      have h3 : e.kind = 1 ∨ (e.kind ≠ 1 ∧ e.kind = 2) ∨ (e.kind ≠ 1 ∧ e.kind ≠ 2) := by omega
      rcases h3 with hk | ⟨hk1, hk⟩ | ⟨hk1, hk2⟩
      · have HS := Lib.hid (eraT_1 (x := x) (t := t - 1) hk)
        rw [HS.out] at hsv HE
        have hs3 : IntKind.i64.wrap (t - e.save) = t - e.save := by rw [IntKind.wrap_i64]; have hsv : -100000 ≤ e.save ∧ e.save ≤ 100000 := hsv; omega
        have HEv := Lib.hid (show endD (znD v) i = t - e.save from HE.out)
        clear HE HS hsv HY HNo HYes
        go_enter Tryz.func32, Tryz.ntmps32
        go_wp2_with ((with_reducible refine at_load4 33 ?_); refine wpList_load_blk 33 _ w.heap.size 0 33 (zoneC v) (zoneC v) _ (by rfl) rfl rfl HB1.out Tryz.underlying33 rfl (infoDn _) (zero_part _) ?_)
        refine (HP.out _ HF1.out).mono ?_
        rintro q w2 ⟨rfl, hf2⟩
        have HF2 := Lib.hid (ff4 HF1.out hf2)
        have HB2 := Lib.hid (show Blk _ w2.heap.size 65 (nerC eraZ nilV) from Blk.made w2 65 (nerC eraZ nilV))
        have HN2 := Lib.hid (Fr.new w2 (.cells (nerC eraZ nilV) 65) (fun _ => False))
        clear hf2 c0
        go_wp2_with (first
          | ((with_reducible refine at_store4 65 ?_); refine wpList_store_blk 65 _ _ w2.heap.size 0 65 (nerC eraZ nilV) (nerC e (rulV x)) (nerC e (rulV x)) (by rfl) rfl rfl rfl rfl HB2.out (infoNe _ _) (nerC_one _ _) (show 0 + 14 ≤ 14 by decide) (put_ne _ _ _ _) ?_
             intro W3 hf3 hb3
             have HF3 := Lib.hid (ff4 HF2.out (HN2.out.fresh hf3 (fun i e => by have e : i = w2.heap.size := e; omega)))
             have HB3 := Lib.hid hb3
             clear hf3 hb3 HN2 HB2)
          | ((with_reducible refine at_load4 46 ?_); refine wpList_load_blk 46 _ w2.heap.size 5 65 (nerC e (rulV x)) (tilC e.til) _ (by rfl) rfl rfl HB3.out Tryz.underlying46 rfl (infoTl _) (part_nt _ _) ?_))
        refine (HC.out _ HF3.out).mono ?_
        rintro q w4 ⟨rfl, hf4⟩
        have HF4 := Lib.hid (ff4 HF3.out hf4)
        have HB4 := Lib.hid (hf4.blk HB3.out (fun h => h))
        clear hf4
        have d12 : w4.cell? ⟨w2.heap.size, 12, none⟩ = some (.int .i64 0) := by rw [← HK0.out]; exact blkc HB4.out 12 _ rfl
        have d0 : w4.cell? ⟨w2.heap.size, 0, none⟩ = some (.int .i64 e.off) := blkc HB4.out 0 _ rfl
        have d1 : w4.cell? ⟨w2.heap.size, 1, none⟩ = some (.int .i64 1) := by rw [← hk]; exact blkc HB4.out 1 _ rfl
        clear hk
        have hct : c - e.off = t := HTe.out
        go_wp2_with fail
        refine wp_region_held_drew (S := fun w' => Fr w4 w' (fun _ => False)) (by kernel_rfl) (Fr.drew w4 _) (fun hHeld => ?_)
        refine wpAnyH_take (i := 0) (v := ?_) rfl (by kernel_rfl) (by kernel_rfl) (by kernel_rfl) (fun _ _ _ h => h) (Or.inl ⟨by rfl, ?_⟩) (by assumption) ?_
        rotate_left
        · intro w' hSw
          go_simp
          try with_reducible rfl
        try simp only [Act.put, List.setIfInBounds_toArray, List.set_cons_zero, List.set_cons_succ, List.getElem_toArray, List.getElem_cons_zero]
        refine wpAnyH_take (i := 1) (v := ?_) rfl (by kernel_rfl) (by kernel_rfl) (by kernel_rfl) (fun _ _ _ h => h) (Or.inl ⟨by rfl, ?_⟩) (by assumption) ?_
        rotate_left
        · intro w' hSw
          go_simp
          try with_reducible rfl
        try simp only [Act.put, List.setIfInBounds_toArray, List.set_cons_zero, List.set_cons_succ, List.getElem_toArray, List.getElem_cons_succ, List.getElem_cons_zero]
        refine wpAnyH_take (i := 2) (v := ?_) rfl (by kernel_rfl) (by kernel_rfl) (by kernel_rfl) (fun _ _ _ h => h) (Or.inl ⟨by rfl, ?_⟩) (by assumption) ?_
        rotate_left
        · intro w' hSw
          have c1 : w'.cell? ⟨w2.heap.size, 1, none⟩ = some (.int .i64 1) := (cell_far hSw d1 (fun h => h))
          go_simp
          try with_reducible rfl
        try simp only [Act.put, List.setIfInBounds_toArray, List.set_cons_zero, List.set_cons_succ, List.getElem_toArray, List.getElem_cons_succ, List.getElem_cons_zero]
        refine wpAnyH_take (i := 4) (v := _) rfl (by kernel_rfl) (by kernel_rfl) (by kernel_rfl) (fun _ _ _ h => h) (yields_blk 65 _ w2.heap.size 0 65 (nerC e (rulV x)) (nerC e (rulV x)) _ (by rfl) rfl rfl (fun w' hSw => hSw.blk HB4.out (fun h => h)) Tryz.underlying65 rfl (infoNe _ _) (zero_part _)) (by assumption) ?_
        try simp only [Act.put, List.setIfInBounds_toArray, List.set_cons_zero, List.set_cons_succ, List.getElem_toArray, List.getElem_cons_succ, List.getElem_cons_zero]
        refine wpAnyH_take (i := 5) (v := ?_) rfl (by kernel_rfl) (by kernel_rfl) (by kernel_rfl) (fun _ _ _ h => h) (Or.inl ⟨by rfl, ?_⟩) (by assumption) ?_
        rotate_left
        · intro w' hSw
          go_simp
          try with_reducible rfl
        try simp only [Act.put, List.setIfInBounds_toArray, List.set_cons_zero, List.set_cons_succ, List.getElem_toArray, List.getElem_cons_succ, List.getElem_cons_zero]
        refine wpAnyH_take (i := 6) (v := ?_) rfl (by kernel_rfl) (by kernel_rfl) (by kernel_rfl) (fun _ _ _ h => h) (Or.inl ⟨by rfl, ?_⟩) (by assumption) ?_
        rotate_left
        · intro w' hSw
          go_simp
          try with_reducible rfl
        try simp only [Act.put, List.setIfInBounds_toArray, List.set_cons_zero, List.set_cons_succ, List.getElem_toArray, List.getElem_cons_succ, List.getElem_cons_zero]
        refine wpAnyH_ready (rs := [3]) (by kernel_rfl) (by simp) ?_
        refine AllReadyH.cons rfl (fun K hK => ?_) AllReadyH.nil
        go_simp
        refine (saving_1 _).mono ?_
        rintro q w6 ⟨rfl, rfl⟩
        refine hK.out _ _ hHeld (fun hHeld2 => ?_)
        clear hK K hHeld
        rename_i hHeld2
        have hHeld := hHeld2
        clear hHeld2
        try simp only [Act.put, List.setIfInBounds_toArray, List.set_cons_zero, List.set_cons_succ, List.getElem_toArray, List.getElem_cons_succ, List.getElem_cons_zero]
        refine wpAnyH_ready (rs := [7]) (by kernel_rfl) (by simp) ?_
        refine AllReadyH.cons rfl (fun K hK => ?_) AllReadyH.nil
        go_simp
        refine (same_any e (rulV x) (t - 1) _).mono ?_
        rintro q w8 ⟨rfl, hf8⟩
        refine hK.out _ _ (ff4 hHeld hf8) (fun hHeld2 => ?_)
        clear hK K hHeld hf8
        rename_i hHeld2
        have hHeld := hHeld2
        clear hHeld2
        try simp only [Act.put, List.setIfInBounds_toArray, List.set_cons_zero, List.set_cons_succ, List.getElem_toArray, List.getElem_cons_succ, List.getElem_cons_zero]
        refine wpAnyH_take (i := 8) (v := ?_) rfl (by kernel_rfl) (by kernel_rfl) (by kernel_rfl) (fun _ _ _ h => h) (Or.inl ⟨by rfl, ?_⟩) (by assumption) ?_
        rotate_left
        · intro w' hSw
          go_simp
          try with_reducible rfl
        try simp only [Act.put, List.setIfInBounds_toArray, List.set_cons_zero, List.set_cons_succ, List.getElem_toArray, List.getElem_cons_succ, List.getElem_cons_zero]
        refine wpAnyH_take (i := 9) (v := ?_) rfl (by kernel_rfl) (by kernel_rfl) (by kernel_rfl) (fun _ _ _ h => h) (Or.inl ⟨by rfl, ?_⟩) (by assumption) ?_
        rotate_left
        · intro w' hSw
          go_simp
          try with_reducible rfl
        try simp only [Act.put, List.setIfInBounds_toArray, List.set_cons_zero, List.set_cons_succ, List.getElem_toArray, List.getElem_cons_succ, List.getElem_cons_zero]
        refine wpAnyH_take (i := 10) (v := ?_) rfl (by kernel_rfl) (by kernel_rfl) (by kernel_rfl) (fun _ _ _ h => h) (Or.inl ⟨by rfl, ?_⟩) (by assumption) ?_
        rotate_left
        · intro w' hSw
          go_simp
          try with_reducible rfl
        try simp only [Act.put, List.setIfInBounds_toArray, List.set_cons_zero, List.set_cons_succ, List.getElem_toArray, List.getElem_cons_succ, List.getElem_cons_zero]
        refine wpAnyH_take (i := 11) (v := ?_) rfl (by kernel_rfl) (by kernel_rfl) (by kernel_rfl) (fun _ _ _ h => h) (Or.inl ⟨by rfl, ?_⟩) (by assumption) ?_
        rotate_left
        · intro w' hSw
          go_simp
          try with_reducible rfl
        try simp only [Act.put, List.setIfInBounds_toArray, List.set_cons_zero, List.set_cons_succ, List.getElem_toArray, List.getElem_cons_succ, List.getElem_cons_zero]
        refine wpAnyH_take (i := 12) (v := ?_) rfl (by kernel_rfl) (by kernel_rfl) (by kernel_rfl) (fun _ _ _ h => h) (Or.inl ⟨by rfl, ?_⟩) (by assumption) ?_
        rotate_left
        · intro w' hSw
          go_simp
          try with_reducible rfl
        try simp only [Act.put, List.setIfInBounds_toArray, List.set_cons_zero, List.set_cons_succ, List.getElem_toArray, List.getElem_cons_succ, List.getElem_cons_zero]
        refine wpAnyH_done (by kernel_rfl) ?_ _
        go_wp2_with fail
        go_ret
        exact ⟨by rw [HEv.out]; rfl, ff4 HF4.out hHeld⟩
      · have HS := Lib.hid (eraT_2 (x := x) (t := t - 1) hk)
        rw [HS.out] at hsv HE
        generalize hsx : savA x.l e.off (t - 1) = s at *
        have hs3 : IntKind.i64.wrap (t - s.1) = t - s.1 := by rw [IntKind.wrap_i64]; omega
        have HEv := Lib.hid (show endD (znD v) i = t - s.1 from HE.out)
        have HRl := Lib.hid (fun W (hW : S6.WOk W) (hx : RusAt W x.A x.l) => (show Calls Tryz.prog 36 #[.agg (nerC e (rulV x)), intV (t - 1)] W fun q w' => q = .returned (.tuple #[intV s.1, strV s.2]) ∧ Fr W w' (fun _ => False) by have := ruled_any e x (t - 1) W hW hx HRu.out ⟨g1, g2⟩ HT.out; rw [hsx] at this; exact this))
        clear hsx
        clear HE HS hsv HY HNo HYes
        go_enter Tryz.func32, Tryz.ntmps32
        go_wp2_with ((with_reducible refine at_load4 33 ?_); refine wpList_load_blk 33 _ w.heap.size 0 33 (zoneC v) (zoneC v) _ (by rfl) rfl rfl HB1.out Tryz.underlying33 rfl (infoDn _) (zero_part _) ?_)
        refine (HP.out _ HF1.out).mono ?_
        rintro q w2 ⟨rfl, hf2⟩
        have HF2 := Lib.hid (ff4 HF1.out hf2)
        have HB2 := Lib.hid (show Blk _ w2.heap.size 65 (nerC eraZ nilV) from Blk.made w2 65 (nerC eraZ nilV))
        have HN2 := Lib.hid (Fr.new w2 (.cells (nerC eraZ nilV) 65) (fun _ => False))
        clear hf2 c0
        go_wp2_with (first
          | ((with_reducible refine at_store4 65 ?_); refine wpList_store_blk 65 _ _ w2.heap.size 0 65 (nerC eraZ nilV) (nerC e (rulV x)) (nerC e (rulV x)) (by rfl) rfl rfl rfl rfl HB2.out (infoNe _ _) (nerC_one _ _) (show 0 + 14 ≤ 14 by decide) (put_ne _ _ _ _) ?_
             intro W3 hf3 hb3
             have HF3 := Lib.hid (ff4 HF2.out (HN2.out.fresh hf3 (fun i e => by have e : i = w2.heap.size := e; omega)))
             have HB3 := Lib.hid hb3
             clear hf3 hb3 HN2 HB2)
          | ((with_reducible refine at_load4 46 ?_); refine wpList_load_blk 46 _ w2.heap.size 5 65 (nerC e (rulV x)) (tilC e.til) _ (by rfl) rfl rfl HB3.out Tryz.underlying46 rfl (infoTl _) (part_nt _ _) ?_))
        refine (HC.out _ HF3.out).mono ?_
        rintro q w4 ⟨rfl, hf4⟩
        have HF4 := Lib.hid (ff4 HF3.out hf4)
        have HB4 := Lib.hid (hf4.blk HB3.out (fun h => h))
        clear hf4
        have d12 : w4.cell? ⟨w2.heap.size, 12, none⟩ = some (.int .i64 0) := by rw [← HK0.out]; exact blkc HB4.out 12 _ rfl
        have d0 : w4.cell? ⟨w2.heap.size, 0, none⟩ = some (.int .i64 e.off) := blkc HB4.out 0 _ rfl
        have d1 : w4.cell? ⟨w2.heap.size, 1, none⟩ = some (.int .i64 2) := by rw [← hk]; exact blkc HB4.out 1 _ rfl
        clear hk
        have hct : c - e.off = t := HTe.out
        go_wp2_with fail
        refine wp_region_held_drew (S := fun w' => Fr w4 w' (fun _ => False)) (by kernel_rfl) (Fr.drew w4 _) (fun hHeld => ?_)
        refine wpAnyH_take (i := 0) (v := ?_) rfl (by kernel_rfl) (by kernel_rfl) (by kernel_rfl) (fun _ _ _ h => h) (Or.inl ⟨by rfl, ?_⟩) (by assumption) ?_
        rotate_left
        · intro w' hSw
          go_simp
          try with_reducible rfl
        try simp only [Act.put, List.setIfInBounds_toArray, List.set_cons_zero, List.set_cons_succ, List.getElem_toArray, List.getElem_cons_zero]
        refine wpAnyH_take (i := 1) (v := ?_) rfl (by kernel_rfl) (by kernel_rfl) (by kernel_rfl) (fun _ _ _ h => h) (Or.inl ⟨by rfl, ?_⟩) (by assumption) ?_
        rotate_left
        · intro w' hSw
          go_simp
          try with_reducible rfl
        try simp only [Act.put, List.setIfInBounds_toArray, List.set_cons_zero, List.set_cons_succ, List.getElem_toArray, List.getElem_cons_succ, List.getElem_cons_zero]
        refine wpAnyH_take (i := 2) (v := ?_) rfl (by kernel_rfl) (by kernel_rfl) (by kernel_rfl) (fun _ _ _ h => h) (Or.inl ⟨by rfl, ?_⟩) (by assumption) ?_
        rotate_left
        · intro w' hSw
          have c1 : w'.cell? ⟨w2.heap.size, 1, none⟩ = some (.int .i64 2) := (cell_far hSw d1 (fun h => h))
          go_simp
          try with_reducible rfl
        try simp only [Act.put, List.setIfInBounds_toArray, List.set_cons_zero, List.set_cons_succ, List.getElem_toArray, List.getElem_cons_succ, List.getElem_cons_zero]
        refine wpAnyH_take (i := 4) (v := _) rfl (by kernel_rfl) (by kernel_rfl) (by kernel_rfl) (fun _ _ _ h => h) (yields_blk 65 _ w2.heap.size 0 65 (nerC e (rulV x)) (nerC e (rulV x)) _ (by rfl) rfl rfl (fun w' hSw => hSw.blk HB4.out (fun h => h)) Tryz.underlying65 rfl (infoNe _ _) (zero_part _)) (by assumption) ?_
        try simp only [Act.put, List.setIfInBounds_toArray, List.set_cons_zero, List.set_cons_succ, List.getElem_toArray, List.getElem_cons_succ, List.getElem_cons_zero]
        refine wpAnyH_take (i := 5) (v := ?_) rfl (by kernel_rfl) (by kernel_rfl) (by kernel_rfl) (fun _ _ _ h => h) (Or.inl ⟨by rfl, ?_⟩) (by assumption) ?_
        rotate_left
        · intro w' hSw
          go_simp
          try with_reducible rfl
        try simp only [Act.put, List.setIfInBounds_toArray, List.set_cons_zero, List.set_cons_succ, List.getElem_toArray, List.getElem_cons_succ, List.getElem_cons_zero]
        refine wpAnyH_take (i := 6) (v := ?_) rfl (by kernel_rfl) (by kernel_rfl) (by kernel_rfl) (fun _ _ _ h => h) (Or.inl ⟨by rfl, ?_⟩) (by assumption) ?_
        rotate_left
        · intro w' hSw
          go_simp
          try with_reducible rfl
        try simp only [Act.put, List.setIfInBounds_toArray, List.set_cons_zero, List.set_cons_succ, List.getElem_toArray, List.getElem_cons_succ, List.getElem_cons_zero]
        refine wpAnyH_ready (rs := [3]) (by kernel_rfl) (by simp) ?_
        refine AllReadyH.cons rfl (fun K hK => ?_) AllReadyH.nil
        go_simp
        refine (saving_2 _).mono ?_
        rintro q w6 ⟨rfl, rfl⟩
        refine hK.out _ _ hHeld (fun hHeld2 => ?_)
        clear hK K hHeld
        rename_i hHeld2
        have hHeld := hHeld2
        clear hHeld2
        try simp only [Act.put, List.setIfInBounds_toArray, List.set_cons_zero, List.set_cons_succ, List.getElem_toArray, List.getElem_cons_succ, List.getElem_cons_zero]
        refine wpAnyH_ready (rs := [7]) (by kernel_rfl) (by simp) ?_
        refine AllReadyH.cons rfl (fun K hK => ?_) AllReadyH.nil
        go_simp
        refine (HRl.out _ (HW.out.fr (ff4 HF4.out hHeld)) (HRa.out _ (ff4 HF4.out hHeld))).mono ?_
        rintro q w8 ⟨rfl, hf8⟩
        refine hK.out _ _ (ff4 hHeld hf8) (fun hHeld2 => ?_)
        clear hK K hHeld hf8
        rename_i hHeld2
        have hHeld := hHeld2
        clear hHeld2
        try simp only [Act.put, List.setIfInBounds_toArray, List.set_cons_zero, List.set_cons_succ, List.getElem_toArray, List.getElem_cons_succ, List.getElem_cons_zero]
        refine wpAnyH_take (i := 8) (v := ?_) rfl (by kernel_rfl) (by kernel_rfl) (by kernel_rfl) (fun _ _ _ h => h) (Or.inl ⟨by rfl, ?_⟩) (by assumption) ?_
        rotate_left
        · intro w' hSw
          go_simp
          try with_reducible rfl
        try simp only [Act.put, List.setIfInBounds_toArray, List.set_cons_zero, List.set_cons_succ, List.getElem_toArray, List.getElem_cons_succ, List.getElem_cons_zero]
        refine wpAnyH_take (i := 9) (v := ?_) rfl (by kernel_rfl) (by kernel_rfl) (by kernel_rfl) (fun _ _ _ h => h) (Or.inl ⟨by rfl, ?_⟩) (by assumption) ?_
        rotate_left
        · intro w' hSw
          go_simp
          try with_reducible rfl
        try simp only [Act.put, List.setIfInBounds_toArray, List.set_cons_zero, List.set_cons_succ, List.getElem_toArray, List.getElem_cons_succ, List.getElem_cons_zero]
        refine wpAnyH_take (i := 10) (v := ?_) rfl (by kernel_rfl) (by kernel_rfl) (by kernel_rfl) (fun _ _ _ h => h) (Or.inl ⟨by rfl, ?_⟩) (by assumption) ?_
        rotate_left
        · intro w' hSw
          go_simp
          try with_reducible rfl
        try simp only [Act.put, List.setIfInBounds_toArray, List.set_cons_zero, List.set_cons_succ, List.getElem_toArray, List.getElem_cons_succ, List.getElem_cons_zero]
        refine wpAnyH_take (i := 11) (v := ?_) rfl (by kernel_rfl) (by kernel_rfl) (by kernel_rfl) (fun _ _ _ h => h) (Or.inl ⟨by rfl, ?_⟩) (by assumption) ?_
        rotate_left
        · intro w' hSw
          go_simp
          try with_reducible rfl
        try simp only [Act.put, List.setIfInBounds_toArray, List.set_cons_zero, List.set_cons_succ, List.getElem_toArray, List.getElem_cons_succ, List.getElem_cons_zero]
        refine wpAnyH_take (i := 12) (v := ?_) rfl (by kernel_rfl) (by kernel_rfl) (by kernel_rfl) (fun _ _ _ h => h) (Or.inl ⟨by rfl, ?_⟩) (by assumption) ?_
        rotate_left
        · intro w' hSw
          go_simp
          try with_reducible rfl
        try simp only [Act.put, List.setIfInBounds_toArray, List.set_cons_zero, List.set_cons_succ, List.getElem_toArray, List.getElem_cons_succ, List.getElem_cons_zero]
        refine wpAnyH_done (by kernel_rfl) ?_ _
        go_wp2_with fail
        go_ret
        exact ⟨by rw [HEv.out]; rfl, ff4 HF4.out hHeld⟩
      · have HS := Lib.hid (eraT_0 (x := x) (t := t - 1) hk1 hk2)
        rw [HS.out] at hsv HE
        have hs3 : IntKind.i64.wrap (t - 0) = t := by rw [IntKind.wrap_i64]; omega
        have HEv := Lib.hid (show endD (znD v) i = t from HE.out.trans (Int.sub_zero t))
        clear HE HS hsv HY HNo HYes
        go_enter Tryz.func32, Tryz.ntmps32
        go_wp2_with ((with_reducible refine at_load4 33 ?_); refine wpList_load_blk 33 _ w.heap.size 0 33 (zoneC v) (zoneC v) _ (by rfl) rfl rfl HB1.out Tryz.underlying33 rfl (infoDn _) (zero_part _) ?_)
        refine (HP.out _ HF1.out).mono ?_
        rintro q w2 ⟨rfl, hf2⟩
        have HF2 := Lib.hid (ff4 HF1.out hf2)
        have HB2 := Lib.hid (show Blk _ w2.heap.size 65 (nerC eraZ nilV) from Blk.made w2 65 (nerC eraZ nilV))
        have HN2 := Lib.hid (Fr.new w2 (.cells (nerC eraZ nilV) 65) (fun _ => False))
        clear hf2 c0
        go_wp2_with (first
          | ((with_reducible refine at_store4 65 ?_); refine wpList_store_blk 65 _ _ w2.heap.size 0 65 (nerC eraZ nilV) (nerC e (rulV x)) (nerC e (rulV x)) (by rfl) rfl rfl rfl rfl HB2.out (infoNe _ _) (nerC_one _ _) (show 0 + 14 ≤ 14 by decide) (put_ne _ _ _ _) ?_
             intro W3 hf3 hb3
             have HF3 := Lib.hid (ff4 HF2.out (HN2.out.fresh hf3 (fun i e => by have e : i = w2.heap.size := e; omega)))
             have HB3 := Lib.hid hb3
             clear hf3 hb3 HN2 HB2)
          | ((with_reducible refine at_load4 46 ?_); refine wpList_load_blk 46 _ w2.heap.size 5 65 (nerC e (rulV x)) (tilC e.til) _ (by rfl) rfl rfl HB3.out Tryz.underlying46 rfl (infoTl _) (part_nt _ _) ?_))
        refine (HC.out _ HF3.out).mono ?_
        rintro q w4 ⟨rfl, hf4⟩
        have HF4 := Lib.hid (ff4 HF3.out hf4)
        have HB4 := Lib.hid (hf4.blk HB3.out (fun h => h))
        clear hf4
        have d12 : w4.cell? ⟨w2.heap.size, 12, none⟩ = some (.int .i64 0) := by rw [← HK0.out]; exact blkc HB4.out 12 _ rfl
        have d0 : w4.cell? ⟨w2.heap.size, 0, none⟩ = some (.int .i64 e.off) := blkc HB4.out 0 _ rfl
        have d1 : w4.cell? ⟨w2.heap.size, 1, none⟩ = some (.int .i64 e.kind) := blkc HB4.out 1 _ rfl
        have hct : c - e.off = t := HTe.out
        go_wp2_with fail
        refine wp_region_held_drew (S := fun w' => Fr w4 w' (fun _ => False)) (by kernel_rfl) (Fr.drew w4 _) (fun hHeld => ?_)
        refine wpAnyH_take (i := 0) (v := ?_) rfl (by kernel_rfl) (by kernel_rfl) (by kernel_rfl) (fun _ _ _ h => h) (Or.inl ⟨by rfl, ?_⟩) (by assumption) ?_
        rotate_left
        · intro w' hSw
          go_simp
          try with_reducible rfl
        try simp only [Act.put, List.setIfInBounds_toArray, List.set_cons_zero, List.set_cons_succ, List.getElem_toArray, List.getElem_cons_zero]
        refine wpAnyH_take (i := 1) (v := ?_) rfl (by kernel_rfl) (by kernel_rfl) (by kernel_rfl) (fun _ _ _ h => h) (Or.inl ⟨by rfl, ?_⟩) (by assumption) ?_
        rotate_left
        · intro w' hSw
          go_simp
          try with_reducible rfl
        try simp only [Act.put, List.setIfInBounds_toArray, List.set_cons_zero, List.set_cons_succ, List.getElem_toArray, List.getElem_cons_succ, List.getElem_cons_zero]
        refine wpAnyH_take (i := 2) (v := ?_) rfl (by kernel_rfl) (by kernel_rfl) (by kernel_rfl) (fun _ _ _ h => h) (Or.inl ⟨by rfl, ?_⟩) (by assumption) ?_
        rotate_left
        · intro w' hSw
          have c1 : w'.cell? ⟨w2.heap.size, 1, none⟩ = some (.int .i64 e.kind) := (cell_far hSw d1 (fun h => h))
          go_simp
          try with_reducible rfl
        try simp only [Act.put, List.setIfInBounds_toArray, List.set_cons_zero, List.set_cons_succ, List.getElem_toArray, List.getElem_cons_succ, List.getElem_cons_zero]
        refine wpAnyH_take (i := 4) (v := _) rfl (by kernel_rfl) (by kernel_rfl) (by kernel_rfl) (fun _ _ _ h => h) (yields_blk 65 _ w2.heap.size 0 65 (nerC e (rulV x)) (nerC e (rulV x)) _ (by rfl) rfl rfl (fun w' hSw => hSw.blk HB4.out (fun h => h)) Tryz.underlying65 rfl (infoNe _ _) (zero_part _)) (by assumption) ?_
        try simp only [Act.put, List.setIfInBounds_toArray, List.set_cons_zero, List.set_cons_succ, List.getElem_toArray, List.getElem_cons_succ, List.getElem_cons_zero]
        refine wpAnyH_take (i := 5) (v := ?_) rfl (by kernel_rfl) (by kernel_rfl) (by kernel_rfl) (fun _ _ _ h => h) (Or.inl ⟨by rfl, ?_⟩) (by assumption) ?_
        rotate_left
        · intro w' hSw
          go_simp
          try with_reducible rfl
        try simp only [Act.put, List.setIfInBounds_toArray, List.set_cons_zero, List.set_cons_succ, List.getElem_toArray, List.getElem_cons_succ, List.getElem_cons_zero]
        refine wpAnyH_take (i := 6) (v := ?_) rfl (by kernel_rfl) (by kernel_rfl) (by kernel_rfl) (fun _ _ _ h => h) (Or.inl ⟨by rfl, ?_⟩) (by assumption) ?_
        rotate_left
        · intro w' hSw
          go_simp
          try with_reducible rfl
        try simp only [Act.put, List.setIfInBounds_toArray, List.set_cons_zero, List.set_cons_succ, List.getElem_toArray, List.getElem_cons_succ, List.getElem_cons_zero]
        refine wpAnyH_ready (rs := [3]) (by kernel_rfl) (by simp) ?_
        refine AllReadyH.cons rfl (fun K hK => ?_) AllReadyH.nil
        go_simp
        refine (saving_0 e.kind _ hk1 hk2).mono ?_
        rintro q w6 ⟨rfl, rfl⟩
        refine hK.out _ _ hHeld (fun hHeld2 => ?_)
        clear hK K hHeld
        rename_i hHeld2
        have hHeld := hHeld2
        clear hHeld2
        try simp only [Act.put, List.setIfInBounds_toArray, List.set_cons_zero, List.set_cons_succ, List.getElem_toArray, List.getElem_cons_succ, List.getElem_cons_zero]
        refine wpAnyH_ready (rs := [7]) (by kernel_rfl) (by simp) ?_
        refine AllReadyH.cons rfl (fun K hK => ?_) AllReadyH.nil
        go_simp
        refine (none_any e (rulV x) (t - 1) _).mono ?_
        rintro q w8 ⟨rfl, hf8⟩
        refine hK.out _ _ (ff4 hHeld hf8) (fun hHeld2 => ?_)
        clear hK K hHeld hf8
        rename_i hHeld2
        have hHeld := hHeld2
        clear hHeld2
        try simp only [Act.put, List.setIfInBounds_toArray, List.set_cons_zero, List.set_cons_succ, List.getElem_toArray, List.getElem_cons_succ, List.getElem_cons_zero]
        refine wpAnyH_take (i := 8) (v := ?_) rfl (by kernel_rfl) (by kernel_rfl) (by kernel_rfl) (fun _ _ _ h => h) (Or.inl ⟨by rfl, ?_⟩) (by assumption) ?_
        rotate_left
        · intro w' hSw
          go_simp
          try with_reducible rfl
        try simp only [Act.put, List.setIfInBounds_toArray, List.set_cons_zero, List.set_cons_succ, List.getElem_toArray, List.getElem_cons_succ, List.getElem_cons_zero]
        refine wpAnyH_take (i := 9) (v := ?_) rfl (by kernel_rfl) (by kernel_rfl) (by kernel_rfl) (fun _ _ _ h => h) (Or.inl ⟨by rfl, ?_⟩) (by assumption) ?_
        rotate_left
        · intro w' hSw
          go_simp
          try with_reducible rfl
        try simp only [Act.put, List.setIfInBounds_toArray, List.set_cons_zero, List.set_cons_succ, List.getElem_toArray, List.getElem_cons_succ, List.getElem_cons_zero]
        refine wpAnyH_take (i := 10) (v := ?_) rfl (by kernel_rfl) (by kernel_rfl) (by kernel_rfl) (fun _ _ _ h => h) (Or.inl ⟨by rfl, ?_⟩) (by assumption) ?_
        rotate_left
        · intro w' hSw
          go_simp
          try with_reducible rfl
        try simp only [Act.put, List.setIfInBounds_toArray, List.set_cons_zero, List.set_cons_succ, List.getElem_toArray, List.getElem_cons_succ, List.getElem_cons_zero]
        refine wpAnyH_take (i := 11) (v := ?_) rfl (by kernel_rfl) (by kernel_rfl) (by kernel_rfl) (fun _ _ _ h => h) (Or.inl ⟨by rfl, ?_⟩) (by assumption) ?_
        rotate_left
        · intro w' hSw
          go_simp
          try with_reducible rfl
        try simp only [Act.put, List.setIfInBounds_toArray, List.set_cons_zero, List.set_cons_succ, List.getElem_toArray, List.getElem_cons_succ, List.getElem_cons_zero]
        refine wpAnyH_take (i := 12) (v := ?_) rfl (by kernel_rfl) (by kernel_rfl) (by kernel_rfl) (fun _ _ _ h => h) (Or.inl ⟨by rfl, ?_⟩) (by assumption) ?_
        rotate_left
        · intro w' hSw
          go_simp
          try with_reducible rfl
        try simp only [Act.put, List.setIfInBounds_toArray, List.set_cons_zero, List.set_cons_succ, List.getElem_toArray, List.getElem_cons_succ, List.getElem_cons_zero]
        refine wpAnyH_done (by kernel_rfl) ?_ _
        go_wp2_with fail
        go_ret
        exact ⟨by rw [HEv.out]; rfl, ff4 HF4.out hHeld⟩
    · by_cases k1 : e.til.at_.k = 1
      · have HE := Lib.hid (HY.out.trans ((if_neg k0).trans (if_pos k1)))
        have HK1 := Lib.hid k1
        clear k0 k1 HY HNo HYes
        go_enter Tryz.func32, Tryz.ntmps32
        go_wp2_with ((with_reducible refine at_load4 33 ?_); refine wpList_load_blk 33 _ w.heap.size 0 33 (zoneC v) (zoneC v) _ (by rfl) rfl rfl HB1.out Tryz.underlying33 rfl (infoDn _) (zero_part _) ?_)
        refine (HP.out _ HF1.out).mono ?_
        rintro q w2 ⟨rfl, hf2⟩
        have HF2 := Lib.hid (ff4 HF1.out hf2)
        have HB2 := Lib.hid (show Blk _ w2.heap.size 65 (nerC eraZ nilV) from Blk.made w2 65 (nerC eraZ nilV))
        have HN2 := Lib.hid (Fr.new w2 (.cells (nerC eraZ nilV) 65) (fun _ => False))
        clear hf2 c0
        go_wp2_with (first
          | ((with_reducible refine at_store4 65 ?_); refine wpList_store_blk 65 _ _ w2.heap.size 0 65 (nerC eraZ nilV) (nerC e (rulV x)) (nerC e (rulV x)) (by rfl) rfl rfl rfl rfl HB2.out (infoNe _ _) (nerC_one _ _) (show 0 + 14 ≤ 14 by decide) (put_ne _ _ _ _) ?_
             intro W3 hf3 hb3
             have HF3 := Lib.hid (ff4 HF2.out (HN2.out.fresh hf3 (fun i e => by have e : i = w2.heap.size := e; omega)))
             have HB3 := Lib.hid hb3
             clear hf3 hb3 HN2 HB2)
          | ((with_reducible refine at_load4 46 ?_); refine wpList_load_blk 46 _ w2.heap.size 5 65 (nerC e (rulV x)) (tilC e.til) _ (by rfl) rfl rfl HB3.out Tryz.underlying46 rfl (infoTl _) (part_nt _ _) ?_))
        refine (HC.out _ HF3.out).mono ?_
        rintro q w4 ⟨rfl, hf4⟩
        have HF4 := Lib.hid (ff4 HF3.out hf4)
        have HB4 := Lib.hid (hf4.blk HB3.out (fun h => h))
        clear hf4
        have d12 : w4.cell? ⟨w2.heap.size, 12, none⟩ = some (.int .i64 1) := by rw [← HK1.out]; exact blkc HB4.out 12 _ rfl
        have d0 : w4.cell? ⟨w2.heap.size, 0, none⟩ = some (.int .i64 e.off) := blkc HB4.out 0 _ rfl
        go_wp2_with fail
        go_ret
        exact ⟨by rw [HE.out]; rfl, HF4.out⟩
      · have HE := Lib.hid (HY.out.trans ((if_neg k0).trans (if_neg k1)))
        have k0 : (e.til.at_.k == 0) = false := beq_eq_false_iff_ne.2 k0
        have k1 : (e.til.at_.k == 1) = false := beq_eq_false_iff_ne.2 k1
        clear HY HNo HYes
        go_enter Tryz.func32, Tryz.ntmps32
        go_wp2_with ((with_reducible refine at_load4 33 ?_); refine wpList_load_blk 33 _ w.heap.size 0 33 (zoneC v) (zoneC v) _ (by rfl) rfl rfl HB1.out Tryz.underlying33 rfl (infoDn _) (zero_part _) ?_)
        refine (HP.out _ HF1.out).mono ?_
        rintro q w2 ⟨rfl, hf2⟩
        have HF2 := Lib.hid (ff4 HF1.out hf2)
        have HB2 := Lib.hid (show Blk _ w2.heap.size 65 (nerC eraZ nilV) from Blk.made w2 65 (nerC eraZ nilV))
        have HN2 := Lib.hid (Fr.new w2 (.cells (nerC eraZ nilV) 65) (fun _ => False))
        clear hf2 c0
        go_wp2_with (first
          | ((with_reducible refine at_store4 65 ?_); refine wpList_store_blk 65 _ _ w2.heap.size 0 65 (nerC eraZ nilV) (nerC e (rulV x)) (nerC e (rulV x)) (by rfl) rfl rfl rfl rfl HB2.out (infoNe _ _) (nerC_one _ _) (show 0 + 14 ≤ 14 by decide) (put_ne _ _ _ _) ?_
             intro W3 hf3 hb3
             have HF3 := Lib.hid (ff4 HF2.out (HN2.out.fresh hf3 (fun i e => by have e : i = w2.heap.size := e; omega)))
             have HB3 := Lib.hid hb3
             clear hf3 hb3 HN2 HB2)
          | ((with_reducible refine at_load4 46 ?_); refine wpList_load_blk 46 _ w2.heap.size 5 65 (nerC e (rulV x)) (tilC e.til) _ (by rfl) rfl rfl HB3.out Tryz.underlying46 rfl (infoTl _) (part_nt _ _) ?_))
        refine (HC.out _ HF3.out).mono ?_
        rintro q w4 ⟨rfl, hf4⟩
        have HF4 := Lib.hid (ff4 HF3.out hf4)
        have HB4 := Lib.hid (hf4.blk HB3.out (fun h => h))
        clear hf4
        have d12 : w4.cell? ⟨w2.heap.size, 12, none⟩ = some (.int .i64 e.til.at_.k) := blkc HB4.out 12 _ rfl
        go_wp2_with fail
        go_ret
        exact ⟨by rw [HE.out]; rfl, HF4.out⟩
  · have hcn : clockN e.til = (0, false) := if_neg hcl
    have HE := Lib.hid (HNo.out hcl)
    rw [hcn] at HC
    clear hcl hcn HNo HYes
    go_enter Tryz.func32, Tryz.ntmps32
    go_wp2_with ((with_reducible refine at_load4 33 ?_); refine wpList_load_blk 33 _ w.heap.size 0 33 (zoneC v) (zoneC v) _ (by rfl) rfl rfl HB1.out Tryz.underlying33 rfl (infoDn _) (zero_part _) ?_)
    refine (HP.out _ HF1.out).mono ?_
    rintro q w2 ⟨rfl, hf2⟩
    have HF2 := Lib.hid (ff4 HF1.out hf2)
    have HB2 := Lib.hid (show Blk _ w2.heap.size 65 (nerC eraZ nilV) from Blk.made w2 65 (nerC eraZ nilV))
    have HN2 := Lib.hid (Fr.new w2 (.cells (nerC eraZ nilV) 65) (fun _ => False))
    clear hf2 c0
    go_wp2_with (first
      | ((with_reducible refine at_store4 65 ?_); refine wpList_store_blk 65 _ _ w2.heap.size 0 65 (nerC eraZ nilV) (nerC e (rulV x)) (nerC e (rulV x)) (by rfl) rfl rfl rfl rfl HB2.out (infoNe _ _) (nerC_one _ _) (show 0 + 14 ≤ 14 by decide) (put_ne _ _ _ _) ?_
         intro W3 hf3 hb3
         have HF3 := Lib.hid (ff4 HF2.out (HN2.out.fresh hf3 (fun i e => by have e : i = w2.heap.size := e; omega)))
         have HB3 := Lib.hid hb3
         clear hf3 hb3 HN2 HB2)
      | ((with_reducible refine at_load4 46 ?_); refine wpList_load_blk 46 _ w2.heap.size 5 65 (nerC e (rulV x)) (tilC e.til) _ (by rfl) rfl rfl HB3.out Tryz.underlying46 rfl (infoTl _) (part_nt _ _) ?_))
    refine (HC.out _ HF3.out).mono ?_
    rintro q w4 ⟨rfl, hf4⟩
    have HF4 := Lib.hid (ff4 HF3.out hf4)
    have HB4 := Lib.hid (hf4.blk HB3.out (fun h => h))
    clear hf4
    go_wp2_with fail
    go_ret
    exact ⟨by rw [HE.out]; rfl, HF4.out⟩
end Go.Proofs.YtghcfmoagkimaaaGreatDoor
namespace Go.Proofs.YtghcfmoagkimaaaGreatDoor
open Go.RowKit Go.Mem Go.Lin Go.Xpd Go.Fmx Go.Den

/- what a zone's state at an instant is like -/
theorem letD_len {l : List RuleL} (h : ∀ r ∈ l, OkF r) : (letD l).length ≤ 50 := by
  have hb := letB_of l
  unfold letD
  cases hl : letB l with
  | none => exact Nat.zero_le _
  | some q =>
    rw [hl] at hb
    obtain ⟨k, r, -, hk, -, -, he, -⟩ := hb
    show q.2.2.length ≤ 50
    rw [he]
    exact (h r (List.mem_of_getElem? hk)).2.2.2.2.1
theorem lettD_len {l : List RuleL} (h : ∀ r ∈ l, OkF r) (i : Int) : (lettD l i).length ≤ 50 := by
  unfold lettD
  cases hr : l[i.toNat]? with
  | none => exact Nat.zero_le _
  | some r => exact (h r (List.mem_of_getElem? hr)).2.2.2.2.1
theorem savA_len {l : List RuleL} (h : ∀ r ∈ l, OkF r) (off t : Int) : (savA l off t).2.length ≤ 50 := by
  unfold savA
  cases reachY t with
  | none => exact letD_len h
  | some y =>
    dsimp only
    cases findA l off t with
    | none => exact letD_len h
    | some f => exact lettD_len h f.i
theorem eraT_len {e : EraL} {x : RuV} (hx : RuOk x) (t : Int) : (eraT e x t).2.length ≤ 50 := by
  by_cases h1 : e.kind = 1
  · rw [eraT_1 h1]; exact Nat.zero_le _
  · by_cases h2 : e.kind = 2
    · rw [eraT_2 h2]; exact savA_len (fun r hr => (hx.r r hr).1) _ _
    · rw [eraT_0 h1 h2]; exact Nat.zero_le _
/-- an era and its state at an instant, where there are any -/
theorem at_state {v : ZnV} {t : Int} (hL : LightV v) (hR : ZnR v) (h : (atD (znD v) t).2 = 0) : ∃ (i : Nat) (e : EraL) (s : StateD), v.eras[i]? = some e ∧ atD (znD v) t = (s, 0) ∧ s.era = (i : Int) ∧ s.letter.length ≤ 50 ∧ -100000 ≤ s.save ∧ s.save ≤ 100000 ∧ OkW e := by
  unfold atD at h ⊢
  by_cases hr : rightD (znD v) ≠ 0
  · rw [if_pos hr] at h
    exact absurd h hr
  · rw [if_neg hr] at h ⊢
    have h0 : rightD (znD v) = 0 := by
      by_cases c : rightD (znD v) = 0
      · exact c
      · exact absurd c hr
    have hlen : LenOk v := by
      by_cases c : LenOk v
      · exact c
      · rw [right_len c] at h0; cases h0
    cases hy : reachY t with
    | none => rw [hy] at h; cases h
    | some y =>
      dsimp only
      obtain ⟨i, hi⟩ : ∃ i, eraAt (znD v) t 0 ((znD v).eras.length - 1) = i := ⟨_, rfl⟩
      have hspec := (eraAt_spec (znD v) t ((znD v).eras.length - 1) 0).2.1
      rw [hi] at hspec
      have hn : (znD v).eras.length = v.eras.length := rfl
      have hiv : i < v.eras.length := by have := hlen.1; omega
      obtain ⟨e, he⟩ : ∃ e, v.eras[i]? = some e := ⟨v.eras[i], List.getElem?_eq_getElem hiv⟩
      rw [hi, eraS_T he]
      have hok := hL.e e (List.mem_of_getElem? he)
      have hru := rus_ok hL hR i
      have hs := eraT_in hok hru t
      exact ⟨i, e, _, he, rfl, rfl, eraT_len hru t, hs.1, hs.2, hok⟩
theorem at16_bad {v : ZnV} {t : Int} (h : (atD (znD v) t).2 ≠ 0) : atD16 (znD v) t = (loc0, (atD (znD v) t).2) := if_neg h
theorem at16_in {v : ZnV} {t : Int} {i : Nat} {e : EraL} {s : StateD} (he : v.eras[i]? = some e) (h : atD (znD v) t = (s, 0)) (hs : s.era = (i : Int)) : atD16 (znD v) t = ofD16 e s := by
  unfold atD16
  rw [h]
  refine (if_pos rfl).trans ?_
  show (match v.eras[s.era.toNat]? with | none => (loc0, 0) | some e => ofD16 e s) = _
  rw [hs, Int.toNat_natCast, he]
end Go.Proofs.YtghcfmoagkimaaaGreatDoor
namespace Go.Mem
open Go.RowKit
section
variable {P : Program} {ops : Array Oper} {Q : Exit → Act → World → Prop} {md : Region.Mode} {S : World → Prop}
/-- a struct is stored in a region that draws its order, where nothing else may come up -/
theorem wpAnyH_putN {fuel : Nat} {listed : Array Bool} {a : Act} {w : World} (m : Nat) (om : Oper) (hm : ops[m]? = some om) (hr4 : Region.ready md ops listed = [m]) (gm : om.guard = none)
    {ts : TypeId} {xm ym : Operand} (hom : om.op = .store ts xm ym) (hdm : om.dst = none) (D off : Nat) (t : TypeId) (old cells new : Array Value) (hb : Blk w D t old) (hxm : a.eval xm = .pointer (some ⟨D, off, none⟩)) (hym : a.eval ym = .agg cells)
    (hi : (P.info? ts).map (·.size) = some cells.size) (h1 : cells.all (·.oneCell') = true) (hfit : off + cells.size ≤ old.size) (hnew : setMany old off cells.toList = new)
    (hS : ∀ W, Fr w W (fun i => i = D) → Blk W D t new → S W) (h : ∀ W, S W → Fr w W (fun i => i = D) → Blk W D t new → wpAnyH P md ops Q S fuel (listed.setIfInBounds m true) a W) : wpAnyH P md ops Q S (fuel + 1) listed a w := by
  have hw : ∀ (o : Oper) (y : Nat → Option Bool) (hg : o.guard = none), Region.wanted o y = true := fun o y hg => by simp only [Region.wanted, hg]
  have ht : w.there D off cells.size := fun j hj => ⟨by rw [cell_at hb, Array.getElem?_eq_getElem (by omega)]; rfl, free_at hb _⟩
  have hf := Fr.many (g := D) cells.toList off w
  have hk := Blk.many cells.toList off old w hb
  rw [hnew] at hk
  refine wpAnyH_ready hr4 (by simp) (AllReadyH.cons hm (fun K2 hK2 => ?_) AllReadyH.nil)
  rw [if_pos (hw _ _ gm)]
  unfold Oper.wp execOp
  simp only [hom, hxm, hym, run_storeAt_mid w D off ts cells ht hi h1, Sem.run_bind, Sem.run_pure, Result.andThen_ok]
  have := hK2.out a _ (hS _ hf hk) (fun hs => h _ hs hf hk)
  simpa only [Oper.upon, hdm, Act.put] using this
end
end Go.Mem
