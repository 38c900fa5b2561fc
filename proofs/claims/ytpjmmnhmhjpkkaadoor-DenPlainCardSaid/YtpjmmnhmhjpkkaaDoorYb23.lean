import Derived.Test.YtpjmmnhmhjpkkaaDoorYb21
namespace Go.Proofs.YtpjmmnhmhjpkkaaDoor
open Go.RowKit Go.Mem Go.Lin Go.Xpd Go.Den

def plE (off save kind : Int) : EraL := ⟨off, kind, save, [], [88], tilZ⟩
def plV (g : Nat) (off save kind : Int) : ZnV := ⟨some ⟨g + 1, 0, none⟩, 1, [plE off save kind], some ⟨g + 2, 0, none⟩, 1, [⟨none, 0, []⟩]⟩
theorem pl_len (g : Nat) (off save kind : Int) : LenOk (plV g off save kind) := ⟨Nat.le_refl 1, by show 1 ≤ 8; decide, rfl⟩
theorem pl_bad {g : Nat} {off save kind t : Int} (h : ¬ (within off 86400 ∧ (kind = 1 → within save 86400))) : atD (znD (plV g off save kind)) t = (st0, 1) := by
  have hr : rightD (znD (plV g off save kind)) = 1 := right_bad (pl_len _ _ _ _) (i := 0) (e := plE off save kind) (x := ⟨none, 0, []⟩) rfl rfl (fun ho => h ⟨ho.1, ho.2.2.2.1⟩)
  rw [atD_bad (by rw [hr]; decide), hr]
theorem pl_zero {g : Nat} {off save kind : Int} (h : within off 86400 ∧ (kind = 1 → within save 86400)) (hk : kind = 0 ∨ kind = 1) : rightD (znD (plV g off save kind)) = 0 := by
  have h1 : ∀ (j : Nat) (e : EraL), (plV g off save kind).eras[j]? = some e → j = 0 ∧ e = plE off save kind := by
    intro j e he
    match j, he with
    | 0, he => exact ⟨rfl, (Option.some.inj he).symm⟩
    | j + 1, he => cases he
  refine right_fine (pl_len _ _ _ _) (fun j e x _ he hx => ?_) (fun j e _ he => ?_) (fun j hj => ?_)
  · obtain ⟨rfl, rfl⟩ := h1 j e he
    have hx : x = ⟨none, 0, []⟩ := (Option.some.inj hx).symm
    subst hx
    refine ⟨h.1, ?_, ?_, h.2, by decide, (fun r hr => by cases hr), (fun ht => by cases ht)⟩
    · show 0 ≤ kind; omega
    · show kind ≤ 2; omega
  · obtain ⟨rfl, rfl⟩ := h1 j e he
    rfl
  · have hj : j + 2 < 1 := hj
    omega
theorem pl_far {g : Nat} {off save kind t : Int} (h : within off 86400 ∧ (kind = 1 → within save 86400)) (hk : kind = 0 ∨ kind = 1) (hr : reachY t = none) : atD (znD (plV g off save kind)) t = (st0, 2) := atD_far (pl_zero h hk) hr
theorem pl_in {g : Nat} {off save kind t y : Int} (h : within off 86400 ∧ (kind = 1 → within save 86400)) (hk : kind = 0 ∨ kind = 1) (hr : reachY t = some y) : atD (znD (plV g off save kind)) t = (⟨0, if kind = 1 then save else 0, []⟩, 0) := by
  rw [atD_in (pl_zero h hk) hr (i := 0) rfl]
  have e : eraS (znD (plV g off save kind)) 0 t = (if kind = 1 then save else 0, []) := by
    by_cases h1 : kind = 1
    · rw [eraS_1 (e := plE off save kind) rfl h1, if_pos h1]; rfl
    · rw [eraS_0 (e := plE off save kind) rfl h1 (by show kind ≠ 2; omega), if_neg h1]
  rw [e]
  rfl
theorem pl_R {g : Nat} {off save kind : Int} (h1 : inR off) (h2 : inR save) (hk : kind = 0 ∨ kind = 1) : ZnR (plV g off save kind) := by
  have hz : inR 0 := by unfold inR; decide
  refine ⟨fun x hx => ?_, fun e he => ?_, by show 1 ≤ maxLen; unfold maxLen; decide, by show 1 ≤ maxLen; unfold maxLen; decide⟩
  · rw [List.mem_singleton.1 hx]
    exact ⟨Nat.zero_le _, fun r hr => by cases hr⟩
  · rw [List.mem_singleton.1 he]
    exact ⟨h1, by show inR kind; unfold inR; omega, h2, by show 0 ≤ maxLen; exact Nat.zero_le _, by show 1 ≤ maxLen; unfold maxLen; decide, hz, hz, hz, hz, hz, hz, hz⟩
theorem pl_L (g : Nat) (off save kind : Int) : LightW (plV g off save kind) := ⟨by show 1 ≤ 10; decide, by show 1 ≤ 10; decide, fun x hx => by
    rw [List.mem_singleton.1 hx]
    show LightP [] 6
    decide, fun e he => by rw [List.mem_singleton.1 he]; show -700000 ≤ (0 : Int) ∧ (0 : Int) ≤ 700000; omega⟩
abbrev plW1 (w : World) (e : EraL) : World := w.alloc (.cells (eraC e) 44)
abbrev plW2 (w : World) (e : EraL) : World := (plW1 w e).alloc (.cells (eraC e) 44)
abbrev plW3 (w : World) (e : EraL) : World := (plW2 w e).alloc (.cells #[.slice none 0 0] 47)
abbrev plW4 (w : World) (off save kind : Int) : World := (plW3 w (plE off save kind)).alloc (.cells (zoneC (plV w.heap.size off save kind)) 33)
theorem plV_at (w : World) (off save kind : Int) : ZnAt (plW4 w off save kind) (plV w.heap.size off save kind) ∧ Fr w (plW4 w off save kind) (fun _ => False) := by
  have s1 : (plW1 w (plE off save kind)).heap.size = w.heap.size + 1 := by simp [plW1]
  have s2 : (plW2 w (plE off save kind)).heap.size = w.heap.size + 2 := by simp [plW2, plW1]
  have n1 := Fr.new w (.cells (eraC (plE off save kind)) 44) (fun _ => False)
  have n2 := Fr.new (plW1 w (plE off save kind)) (.cells (eraC (plE off save kind)) 44) (fun _ => False)
  have n3 := Fr.new (plW2 w (plE off save kind)) (.cells #[.slice none 0 0] 47) (fun _ => False)
  have n4 := Fr.new (plW3 w (plE off save kind)) (.cells (zoneC (plV w.heap.size off save kind)) 33) (fun _ => False)
  have r2 : ErasAt (plW2 w (plE off save kind)) (some ⟨w.heap.size + 1, 0, none⟩) [plE off save kind] := by
    have := rd_made2 (plW1 w (plE off save kind)) 44 (eraC (plE off save kind)) 1 13 rfl
    rw [s1] at this
    exact this
  have r3 : Rd (plW3 w (plE off save kind)) 1 (some ⟨w.heap.size + 2, 0, none⟩) 1 ([(⟨none, 0, []⟩ : RuV)].flatMap ruvL) := by
    have := rd_made2 (plW2 w (plE off save kind)) 47 #[.slice none 0 0] 1 1 rfl
    rw [s2] at this
    exact this
  refine ⟨⟨(r2.kept n3).kept n4, ⟨Rd.fr r3 n4 (fun _ _ _ _ h => h), fun x hx => ?_⟩⟩, ff4 n1 (ff4 n2 (ff4 n3 n4))⟩
  rw [List.mem_singleton.1 hx]
  exact ⟨rfl, fun h => absurd h (by simp)⟩
set_option maxHeartbeats 3200000 in
set_option maxRecDepth 100000 in
theorem dplain_any (off save t : Int) (fixed : Bool) (w : World) (hw : S6.WOk w) (ho : inR off) (hs : inR save) (ht : inR t) :
    Calls Tryd.prog 4 #[intV off, intV save, intV t, .bool fixed] w fun e w' => e = .returned (.bool true) ∧ Fr w w' (fun _ => False) := by
  have HAl := Lib.hid (fun W (f : Fr w W (fun _ => False)) => zalive_any W (hw.fr f))
  cases fixed with
  | false =>
    obtain ⟨hv, hf⟩ := plV_at w off save 0
    have HF4 := Lib.hid hf
    have HN := Lib.hid (nAt_any (plV w.heap.size off save 0) t (plW4 w off save 0) (hw.fr hf) hv (pl_R ho hs (by decide)) (pl_L _ _ _ _) ht)
    have HD := Lib.hid (fun (s : StateD) (k : Int) (h : atD (znD (plV w.heap.size off save 0)) t = (s, k)) => h)
    obtain ⟨s, k, hsk⟩ : ∃ s k, atD (znD (plV w.heap.size off save 0)) t = (s, k) := ⟨_, _, rfl⟩
    rw [hsk] at HN
    have HSK := Lib.hid hsk
    clear hv hf hw HD hsk
    by_cases hb : within off 86400 ∧ ((0 : Int) = 1 → within save 86400)
    · obtain ⟨⟨o1, o2⟩, o3⟩ := hb
      have HB := Lib.hid (show within off 86400 ∧ ((0 : Int) = 1 → within save 86400) from ⟨⟨o1, o2⟩, o3⟩)
      clear o3
      cases hr : reachY t with
      | none =>
        have HE := HSK.out.symm.trans (pl_far HB.out (by decide) hr)
        injection HE with e1 e2
        subst e1 e2
        clear hr
        go_enter Tryd.func4, Tryd.ntmps4
        go_wp2_with fail
        refine HN.out.mono ?_
        rintro e w5 ⟨rfl, hf5⟩
        have HF5 := Lib.hid (ff4 HF4.out hf5)
        have n6 := Fr.new w5 (.cells (stateC st0) 29) (fun _ => False)
        have HN6 := Lib.hid (ff4 HF5.out n6)
        have HS6 := Lib.hid (Blk.made w5 29 (stateC st0))
        clear hf5 n6
        go_wp2_with (first
          | ((with_reducible refine at_store4 29 ?_); refine wpList_store_blk 29 _ _ w5.heap.size 0 29 (stateC st0) (stateC st0) (stateC st0) (by rfl) rfl rfl rfl rfl HS6.out (infoDs _) (stateC_one _) (show 0 + 3 ≤ 3 by decide) (put_st _ _) ?_
             intro W7 hf7 hb7
             have HF7 := Lib.hid (HN6.out.fresh hf7 (fun i e => by have e : i = w5.heap.size := e; have := HF5.out.size; omega))
             have HS7 := Lib.hid hb7
             clear hf7 hb7)
          | ((with_reducible refine at_load4 29 ?_); refine wpList_load_blk 29 _ w5.heap.size 0 29 (stateC st0) (stateC st0) _ (by rfl) rfl rfl HS7.out Tryd.underlying29 rfl (infoDs _) (zero_part _) ?_)
          | ((with_reducible refine at_eql 29 ?_); refine wpList_eql (t := 29) (cs := stateC st0) (ds := stateC st0) (b := true) (by rfl) rfl rfl rfl (guard_state _ _ _ _) (eql_state st0) ?_))
        refine (HAl.out W7 HF7.out).mono ?_
        rintro e w10 ⟨rfl, hf10⟩
        have HF10 := Lib.hid (ff4 HF7.out hf10)
        clear hf10
        go_wp2_with fail
        go_ret
        exact ⟨rfl, HF10.out⟩
      | some y =>
        have HE := HSK.out.symm.trans (pl_in HB.out (by decide) hr)
        injection HE with e1 e2
        subst e1 e2
        clear hr
        go_enter Tryd.func4, Tryd.ntmps4
        go_wp2_with fail
        refine HN.out.mono ?_
        rintro e w5 ⟨rfl, hf5⟩
        have HF5 := Lib.hid (ff4 HF4.out hf5)
        have n6 := Fr.new w5 (.cells (stateC st0) 29) (fun _ => False)
        have HN6 := Lib.hid (ff4 HF5.out n6)
        have HS6 := Lib.hid (Blk.made w5 29 (stateC st0))
        clear hf5 n6
        go_wp2_with (first
          | ((with_reducible refine at_store4 29 ?_); refine wpList_store_blk 29 _ _ w5.heap.size 0 29 (stateC st0) (stateC ⟨0, if (0 : Int) = 1 then save else 0, []⟩) (stateC ⟨0, if (0 : Int) = 1 then save else 0, []⟩) (by rfl) rfl rfl rfl rfl HS6.out (infoDs _) (stateC_one _) (show 0 + 3 ≤ 3 by decide) (put_st _ _) ?_
             intro W7 hf7 hb7
             have HF7 := Lib.hid (HN6.out.fresh hf7 (fun i e => by have e : i = w5.heap.size := e; have := HF5.out.size; omega))
             have HS7 := Lib.hid hb7
             clear hf7 hb7)
          | ((with_reducible refine at_load4 29 ?_); refine wpList_load_blk 29 _ w5.heap.size 0 29 (stateC ⟨0, if (0 : Int) = 1 then save else 0, []⟩) (stateC ⟨0, if (0 : Int) = 1 then save else 0, []⟩) _ (by rfl) rfl rfl HS7.out Tryd.underlying29 rfl (infoDs _) (zero_part _) ?_)
          | ((with_reducible refine at_eql 29 ?_); refine wpList_eql (t := 29) (cs := stateC ⟨0, if (0 : Int) = 1 then save else 0, []⟩) (ds := stateC ⟨0, if (0 : Int) = 1 then save else 0, []⟩) (b := true) (by rfl) rfl rfl rfl (guard_state _ _ _ _) (eql_state ⟨0, if (0 : Int) = 1 then save else 0, []⟩) ?_))
        refine (HAl.out W7 HF7.out).mono ?_
        rintro e w10 ⟨rfl, hf10⟩
        have HF10 := Lib.hid (ff4 HF7.out hf10)
        clear hf10
        go_wp2_with fail
        go_ret
        exact ⟨rfl, HF10.out⟩
    · have HE := HSK.out.symm.trans (pl_bad hb)
      injection HE with e1 e2
      subst e1 e2
      have h5 : off < -86400 ∨ (-86400 ≤ off ∧ 86400 < off) := by
        unfold within at hb
        have : ¬ (-86400 ≤ off ∧ off ≤ 86400) := fun c => hb ⟨c, fun h => absurd h (by decide)⟩
        omega
      clear hb
      rcases h5 with b1 | ⟨b1, b2⟩
      all_goals
        go_enter Tryd.func4, Tryd.ntmps4
        go_wp2_with fail
        refine HN.out.mono ?_
        rintro e w5 ⟨rfl, hf5⟩
        have HF5 := Lib.hid (ff4 HF4.out hf5)
        have n6 := Fr.new w5 (.cells (stateC st0) 29) (fun _ => False)
        have HN6 := Lib.hid (ff4 HF5.out n6)
        have HS6 := Lib.hid (Blk.made w5 29 (stateC st0))
        clear hf5 n6
        go_wp2_with (first
          | ((with_reducible refine at_store4 29 ?_); refine wpList_store_blk 29 _ _ w5.heap.size 0 29 (stateC st0) (stateC st0) (stateC st0) (by rfl) rfl rfl rfl rfl HS6.out (infoDs _) (stateC_one _) (show 0 + 3 ≤ 3 by decide) (put_st _ _) ?_
             intro W7 hf7 hb7
             have HF7 := Lib.hid (HN6.out.fresh hf7 (fun i e => by have e : i = w5.heap.size := e; have := HF5.out.size; omega))
             have HS7 := Lib.hid hb7
             clear hf7 hb7)
          | ((with_reducible refine at_load4 29 ?_); refine wpList_load_blk 29 _ w5.heap.size 0 29 (stateC st0) (stateC st0) _ (by rfl) rfl rfl HS7.out Tryd.underlying29 rfl (infoDs _) (zero_part _) ?_)
          | ((with_reducible refine at_eql 29 ?_); refine wpList_eql (t := 29) (cs := stateC st0) (ds := stateC st0) (b := true) (by rfl) rfl rfl rfl (guard_state _ _ _ _) (eql_state st0) ?_))
        refine (HAl.out W7 HF7.out).mono ?_
        rintro e w10 ⟨rfl, hf10⟩
        have HF10 := Lib.hid (ff4 HF7.out hf10)
        clear hf10
        go_wp2_with fail
        go_ret
        exact ⟨rfl, HF10.out⟩
  | true =>
    obtain ⟨hv, hf⟩ := plV_at w off save 1
    have HF4 := Lib.hid hf
    have HN := Lib.hid (nAt_any (plV w.heap.size off save 1) t (plW4 w off save 1) (hw.fr hf) hv (pl_R ho hs (by decide)) (pl_L _ _ _ _) ht)
    have HD := Lib.hid (fun (s : StateD) (k : Int) (h : atD (znD (plV w.heap.size off save 1)) t = (s, k)) => h)
    obtain ⟨s, k, hsk⟩ : ∃ s k, atD (znD (plV w.heap.size off save 1)) t = (s, k) := ⟨_, _, rfl⟩
    rw [hsk] at HN
    have HSK := Lib.hid hsk
    clear hv hf hw HD hsk
    by_cases hb : within off 86400 ∧ ((1 : Int) = 1 → within save 86400)
    · obtain ⟨⟨o1, o2⟩, o3⟩ := hb
      have HB := Lib.hid (show within off 86400 ∧ ((1 : Int) = 1 → within save 86400) from ⟨⟨o1, o2⟩, o3⟩)
      obtain ⟨v1, v2⟩ := o3 rfl
      clear o3
      cases hr : reachY t with
      | none =>
        have HE := HSK.out.symm.trans (pl_far HB.out (by decide) hr)
        injection HE with e1 e2
        subst e1 e2
        clear hr
        go_enter Tryd.func4, Tryd.ntmps4
        go_wp2_with fail
        refine HN.out.mono ?_
        rintro e w5 ⟨rfl, hf5⟩
        have HF5 := Lib.hid (ff4 HF4.out hf5)
        have n6 := Fr.new w5 (.cells (stateC st0) 29) (fun _ => False)
        have HN6 := Lib.hid (ff4 HF5.out n6)
        have HS6 := Lib.hid (Blk.made w5 29 (stateC st0))
        clear hf5 n6
        go_wp2_with (first
          | ((with_reducible refine at_store4 29 ?_); refine wpList_store_blk 29 _ _ w5.heap.size 0 29 (stateC st0) (stateC st0) (stateC st0) (by rfl) rfl rfl rfl rfl HS6.out (infoDs _) (stateC_one _) (show 0 + 3 ≤ 3 by decide) (put_st _ _) ?_
             intro W7 hf7 hb7
             have HF7 := Lib.hid (HN6.out.fresh hf7 (fun i e => by have e : i = w5.heap.size := e; have := HF5.out.size; omega))
             have HS7 := Lib.hid hb7
             clear hf7 hb7)
          | ((with_reducible refine at_load4 29 ?_); refine wpList_load_blk 29 _ w5.heap.size 0 29 (stateC st0) (stateC st0) _ (by rfl) rfl rfl HS7.out Tryd.underlying29 rfl (infoDs _) (zero_part _) ?_)
          | ((with_reducible refine at_eql 29 ?_); refine wpList_eql (t := 29) (cs := stateC st0) (ds := stateC st0) (b := true) (by rfl) rfl rfl rfl (guard_state _ _ _ _) (eql_state st0) ?_))
        refine (HAl.out W7 HF7.out).mono ?_
        rintro e w10 ⟨rfl, hf10⟩
        have HF10 := Lib.hid (ff4 HF7.out hf10)
        clear hf10
        go_wp2_with fail
        go_ret
        exact ⟨rfl, HF10.out⟩
      | some y =>
        have HE := HSK.out.symm.trans (pl_in HB.out (by decide) hr)
        injection HE with e1 e2
        subst e1 e2
        clear hr
        go_enter Tryd.func4, Tryd.ntmps4
        go_wp2_with fail
        refine HN.out.mono ?_
        rintro e w5 ⟨rfl, hf5⟩
        have HF5 := Lib.hid (ff4 HF4.out hf5)
        have n6 := Fr.new w5 (.cells (stateC st0) 29) (fun _ => False)
        have HN6 := Lib.hid (ff4 HF5.out n6)
        have HS6 := Lib.hid (Blk.made w5 29 (stateC st0))
        clear hf5 n6
        go_wp2_with (first
          | ((with_reducible refine at_store4 29 ?_); refine wpList_store_blk 29 _ _ w5.heap.size 0 29 (stateC st0) (stateC ⟨0, if (1 : Int) = 1 then save else 0, []⟩) (stateC ⟨0, if (1 : Int) = 1 then save else 0, []⟩) (by rfl) rfl rfl rfl rfl HS6.out (infoDs _) (stateC_one _) (show 0 + 3 ≤ 3 by decide) (put_st _ _) ?_
             intro W7 hf7 hb7
             have HF7 := Lib.hid (HN6.out.fresh hf7 (fun i e => by have e : i = w5.heap.size := e; have := HF5.out.size; omega))
             have HS7 := Lib.hid hb7
             clear hf7 hb7)
          | ((with_reducible refine at_load4 29 ?_); refine wpList_load_blk 29 _ w5.heap.size 0 29 (stateC ⟨0, if (1 : Int) = 1 then save else 0, []⟩) (stateC ⟨0, if (1 : Int) = 1 then save else 0, []⟩) _ (by rfl) rfl rfl HS7.out Tryd.underlying29 rfl (infoDs _) (zero_part _) ?_)
          | ((with_reducible refine at_eql 29 ?_); refine wpList_eql (t := 29) (cs := stateC ⟨0, if (1 : Int) = 1 then save else 0, []⟩) (ds := stateC ⟨0, if (1 : Int) = 1 then save else 0, []⟩) (b := true) (by rfl) rfl rfl rfl (guard_state _ _ _ _) (eql_state ⟨0, if (1 : Int) = 1 then save else 0, []⟩) ?_))
        refine (HAl.out W7 HF7.out).mono ?_
        rintro e w10 ⟨rfl, hf10⟩
        have HF10 := Lib.hid (ff4 HF7.out hf10)
        clear hf10
        go_wp2_with fail
        go_ret
        exact ⟨rfl, HF10.out⟩
    · have HE := HSK.out.symm.trans (pl_bad hb)
      injection HE with e1 e2
      subst e1 e2
      have h5 : off < -86400 ∨ (-86400 ≤ off ∧ (86400 < off ∨ (off ≤ 86400 ∧ (save < -86400 ∨ (-86400 ≤ save ∧ 86400 < save))))) := by
        unfold within at hb
        have : ¬ (-86400 ≤ off ∧ off ≤ 86400 ∧ -86400 ≤ save ∧ save ≤ 86400) := fun c => hb ⟨⟨c.1, c.2.1⟩, fun _ => ⟨c.2.2.1, c.2.2.2⟩⟩
        omega
      clear hb
      rcases h5 with b1 | ⟨b1, b2 | ⟨b2, b3 | ⟨b3, b4⟩⟩⟩
      all_goals
        go_enter Tryd.func4, Tryd.ntmps4
        go_wp2_with fail
        refine HN.out.mono ?_
        rintro e w5 ⟨rfl, hf5⟩
        have HF5 := Lib.hid (ff4 HF4.out hf5)
        have n6 := Fr.new w5 (.cells (stateC st0) 29) (fun _ => False)
        have HN6 := Lib.hid (ff4 HF5.out n6)
        have HS6 := Lib.hid (Blk.made w5 29 (stateC st0))
        clear hf5 n6
        go_wp2_with (first
          | ((with_reducible refine at_store4 29 ?_); refine wpList_store_blk 29 _ _ w5.heap.size 0 29 (stateC st0) (stateC st0) (stateC st0) (by rfl) rfl rfl rfl rfl HS6.out (infoDs _) (stateC_one _) (show 0 + 3 ≤ 3 by decide) (put_st _ _) ?_
             intro W7 hf7 hb7
             have HF7 := Lib.hid (HN6.out.fresh hf7 (fun i e => by have e : i = w5.heap.size := e; have := HF5.out.size; omega))
             have HS7 := Lib.hid hb7
             clear hf7 hb7)
          | ((with_reducible refine at_load4 29 ?_); refine wpList_load_blk 29 _ w5.heap.size 0 29 (stateC st0) (stateC st0) _ (by rfl) rfl rfl HS7.out Tryd.underlying29 rfl (infoDs _) (zero_part _) ?_)
          | ((with_reducible refine at_eql 29 ?_); refine wpList_eql (t := 29) (cs := stateC st0) (ds := stateC st0) (b := true) (by rfl) rfl rfl rfl (guard_state _ _ _ _) (eql_state st0) ?_))
        refine (HAl.out W7 HF7.out).mono ?_
        rintro e w10 ⟨rfl, hf10⟩
        have HF10 := Lib.hid (ff4 HF7.out hf10)
        clear hf10
        go_wp2_with fail
        go_ret
        exact ⟨rfl, HF10.out⟩
end Go.Proofs.YtpjmmnhmhjpkkaaDoor
