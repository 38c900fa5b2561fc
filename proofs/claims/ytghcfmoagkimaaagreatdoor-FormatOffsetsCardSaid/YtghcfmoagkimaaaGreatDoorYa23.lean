import Derived.Test.YtghcfmoagkimaaaGreatDoorYa22
namespace Go.Proofs.YtghcfmoagkimaaaGreatDoor
open Go.RowKit Go.Mem Go.Lin Go.Xpd Go.Den

theorem win_yes {n m : Int} (h : within n m) (hm : 0 ≤ m ∧ m ≤ 1000000) (w : World) : Calls Tryz.prog 43 #[intV n, intV m] w fun e w' => e = .returned (.bool true) ∧ w' = w := by
  have := zwithin_any n m w hm
  rwa [decide_eq_true h] at this
theorem win_no {n m : Int} (h : ¬ within n m) (hm : 0 ≤ m ∧ m ≤ 1000000) (w : World) : Calls Tryz.prog 43 #[intV n, intV m] w fun e w' => e = .returned (.bool false) ∧ w' = w := by
  have := zwithin_any n m w hm
  rwa [decide_eq_false h] at this
def RgA (v : ZnV) (W1 : World) (g : Nat) (v4 : Value) (wr : World) : Prop := ∃ i : Nat, v4 = intV i ∧ i + g = v.eras.length ∧ ErasOk v i ∧ Fr W1 wr (fun _ => False)
def RgB (x : RuV) (W4 : World) (g : Nat) (v6 : Value) (wr : World) : Prop := ∃ m : Nat, v6 = intV m ∧ m + g = x.l.length ∧ (∀ (k : Nat) (r : RuleL), k < m → x.l[k]? = some r → Go.Den.ruleOk r) ∧ Fr W4 wr (fun _ => False)
def RgC (v : ZnV) (W1 : World) (g : Nat) (v10 : Value) (wr : World) : Prop := ∃ i : Nat, v10 = intV i ∧ i + g = v.eras.length ∧ OpensOk v i ∧ Fr W1 wr (fun _ => False)
def RgD (v : ZnV) (W1 : World) (g : Nat) (v11 : Value) (wr : World) : Prop := ∃ i : Nat, v11 = intV (i + 1) ∧ i + 1 + g = v.eras.length ∧ (∀ j, j < i → endD (znD v) j < endD (znD v) (j + 1)) ∧ Fr W1 wr (fun _ => False)
set_option maxHeartbeats 12800000 in
set_option maxRecDepth 100000 in
theorem zRight_any (v : ZnV) (w : World) (hv : ZnAt w v) (hL : LightZ v) : Calls Tryz.prog 26 #[.agg (zoneC v)] w fun e w' => e = .returned (intV (rightD (znD v))) ∧ Fr w w' (fun _ => False) := by
  have HF1 := Lib.hid (Fr.new w (.cells (zoneC v) 25) (fun _ => False))
  have HB1 := Lib.hid (Blk.made w 25 (zoneC v))
  have c0 : (w.alloc (.cells (zoneC v) 25)).cell? ⟨w.heap.size, 0, none⟩ = some (.slice v.Ae v.eras.length v.ce) := blkc HB1.out 0 _ rfl
  have c1 : (w.alloc (.cells (zoneC v) 25)).cell? ⟨w.heap.size, 1, none⟩ = some (.slice v.Ar v.Z.length v.cr) := blkc HB1.out 1 _ rfl
  have HV := Lib.hid (hv.kept HF1.out)
  have HV0 := Lib.hid hv
  have HLz := Lib.hid hL
  obtain ⟨hL1, hL2, -, -⟩ := hL
  clear hv
  by_cases hlen : LenOk v
  · obtain ⟨l1, l2, l3⟩ := hlen
    have HLe := Lib.hid (show LenOk v from ⟨l1, l2, l3⟩)
    have q1 : ¬ (v.eras.length : Int) < 1 := by omega
    have q2 : (v.eras.length : Int) ≤ 8 := by omega
    have q3 : ((v.Z.length : Int) == (v.eras.length : Int)) = true := by rw [beq_iff_eq]; omega
    have q4 : ((v.Z.length : Int) != (v.eras.length : Int)) = false := by rw [bne_eq_false_iff_eq]; omega
    go_enter Tryz.func26, Tryz.ntmps26
    go_wp2_with fail
    generalize w.alloc (.cells (zoneC v) 25) = W1 at *
    clear q1 q2 q3 q4
    obtain ⟨e0, he0⟩ : ∃ e, v.eras[0]? = some e := ⟨v.eras[0], List.getElem?_eq_getElem (by omega)⟩
    obtain ⟨x0, hx0⟩ : ∃ x, v.Z[0]? = some x := ⟨v.Z[0], List.getElem?_eq_getElem (by omega)⟩
    obtain ⟨b, off, hA, -⟩ := HV.out.e.at_ he0
    obtain ⟨b5, o5, hA5, -, -⟩ := HV.out.r.at_ hx0
    rw [hA] at c0
    rw [hA5] at c1
    have HC0 := Lib.hid c0
    have HC1 := Lib.hid c1
    have HA := Lib.hid hA
    have HA5 := Lib.hid hA5
    clear c0 c1 he0 hx0 hA hA5
    go_loopg [4, 5, 6, 7, 8, 9] v.eras.length (fun g v4 _ _ _ _ _ wr => RgA v W1 g v4 wr)
    case atStart => exact ⟨0, rfl, by simp, (fun j e x hj => absurd hj (Nat.not_lt_zero j)), Fr.refl _ _⟩
    case round =>
      obtain ⟨i, rfl, hig, hok, hf⟩ := hrel
      have HF := Lib.hid hf
      have HOk := Lib.hid hok
      by_cases hlt : i < v.eras.length
      · obtain ⟨e, he⟩ : ∃ e, v.eras[i]? = some e := ⟨v.eras[i], List.getElem?_eq_getElem hlt⟩
        obtain ⟨x, hx⟩ : ∃ x, v.Z[i]? = some x := ⟨v.Z[i], List.getElem?_eq_getElem (by omega)⟩
        obtain ⟨b2, off2, hA2, hc⟩ := (HV.out.kept hf).e.at_ he
        obtain ⟨b3, o3, hA3, hc5, hr5⟩ := (HV.out.kept hf).r.at_ hx
        rw [HA.out] at hA2
        rw [HA5.out] at hA3
        cases hA2
        cases hA3
        have HCx := Lib.hid hc
        have HC5 := Lib.hid hc5
        have HR5 := Lib.hid hr5
        have HE := Lib.hid he
        have HX := Lib.hid hx
        have hxl := (HLz.out.2.2.1 x (List.mem_of_getElem? hx)).1
        have hoe := HLz.out.2.2.2 e (List.mem_of_getElem? he)
        have HOe := Lib.hid hoe
        have i0 : (i : Int) < (v.eras.length : Int) := by omega
        have z0 : (i : Int) < (v.Z.length : Int) := by omega
        have n2 := Fr.new wr (.cells (eraC eraZ) 48) (fun _ => False)
        have HF2 := Lib.hid n2
        have HBz := Lib.hid (Blk.made wr 48 (eraC eraZ))
        have y0 : wr.cell? ⟨w.heap.size, 0, none⟩ = some (.slice (some ⟨b, off, none⟩) v.eras.length v.ce) := cell_far hf HC0.out (fun h => h)
        clear hc hc5 hr5 he hx hoe n2 hok hf
        have HBd := Lib.hid (fun (h : ¬ eraOk e x.l) => right_bad HLe.out HE.out HX.out h)
        by_cases k1 : within e.off 86400
        · have HW1 := Lib.hid (fun W => win_yes k1 (by decide) W)
          have HK1 := Lib.hid k1
          clear k1
          by_cases k2 : e.kind < 0
          · have HN := Lib.hid (HBd.out (fun h => by have := h.2.1; omega))
            go_wp2_with (first
              | ((with_reducible refine at_load4 48 ?_); refine wpList_load_at 48 _ b (off + i * 13) (eraC e) _ (by rfl) rfl rfl HCx.out Tryz.underlying48 rfl (infoE _) ?_)
              | ((with_reducible refine at_store4 48 ?_); refine wpList_store_blk 48 _ _ wr.heap.size 0 48 (eraC eraZ) (eraC e) (eraC e) (by rfl) rfl rfl rfl rfl HBz.out (infoE _) (eraC_one _) (show 0 + 13 ≤ 13 by decide) (put_er _ _) ?_
                 intro W4 hf4 hb4
                 have hn4 := HF2.out.fresh hf4 (fun i e => by have e : i = wr.heap.size := e; omega)
                 have HF4 := Lib.hid (ff4 HF.out hn4)
                 have HE4 := Lib.hid hb4
                 have HC4 := Lib.hid (show W4.cell? ⟨b5, o5 + i, none⟩ = some (.slice x.A x.l.length x.c) from cell_far hn4 HC5.out (fun h => h))
                 have HR4 := Lib.hid (HR5.out.kept hn4)
                 have d0 : W4.cell? ⟨wr.heap.size, 0, none⟩ = some (.int .i64 e.off) := blkc hb4 0 _ rfl
                 have d1 : W4.cell? ⟨wr.heap.size, 1, none⟩ = some (.int .i64 e.kind) := blkc hb4 1 _ rfl
                 have d2 : W4.cell? ⟨wr.heap.size, 2, none⟩ = some (.int .i64 e.save) := blkc hb4 2 _ rfl
                 have g1 : W4.cell? ⟨w.heap.size, 1, none⟩ = some (.slice (some ⟨b5, o5, none⟩) v.Z.length v.cr) := cell_far HF4.out HC1.out (fun h => h)
                 have g5 := HC4.out
                 clear hf4 hb4 hn4 y0))
            refine (HW1.out W4).mono ?_
            rintro _ W4 ⟨rfl, rfl⟩
            go_wp2_with fail
            go_ret
            exact ⟨by rw [HN.out]; rfl, ff4 HF1.out HF4.out⟩
          · have k2 : 0 ≤ e.kind := by omega
            by_cases k3 : 2 < e.kind
            · have HN := Lib.hid (HBd.out (fun h => by have := h.2.2.1; omega))
              go_wp2_with (first
                | ((with_reducible refine at_load4 48 ?_); refine wpList_load_at 48 _ b (off + i * 13) (eraC e) _ (by rfl) rfl rfl HCx.out Tryz.underlying48 rfl (infoE _) ?_)
                | ((with_reducible refine at_store4 48 ?_); refine wpList_store_blk 48 _ _ wr.heap.size 0 48 (eraC eraZ) (eraC e) (eraC e) (by rfl) rfl rfl rfl rfl HBz.out (infoE _) (eraC_one _) (show 0 + 13 ≤ 13 by decide) (put_er _ _) ?_
                   intro W4 hf4 hb4
                   have hn4 := HF2.out.fresh hf4 (fun i e => by have e : i = wr.heap.size := e; omega)
                   have HF4 := Lib.hid (ff4 HF.out hn4)
                   have HE4 := Lib.hid hb4
                   have HC4 := Lib.hid (show W4.cell? ⟨b5, o5 + i, none⟩ = some (.slice x.A x.l.length x.c) from cell_far hn4 HC5.out (fun h => h))
                   have HR4 := Lib.hid (HR5.out.kept hn4)
                   have d0 : W4.cell? ⟨wr.heap.size, 0, none⟩ = some (.int .i64 e.off) := blkc hb4 0 _ rfl
                   have d1 : W4.cell? ⟨wr.heap.size, 1, none⟩ = some (.int .i64 e.kind) := blkc hb4 1 _ rfl
                   have d2 : W4.cell? ⟨wr.heap.size, 2, none⟩ = some (.int .i64 e.save) := blkc hb4 2 _ rfl
                   have g1 : W4.cell? ⟨w.heap.size, 1, none⟩ = some (.slice (some ⟨b5, o5, none⟩) v.Z.length v.cr) := cell_far HF4.out HC1.out (fun h => h)
                   have g5 := HC4.out
                   clear hf4 hb4 hn4 y0))
              refine (HW1.out W4).mono ?_
              rintro _ W4 ⟨rfl, rfl⟩
              go_wp2_with fail
              go_ret
              exact ⟨by rw [HN.out]; rfl, ff4 HF1.out HF4.out⟩
            · have k3 : e.kind ≤ 2 := by omega
              by_cases k4 : e.kind = 1
              · by_cases k5 : within e.save 86400
                · have HW2 := Lib.hid (fun W => win_yes k5 (by decide) W)
                  have HK := Lib.hid (show within e.off 86400 ∧ 0 ≤ e.kind ∧ e.kind ≤ 2 ∧ (e.kind = 1 → within e.save 86400) from ⟨HK1.out, k2, k3, fun _ => k5⟩)
                  have HKe := Lib.hid k4
                  clear k2 k3 k4 k5
                  go_wp2_with (first
                    | ((with_reducible refine at_load4 48 ?_); refine wpList_load_at 48 _ b (off + i * 13) (eraC e) _ (by rfl) rfl rfl HCx.out Tryz.underlying48 rfl (infoE _) ?_)
                    | ((with_reducible refine at_store4 48 ?_); refine wpList_store_blk 48 _ _ wr.heap.size 0 48 (eraC eraZ) (eraC e) (eraC e) (by rfl) rfl rfl rfl rfl HBz.out (infoE _) (eraC_one _) (show 0 + 13 ≤ 13 by decide) (put_er _ _) ?_
                       intro W4 hf4 hb4
                       have hn4 := HF2.out.fresh hf4 (fun i e => by have e : i = wr.heap.size := e; omega)
                       have HF4 := Lib.hid (ff4 HF.out hn4)
                       have HE4 := Lib.hid hb4
                       have HC4 := Lib.hid (show W4.cell? ⟨b5, o5 + i, none⟩ = some (.slice x.A x.l.length x.c) from cell_far hn4 HC5.out (fun h => h))
                       have HR4 := Lib.hid (HR5.out.kept hn4)
                       have d0 : W4.cell? ⟨wr.heap.size, 0, none⟩ = some (.int .i64 e.off) := blkc hb4 0 _ rfl
                       have d1 : W4.cell? ⟨wr.heap.size, 1, none⟩ = some (.int .i64 1) := by rw [← HKe.out]; exact blkc hb4 1 _ rfl
                       have d2 : W4.cell? ⟨wr.heap.size, 2, none⟩ = some (.int .i64 e.save) := blkc hb4 2 _ rfl
                       have g1 : W4.cell? ⟨w.heap.size, 1, none⟩ = some (.slice (some ⟨b5, o5, none⟩) v.Z.length v.cr) := cell_far HF4.out HC1.out (fun h => h)
                       have g5 := HC4.out
                       clear hf4 hb4 hn4 y0))
                  have h24 : (x.l.length : Int) ≤ 24 := by omega
                  have h25 : decide ((24 : Int) < (x.l.length : Int)) = false := decide_eq_false (by omega)
                  refine (HW1.out W4).mono ?_
                  rintro _ W4 ⟨rfl, rfl⟩
                  go_wp2_with fail
                  refine (HW2.out W4).mono ?_
                  rintro _ W4 ⟨rfl, rfl⟩
                  go_wp2_with fail
                  have HZl := Lib.hid hxl
                  clear h24 h25 hxl d0 d1 d2 g1 g5
                  obtain ⟨g4, hg4⟩ : ∃ g, wr.heap.size = g := ⟨_, rfl⟩
                  rw [hg4] at HE4 ⊢
                  clear hg4
                  go_loopg [6, 7] x.l.length (fun g v6 _ wr2 => RgB x W4 g v6 wr2)
                  case atStart => exact ⟨0, rfl, by simp, (fun k r hk => absurd hk (Nat.not_lt_zero k)), Fr.refl _ _⟩
                  case round =>
                    obtain ⟨m, rfl, hmg, hrs, hf⟩ := hrel
                    have HFm := Lib.hid hf
                    have HRs := Lib.hid hrs
                    have HFw := Lib.hid (ff4 HF4.out hf)
                    have g1 : wr.cell? ⟨w.heap.size, 1, none⟩ = some (.slice (some ⟨b5, o5, none⟩) v.Z.length v.cr) := cell_far HFw.out HC1.out (fun h => h)
                    have g5 : wr.cell? ⟨b5, o5 + i, none⟩ = some (.slice x.A x.l.length x.c) := cell_far hf HC4.out (fun h => h)
                    by_cases hml : m < x.l.length
                    · obtain ⟨r, hri⟩ : ∃ r, x.l[m]? = some r := ⟨x.l[m], List.getElem?_eq_getElem hml⟩
                      obtain ⟨b6, o6, hA6, hc6⟩ := (HR4.out.kept hf).at_ hri
                      rw [hA6] at g5
                      clear hA6
                      have m0 : (m : Int) < (x.l.length : Int) := by omega
                      have hmb : m ≤ 6 := by have := HZl.out; omega
                      have HC6 := Lib.hid hc6
                      have n5 := Fr.new wr (.cells (ruleC ruleZ) 72) (fun _ => False)
                      have HF5 := Lib.hid n5
                      have HB5 := Lib.hid (Blk.made wr 72 (ruleC ruleZ))
                      have HSt := Lib.hid (show Go.Den.ruleOk r → ∀ (k : Nat) (r' : RuleL), k < m + 1 → x.l[k]? = some r' → Go.Den.ruleOk r' from fun ho k r' hk h1 => by
                        by_cases c : k = m
                        · subst c; rw [hri] at h1; cases h1; exact ho
                        · exact hrs k r' (by omega) h1)
                      have HNo := Lib.hid (show ¬ Go.Den.ruleOk r → rightD (znD v) = 1 from fun hno => HBd.out (fun h => hno (h.2.2.2.2.2.1 r (List.mem_of_getElem? hri))))
                      clear hc6 n5 hrs hri hf
                      by_cases t1 : within r.save 86400
                      · have HT1 := Lib.hid (fun W => win_yes t1 (by decide) W)
                        by_cases t2 : within r.at_.s 604799
                        · have HT2 := Lib.hid (fun W => win_yes t2 (by decide) W)
                          by_cases t3 : r.at_.k < 0
                          · have HN := Lib.hid (HNo.out (fun h => by have := h.2.2.1; omega))
                            clear t1 t2
                            go_wp2_with (first
                              | ((with_reducible refine at_load4 72 ?_); refine wpList_load_at 72 _ b6 (o6 + m * 11) (ruleC r) _ (by rfl) rfl rfl HC6.out Tryz.underlying72 rfl (infoR _) ?_)
                              | ((with_reducible refine at_store4 72 ?_); refine wpList_store_blk 72 _ _ wr.heap.size 0 72 (ruleC ruleZ) (ruleC r) (ruleC r) (by rfl) rfl rfl rfl rfl HB5.out (infoR _) (ruleC_one _) (show 0 + 11 ≤ 11 by decide) (put_ra _ _) ?_
                                 intro W6 hf6 hb6
                                 have HF6 := Lib.hid (HF5.out.fresh hf6 (fun i e => by have e : i = wr.heap.size := e; omega))
                                 have r7 : W6.cell? ⟨wr.heap.size, 7, none⟩ = some (.int .i64 r.at_.s) := blkc hb6 7 _ rfl
                                 have r8 : W6.cell? ⟨wr.heap.size, 8, none⟩ = some (.int .i64 r.at_.k) := blkc hb6 8 _ rfl
                                 have r9 : W6.cell? ⟨wr.heap.size, 9, none⟩ = some (.int .i64 r.save) := blkc hb6 9 _ rfl
                                 clear hf6 hb6 g1 g5))
                            refine (HT1.out W6).mono ?_
                            rintro _ W6 ⟨rfl, rfl⟩
                            go_wp2_with fail
                            refine (HT2.out W6).mono ?_
                            rintro _ W6 ⟨rfl, rfl⟩
                            go_wp2_with fail
                            go_ret
                            exact ⟨by rw [HN.out]; rfl, ff4 HF1.out (ff4 HFw.out HF6.out)⟩
                          · have t3 : 0 ≤ r.at_.k := by omega
                            by_cases t4 : 2 < r.at_.k
                            · have HN := Lib.hid (HNo.out (fun h => by have := h.2.2.2; omega))
                              clear t1 t2
                              go_wp2_with (first
                                | ((with_reducible refine at_load4 72 ?_); refine wpList_load_at 72 _ b6 (o6 + m * 11) (ruleC r) _ (by rfl) rfl rfl HC6.out Tryz.underlying72 rfl (infoR _) ?_)
                                | ((with_reducible refine at_store4 72 ?_); refine wpList_store_blk 72 _ _ wr.heap.size 0 72 (ruleC ruleZ) (ruleC r) (ruleC r) (by rfl) rfl rfl rfl rfl HB5.out (infoR _) (ruleC_one _) (show 0 + 11 ≤ 11 by decide) (put_ra _ _) ?_
                                   intro W6 hf6 hb6
                                   have HF6 := Lib.hid (HF5.out.fresh hf6 (fun i e => by have e : i = wr.heap.size := e; omega))
                                   have r7 : W6.cell? ⟨wr.heap.size, 7, none⟩ = some (.int .i64 r.at_.s) := blkc hb6 7 _ rfl
                                   have r8 : W6.cell? ⟨wr.heap.size, 8, none⟩ = some (.int .i64 r.at_.k) := blkc hb6 8 _ rfl
                                   have r9 : W6.cell? ⟨wr.heap.size, 9, none⟩ = some (.int .i64 r.save) := blkc hb6 9 _ rfl
                                   clear hf6 hb6 g1 g5))
                              refine (HT1.out W6).mono ?_
                              rintro _ W6 ⟨rfl, rfl⟩
                              go_wp2_with fail
                              refine (HT2.out W6).mono ?_
                              rintro _ W6 ⟨rfl, rfl⟩
                              go_wp2_with fail
                              go_ret
                              exact ⟨by rw [HN.out]; rfl, ff4 HF1.out (ff4 HFw.out HF6.out)⟩
                            · have t4 : r.at_.k ≤ 2 := by omega
                              have HOk1 := Lib.hid (HSt.out ⟨t1, t2, t3, t4⟩)
                              clear t1 t2
                              go_wp2_with (first
                                | ((with_reducible refine at_load4 72 ?_); refine wpList_load_at 72 _ b6 (o6 + m * 11) (ruleC r) _ (by rfl) rfl rfl HC6.out Tryz.underlying72 rfl (infoR _) ?_)
                                | ((with_reducible refine at_store4 72 ?_); refine wpList_store_blk 72 _ _ wr.heap.size 0 72 (ruleC ruleZ) (ruleC r) (ruleC r) (by rfl) rfl rfl rfl rfl HB5.out (infoR _) (ruleC_one _) (show 0 + 11 ≤ 11 by decide) (put_ra _ _) ?_
                                   intro W6 hf6 hb6
                                   have HF6 := Lib.hid (HF5.out.fresh hf6 (fun i e => by have e : i = wr.heap.size := e; omega))
                                   have r7 : W6.cell? ⟨wr.heap.size, 7, none⟩ = some (.int .i64 r.at_.s) := blkc hb6 7 _ rfl
                                   have r8 : W6.cell? ⟨wr.heap.size, 8, none⟩ = some (.int .i64 r.at_.k) := blkc hb6 8 _ rfl
                                   have r9 : W6.cell? ⟨wr.heap.size, 9, none⟩ = some (.int .i64 r.save) := blkc hb6 9 _ rfl
                                   clear hf6 hb6 g1 g5))
                              refine (HT1.out W6).mono ?_
                              rintro _ W6 ⟨rfl, rfl⟩
                              go_wp2_with fail
                              refine (HT2.out W6).mono ?_
                              rintro _ W6 ⟨rfl, rfl⟩
                              go_wp2_with fail
                              go_roundg (x.l.length - (m + 1))
                              case measure => omega
                              case rel => exact ⟨m + 1, by go_num, by omega, HOk1.out, ff4 HFm.out HF6.out⟩
                        · have HT2 := Lib.hid (fun W => win_no t2 (by decide) W)
                          have HN := Lib.hid (HNo.out (fun h => t2 h.2.1))
                          clear t1 t2
                          go_wp2_with (first
                            | ((with_reducible refine at_load4 72 ?_); refine wpList_load_at 72 _ b6 (o6 + m * 11) (ruleC r) _ (by rfl) rfl rfl HC6.out Tryz.underlying72 rfl (infoR _) ?_)
                            | ((with_reducible refine at_store4 72 ?_); refine wpList_store_blk 72 _ _ wr.heap.size 0 72 (ruleC ruleZ) (ruleC r) (ruleC r) (by rfl) rfl rfl rfl rfl HB5.out (infoR _) (ruleC_one _) (show 0 + 11 ≤ 11 by decide) (put_ra _ _) ?_
                               intro W6 hf6 hb6
                               have HF6 := Lib.hid (HF5.out.fresh hf6 (fun i e => by have e : i = wr.heap.size := e; omega))
                               have r7 : W6.cell? ⟨wr.heap.size, 7, none⟩ = some (.int .i64 r.at_.s) := blkc hb6 7 _ rfl
                               have r8 : W6.cell? ⟨wr.heap.size, 8, none⟩ = some (.int .i64 r.at_.k) := blkc hb6 8 _ rfl
                               have r9 : W6.cell? ⟨wr.heap.size, 9, none⟩ = some (.int .i64 r.save) := blkc hb6 9 _ rfl
                               clear hf6 hb6 g1 g5))
                          refine (HT1.out W6).mono ?_
                          rintro _ W6 ⟨rfl, rfl⟩
                          go_wp2_with fail
                          refine (HT2.out W6).mono ?_
                          rintro _ W6 ⟨rfl, rfl⟩
                          go_wp2_with fail
                          go_ret
                          exact ⟨by rw [HN.out]; rfl, ff4 HF1.out (ff4 HFw.out HF6.out)⟩
                      · have HT1 := Lib.hid (fun W => win_no t1 (by decide) W)
                        have HN := Lib.hid (HNo.out (fun h => t1 h.1))
                        clear t1
                        go_wp2_with (first
                          | ((with_reducible refine at_load4 72 ?_); refine wpList_load_at 72 _ b6 (o6 + m * 11) (ruleC r) _ (by rfl) rfl rfl HC6.out Tryz.underlying72 rfl (infoR _) ?_)
                          | ((with_reducible refine at_store4 72 ?_); refine wpList_store_blk 72 _ _ wr.heap.size 0 72 (ruleC ruleZ) (ruleC r) (ruleC r) (by rfl) rfl rfl rfl rfl HB5.out (infoR _) (ruleC_one _) (show 0 + 11 ≤ 11 by decide) (put_ra _ _) ?_
                             intro W6 hf6 hb6
                             have HF6 := Lib.hid (HF5.out.fresh hf6 (fun i e => by have e : i = wr.heap.size := e; omega))
                             have r7 : W6.cell? ⟨wr.heap.size, 7, none⟩ = some (.int .i64 r.at_.s) := blkc hb6 7 _ rfl
                             have r8 : W6.cell? ⟨wr.heap.size, 8, none⟩ = some (.int .i64 r.at_.k) := blkc hb6 8 _ rfl
                             have r9 : W6.cell? ⟨wr.heap.size, 9, none⟩ = some (.int .i64 r.save) := blkc hb6 9 _ rfl
                             clear hf6 hb6 g1 g5))
                        refine (HT1.out W6).mono ?_
                        rintro _ W6 ⟨rfl, rfl⟩
                        go_wp2_with fail
                        go_ret
                        exact ⟨by rw [HN.out]; rfl, ff4 HF1.out (ff4 HFw.out HF6.out)⟩
                    · obtain rfl : m = x.l.length := by omega
                      have HRa := Lib.hid (show ∀ r ∈ x.l, Go.Den.ruleOk r from fun r hr => by
                        obtain ⟨k, hk⟩ := List.mem_iff_getElem?.1 hr
                        exact hrs k r (List.getElem?_eq_some_iff.1 hk).1 hk)
                      have hE := hf.blk HE4.out (fun h => h)
                      have HEr := Lib.hid hE
                      have d5 : wr.cell? ⟨g4, 5, none⟩ = some (.bool e.til.has) := blkc hE 5 _ rfl
                      have HOkE := Lib.hid (show Go.Den.tilOk e.til → ErasOk v (i + 1) from fun ht => HOk.out.step HE.out HX.out ⟨HK.out.1, HK.out.2.1, HK.out.2.2.1, HK.out.2.2.2, by have := HZl.out; omega, HRa.out, ht⟩)
                      clear hrs hf hE
                      by_cases hh : e.til.has = true
                      · have HNo := Lib.hid (show ¬ ((clockD e.til).2 = true ∧ within e.til.at_.s 604799 ∧ 0 ≤ e.til.at_.k ∧ e.til.at_.k ≤ 2) → rightD (znD v) = 1 from fun hno => HBd.out (fun h => hno (h.2.2.2.2.2.2 hh)))
                        have HYes := Lib.hid (show ((clockD e.til).2 = true ∧ within e.til.at_.s 604799 ∧ 0 ≤ e.til.at_.k ∧ e.til.at_.k ≤ 2) → ErasOk v (i + 1) from fun h => HOkE.out (fun _ => h))
                        have HQ := Lib.hid (clock_any e.til wr ⟨HOe.out.2.2.2.2.1, HOe.out.2.2.2.2.2.1⟩)
                        rw [hh] at d5
                        clear hh
                        go_wp2_with (
                          ((with_reducible refine at_load4 46 ?_); refine wpList_load_blk 46 _ g4 5 48 (eraC e) (tilC e.til) _ (by rfl) rfl rfl HEr.out Tryz.underlying46 rfl (infoTl _) (part_til e) ?_))
                        refine HQ.out.mono ?_
                        rintro _ w5 ⟨c, ok, rfl, hok2, -, hf5⟩
                        have HF5 := Lib.hid (ff4 HFw.out hf5)
                        have hE5 := hf5.blk HEr.out (fun h => h)
                        have u11 : w5.cell? ⟨g4, 11, none⟩ = some (.int .i64 e.til.at_.s) := blkc hE5 11 _ rfl
                        have u12 : w5.cell? ⟨g4, 12, none⟩ = some (.int .i64 e.til.at_.k) := blkc hE5 12 _ rfl
                        clear hf5 hE5 d5
                        cases ok with
                        | false =>
                          have HN := Lib.hid (HNo.out (fun h => by rw [← hok2] at h; exact absurd h.1 (by decide)))
                          clear hok2
                          go_wp2_with fail
                          go_ret
                          exact ⟨by rw [HN.out]; rfl, ff4 HF1.out HF5.out⟩
                        | true =>
                          by_cases t2 : within e.til.at_.s 604799
                          · have HT2 := Lib.hid (win_yes t2 (by decide) w5)
                            by_cases t3 : e.til.at_.k < 0
                            · have HN := Lib.hid (HNo.out (fun h => by have := h.2.2.1; omega))
                              clear t2 hok2
                              go_wp2_with fail
                              refine HT2.out.mono ?_
                              rintro _ _ ⟨rfl, rfl⟩
                              go_wp2_with fail
                              go_ret
                              exact ⟨by rw [HN.out]; rfl, ff4 HF1.out HF5.out⟩
                            · have t3 : 0 ≤ e.til.at_.k := by omega
                              by_cases t4 : 2 < e.til.at_.k
                              · have HN := Lib.hid (HNo.out (fun h => by have := h.2.2.2; omega))
                                clear t2 hok2
                                go_wp2_with fail
                                refine HT2.out.mono ?_
                                rintro _ _ ⟨rfl, rfl⟩
                                go_wp2_with fail
                                go_ret
                                exact ⟨by rw [HN.out]; rfl, ff4 HF1.out HF5.out⟩
                              · have t4 : e.til.at_.k ≤ 2 := by omega
                                have HY := Lib.hid (HYes.out ⟨hok2.symm, t2, t3, t4⟩)
                                clear t2 hok2
                                go_wp2_with fail
                                refine HT2.out.mono ?_
                                rintro _ _ ⟨rfl, rfl⟩
                                go_wp2_with fail
                                go_roundg (v.eras.length - (i + 1))
                                case measure => omega
                                case rel => exact ⟨i + 1, by go_num, by omega, HY.out, HF5.out⟩
                          · have HT2 := Lib.hid (win_no t2 (by decide) w5)
                            have HN := Lib.hid (HNo.out (fun h => t2 h.2.1))
                            clear t2 hok2
                            go_wp2_with fail
                            refine HT2.out.mono ?_
                            rintro _ _ ⟨rfl, rfl⟩
                            go_wp2_with fail
                            go_ret
                            exact ⟨by rw [HN.out]; rfl, ff4 HF1.out HF5.out⟩
                      · have hh : e.til.has = false := by simpa using hh
                        have HY := Lib.hid (HOkE.out (fun h => by rw [hh] at h; cases h))
                        rw [hh] at d5
                        clear hh
                        go_wp2_with fail
                        go_roundg (v.eras.length - (i + 1))
                        case measure => omega
                        case rel => exact ⟨i + 1, by go_num, by omega, HY.out, HFw.out⟩
                · have HW2 := Lib.hid (fun W => win_no k5 (by decide) W)
                  have HN := Lib.hid (HBd.out (fun h => k5 (h.2.2.2.1 k4)))
                  have HKe := Lib.hid k4
                  clear k2 k3 k4 k5
                  go_wp2_with (first
                    | ((with_reducible refine at_load4 48 ?_); refine wpList_load_at 48 _ b (off + i * 13) (eraC e) _ (by rfl) rfl rfl HCx.out Tryz.underlying48 rfl (infoE _) ?_)
                    | ((with_reducible refine at_store4 48 ?_); refine wpList_store_blk 48 _ _ wr.heap.size 0 48 (eraC eraZ) (eraC e) (eraC e) (by rfl) rfl rfl rfl rfl HBz.out (infoE _) (eraC_one _) (show 0 + 13 ≤ 13 by decide) (put_er _ _) ?_
                       intro W4 hf4 hb4
                       have hn4 := HF2.out.fresh hf4 (fun i e => by have e : i = wr.heap.size := e; omega)
                       have HF4 := Lib.hid (ff4 HF.out hn4)
                       have HE4 := Lib.hid hb4
                       have HC4 := Lib.hid (show W4.cell? ⟨b5, o5 + i, none⟩ = some (.slice x.A x.l.length x.c) from cell_far hn4 HC5.out (fun h => h))
                       have HR4 := Lib.hid (HR5.out.kept hn4)
                       have d0 : W4.cell? ⟨wr.heap.size, 0, none⟩ = some (.int .i64 e.off) := blkc hb4 0 _ rfl
                       have d1 : W4.cell? ⟨wr.heap.size, 1, none⟩ = some (.int .i64 1) := by rw [← HKe.out]; exact blkc hb4 1 _ rfl
                       have d2 : W4.cell? ⟨wr.heap.size, 2, none⟩ = some (.int .i64 e.save) := blkc hb4 2 _ rfl
                       have g1 : W4.cell? ⟨w.heap.size, 1, none⟩ = some (.slice (some ⟨b5, o5, none⟩) v.Z.length v.cr) := cell_far HF4.out HC1.out (fun h => h)
                       have g5 := HC4.out
                       clear hf4 hb4 hn4 y0))
                  refine (HW1.out W4).mono ?_
                  rintro _ W4 ⟨rfl, rfl⟩
                  go_wp2_with fail
                  refine (HW2.out W4).mono ?_
                  rintro _ W4 ⟨rfl, rfl⟩
                  go_wp2_with fail
                  go_ret
                  exact ⟨by rw [HN.out]; rfl, ff4 HF1.out HF4.out⟩
              · have HK := Lib.hid (show within e.off 86400 ∧ 0 ≤ e.kind ∧ e.kind ≤ 2 ∧ (e.kind = 1 → within e.save 86400) from ⟨HK1.out, k2, k3, fun h => absurd h k4⟩)
                have k4 : (e.kind == 1) = false := beq_eq_false_iff_ne.2 k4
                go_wp2_with (first
                  | ((with_reducible refine at_load4 48 ?_); refine wpList_load_at 48 _ b (off + i * 13) (eraC e) _ (by rfl) rfl rfl HCx.out Tryz.underlying48 rfl (infoE _) ?_)
                  | ((with_reducible refine at_store4 48 ?_); refine wpList_store_blk 48 _ _ wr.heap.size 0 48 (eraC eraZ) (eraC e) (eraC e) (by rfl) rfl rfl rfl rfl HBz.out (infoE _) (eraC_one _) (show 0 + 13 ≤ 13 by decide) (put_er _ _) ?_
                     intro W4 hf4 hb4
                     have hn4 := HF2.out.fresh hf4 (fun i e => by have e : i = wr.heap.size := e; omega)
                     have HF4 := Lib.hid (ff4 HF.out hn4)
                     have HE4 := Lib.hid hb4
                     have HC4 := Lib.hid (show W4.cell? ⟨b5, o5 + i, none⟩ = some (.slice x.A x.l.length x.c) from cell_far hn4 HC5.out (fun h => h))
                     have HR4 := Lib.hid (HR5.out.kept hn4)
                     have d0 : W4.cell? ⟨wr.heap.size, 0, none⟩ = some (.int .i64 e.off) := blkc hb4 0 _ rfl
                     have d1 : W4.cell? ⟨wr.heap.size, 1, none⟩ = some (.int .i64 e.kind) := blkc hb4 1 _ rfl
                     have d2 : W4.cell? ⟨wr.heap.size, 2, none⟩ = some (.int .i64 e.save) := blkc hb4 2 _ rfl
                     have g1 : W4.cell? ⟨w.heap.size, 1, none⟩ = some (.slice (some ⟨b5, o5, none⟩) v.Z.length v.cr) := cell_far HF4.out HC1.out (fun h => h)
                     have g5 := HC4.out
                     clear hf4 hb4 hn4 y0))
                have h24 : (x.l.length : Int) ≤ 24 := by omega
                have h25 : decide ((24 : Int) < (x.l.length : Int)) = false := decide_eq_false (by omega)
                refine (HW1.out W4).mono ?_
                rintro _ W4 ⟨rfl, rfl⟩
                go_wp2_with fail
                clear k2 k3 k4
                have HZl := Lib.hid hxl
                clear h24 h25 hxl d0 d1 d2 g1 g5
                obtain ⟨g4, hg4⟩ : ∃ g, wr.heap.size = g := ⟨_, rfl⟩
                rw [hg4] at HE4 ⊢
                clear hg4
                go_loopg [6, 7] x.l.length (fun g v6 _ wr2 => RgB x W4 g v6 wr2)
                case atStart => exact ⟨0, rfl, by simp, (fun k r hk => absurd hk (Nat.not_lt_zero k)), Fr.refl _ _⟩
                case round =>
                  obtain ⟨m, rfl, hmg, hrs, hf⟩ := hrel
                  have HFm := Lib.hid hf
                  have HRs := Lib.hid hrs
                  have HFw := Lib.hid (ff4 HF4.out hf)
                  have g1 : wr.cell? ⟨w.heap.size, 1, none⟩ = some (.slice (some ⟨b5, o5, none⟩) v.Z.length v.cr) := cell_far HFw.out HC1.out (fun h => h)
                  have g5 : wr.cell? ⟨b5, o5 + i, none⟩ = some (.slice x.A x.l.length x.c) := cell_far hf HC4.out (fun h => h)
                  by_cases hml : m < x.l.length
                  · obtain ⟨r, hri⟩ : ∃ r, x.l[m]? = some r := ⟨x.l[m], List.getElem?_eq_getElem hml⟩
                    obtain ⟨b6, o6, hA6, hc6⟩ := (HR4.out.kept hf).at_ hri
                    rw [hA6] at g5
                    clear hA6
                    have m0 : (m : Int) < (x.l.length : Int) := by omega
                    have hmb : m ≤ 6 := by have := HZl.out; omega
                    have HC6 := Lib.hid hc6
                    have n5 := Fr.new wr (.cells (ruleC ruleZ) 72) (fun _ => False)
                    have HF5 := Lib.hid n5
                    have HB5 := Lib.hid (Blk.made wr 72 (ruleC ruleZ))
                    have HSt := Lib.hid (show Go.Den.ruleOk r → ∀ (k : Nat) (r' : RuleL), k < m + 1 → x.l[k]? = some r' → Go.Den.ruleOk r' from fun ho k r' hk h1 => by
                      by_cases c : k = m
                      · subst c; rw [hri] at h1; cases h1; exact ho
                      · exact hrs k r' (by omega) h1)
                    have HNo := Lib.hid (show ¬ Go.Den.ruleOk r → rightD (znD v) = 1 from fun hno => HBd.out (fun h => hno (h.2.2.2.2.2.1 r (List.mem_of_getElem? hri))))
                    clear hc6 n5 hrs hri hf
                    by_cases t1 : within r.save 86400
                    · have HT1 := Lib.hid (fun W => win_yes t1 (by decide) W)
                      by_cases t2 : within r.at_.s 604799
                      · have HT2 := Lib.hid (fun W => win_yes t2 (by decide) W)
                        by_cases t3 : r.at_.k < 0
                        · have HN := Lib.hid (HNo.out (fun h => by have := h.2.2.1; omega))
                          clear t1 t2
                          go_wp2_with (first
                            | ((with_reducible refine at_load4 72 ?_); refine wpList_load_at 72 _ b6 (o6 + m * 11) (ruleC r) _ (by rfl) rfl rfl HC6.out Tryz.underlying72 rfl (infoR _) ?_)
                            | ((with_reducible refine at_store4 72 ?_); refine wpList_store_blk 72 _ _ wr.heap.size 0 72 (ruleC ruleZ) (ruleC r) (ruleC r) (by rfl) rfl rfl rfl rfl HB5.out (infoR _) (ruleC_one _) (show 0 + 11 ≤ 11 by decide) (put_ra _ _) ?_
                               intro W6 hf6 hb6
                               have HF6 := Lib.hid (HF5.out.fresh hf6 (fun i e => by have e : i = wr.heap.size := e; omega))
                               have r7 : W6.cell? ⟨wr.heap.size, 7, none⟩ = some (.int .i64 r.at_.s) := blkc hb6 7 _ rfl
                               have r8 : W6.cell? ⟨wr.heap.size, 8, none⟩ = some (.int .i64 r.at_.k) := blkc hb6 8 _ rfl
                               have r9 : W6.cell? ⟨wr.heap.size, 9, none⟩ = some (.int .i64 r.save) := blkc hb6 9 _ rfl
                               clear hf6 hb6 g1 g5))
                          refine (HT1.out W6).mono ?_
                          rintro _ W6 ⟨rfl, rfl⟩
                          go_wp2_with fail
                          refine (HT2.out W6).mono ?_
                          rintro _ W6 ⟨rfl, rfl⟩
                          go_wp2_with fail
                          go_ret
                          exact ⟨by rw [HN.out]; rfl, ff4 HF1.out (ff4 HFw.out HF6.out)⟩
                        · have t3 : 0 ≤ r.at_.k := by omega
                          by_cases t4 : 2 < r.at_.k
                          · have HN := Lib.hid (HNo.out (fun h => by have := h.2.2.2; omega))
                            clear t1 t2
                            go_wp2_with (first
                              | ((with_reducible refine at_load4 72 ?_); refine wpList_load_at 72 _ b6 (o6 + m * 11) (ruleC r) _ (by rfl) rfl rfl HC6.out Tryz.underlying72 rfl (infoR _) ?_)
                              | ((with_reducible refine at_store4 72 ?_); refine wpList_store_blk 72 _ _ wr.heap.size 0 72 (ruleC ruleZ) (ruleC r) (ruleC r) (by rfl) rfl rfl rfl rfl HB5.out (infoR _) (ruleC_one _) (show 0 + 11 ≤ 11 by decide) (put_ra _ _) ?_
                                 intro W6 hf6 hb6
                                 have HF6 := Lib.hid (HF5.out.fresh hf6 (fun i e => by have e : i = wr.heap.size := e; omega))
                                 have r7 : W6.cell? ⟨wr.heap.size, 7, none⟩ = some (.int .i64 r.at_.s) := blkc hb6 7 _ rfl
                                 have r8 : W6.cell? ⟨wr.heap.size, 8, none⟩ = some (.int .i64 r.at_.k) := blkc hb6 8 _ rfl
                                 have r9 : W6.cell? ⟨wr.heap.size, 9, none⟩ = some (.int .i64 r.save) := blkc hb6 9 _ rfl
                                 clear hf6 hb6 g1 g5))
                            refine (HT1.out W6).mono ?_
                            rintro _ W6 ⟨rfl, rfl⟩
                            go_wp2_with fail
                            refine (HT2.out W6).mono ?_
                            rintro _ W6 ⟨rfl, rfl⟩
                            go_wp2_with fail
                            go_ret
                            exact ⟨by rw [HN.out]; rfl, ff4 HF1.out (ff4 HFw.out HF6.out)⟩
                          · have t4 : r.at_.k ≤ 2 := by omega
                            have HOk1 := Lib.hid (HSt.out ⟨t1, t2, t3, t4⟩)
                            clear t1 t2
                            go_wp2_with (first
                              | ((with_reducible refine at_load4 72 ?_); refine wpList_load_at 72 _ b6 (o6 + m * 11) (ruleC r) _ (by rfl) rfl rfl HC6.out Tryz.underlying72 rfl (infoR _) ?_)
                              | ((with_reducible refine at_store4 72 ?_); refine wpList_store_blk 72 _ _ wr.heap.size 0 72 (ruleC ruleZ) (ruleC r) (ruleC r) (by rfl) rfl rfl rfl rfl HB5.out (infoR _) (ruleC_one _) (show 0 + 11 ≤ 11 by decide) (put_ra _ _) ?_
                                 intro W6 hf6 hb6
                                 have HF6 := Lib.hid (HF5.out.fresh hf6 (fun i e => by have e : i = wr.heap.size := e; omega))
                                 have r7 : W6.cell? ⟨wr.heap.size, 7, none⟩ = some (.int .i64 r.at_.s) := blkc hb6 7 _ rfl
                                 have r8 : W6.cell? ⟨wr.heap.size, 8, none⟩ = some (.int .i64 r.at_.k) := blkc hb6 8 _ rfl
                                 have r9 : W6.cell? ⟨wr.heap.size, 9, none⟩ = some (.int .i64 r.save) := blkc hb6 9 _ rfl
                                 clear hf6 hb6 g1 g5))
                            refine (HT1.out W6).mono ?_
                            rintro _ W6 ⟨rfl, rfl⟩
                            go_wp2_with fail
                            refine (HT2.out W6).mono ?_
                            rintro _ W6 ⟨rfl, rfl⟩
                            go_wp2_with fail
                            go_roundg (x.l.length - (m + 1))
                            case measure => omega
                            case rel => exact ⟨m + 1, by go_num, by omega, HOk1.out, ff4 HFm.out HF6.out⟩
                      · have HT2 := Lib.hid (fun W => win_no t2 (by decide) W)
                        have HN := Lib.hid (HNo.out (fun h => t2 h.2.1))
                        clear t1 t2
                        go_wp2_with (first
                          | ((with_reducible refine at_load4 72 ?_); refine wpList_load_at 72 _ b6 (o6 + m * 11) (ruleC r) _ (by rfl) rfl rfl HC6.out Tryz.underlying72 rfl (infoR _) ?_)
                          | ((with_reducible refine at_store4 72 ?_); refine wpList_store_blk 72 _ _ wr.heap.size 0 72 (ruleC ruleZ) (ruleC r) (ruleC r) (by rfl) rfl rfl rfl rfl HB5.out (infoR _) (ruleC_one _) (show 0 + 11 ≤ 11 by decide) (put_ra _ _) ?_
                             intro W6 hf6 hb6
                             have HF6 := Lib.hid (HF5.out.fresh hf6 (fun i e => by have e : i = wr.heap.size := e; omega))
                             have r7 : W6.cell? ⟨wr.heap.size, 7, none⟩ = some (.int .i64 r.at_.s) := blkc hb6 7 _ rfl
                             have r8 : W6.cell? ⟨wr.heap.size, 8, none⟩ = some (.int .i64 r.at_.k) := blkc hb6 8 _ rfl
                             have r9 : W6.cell? ⟨wr.heap.size, 9, none⟩ = some (.int .i64 r.save) := blkc hb6 9 _ rfl
                             clear hf6 hb6 g1 g5))
                        refine (HT1.out W6).mono ?_
                        rintro _ W6 ⟨rfl, rfl⟩
                        go_wp2_with fail
                        refine (HT2.out W6).mono ?_
                        rintro _ W6 ⟨rfl, rfl⟩
                        go_wp2_with fail
                        go_ret
                        exact ⟨by rw [HN.out]; rfl, ff4 HF1.out (ff4 HFw.out HF6.out)⟩
                    · have HT1 := Lib.hid (fun W => win_no t1 (by decide) W)
                      have HN := Lib.hid (HNo.out (fun h => t1 h.1))
                      clear t1
                      go_wp2_with (first
                        | ((with_reducible refine at_load4 72 ?_); refine wpList_load_at 72 _ b6 (o6 + m * 11) (ruleC r) _ (by rfl) rfl rfl HC6.out Tryz.underlying72 rfl (infoR _) ?_)
                        | ((with_reducible refine at_store4 72 ?_); refine wpList_store_blk 72 _ _ wr.heap.size 0 72 (ruleC ruleZ) (ruleC r) (ruleC r) (by rfl) rfl rfl rfl rfl HB5.out (infoR _) (ruleC_one _) (show 0 + 11 ≤ 11 by decide) (put_ra _ _) ?_
                           intro W6 hf6 hb6
                           have HF6 := Lib.hid (HF5.out.fresh hf6 (fun i e => by have e : i = wr.heap.size := e; omega))
                           have r7 : W6.cell? ⟨wr.heap.size, 7, none⟩ = some (.int .i64 r.at_.s) := blkc hb6 7 _ rfl
                           have r8 : W6.cell? ⟨wr.heap.size, 8, none⟩ = some (.int .i64 r.at_.k) := blkc hb6 8 _ rfl
                           have r9 : W6.cell? ⟨wr.heap.size, 9, none⟩ = some (.int .i64 r.save) := blkc hb6 9 _ rfl
                           clear hf6 hb6 g1 g5))
                      refine (HT1.out W6).mono ?_
                      rintro _ W6 ⟨rfl, rfl⟩
                      go_wp2_with fail
                      go_ret
                      exact ⟨by rw [HN.out]; rfl, ff4 HF1.out (ff4 HFw.out HF6.out)⟩
                  · obtain rfl : m = x.l.length := by omega
                    have HRa := Lib.hid (show ∀ r ∈ x.l, Go.Den.ruleOk r from fun r hr => by
                      obtain ⟨k, hk⟩ := List.mem_iff_getElem?.1 hr
                      exact hrs k r (List.getElem?_eq_some_iff.1 hk).1 hk)
                    have hE := hf.blk HE4.out (fun h => h)
                    have HEr := Lib.hid hE
                    have d5 : wr.cell? ⟨g4, 5, none⟩ = some (.bool e.til.has) := blkc hE 5 _ rfl
                    have HOkE := Lib.hid (show Go.Den.tilOk e.til → ErasOk v (i + 1) from fun ht => HOk.out.step HE.out HX.out ⟨HK.out.1, HK.out.2.1, HK.out.2.2.1, HK.out.2.2.2, by have := HZl.out; omega, HRa.out, ht⟩)
                    clear hrs hf hE
                    by_cases hh : e.til.has = true
                    · have HNo := Lib.hid (show ¬ ((clockD e.til).2 = true ∧ within e.til.at_.s 604799 ∧ 0 ≤ e.til.at_.k ∧ e.til.at_.k ≤ 2) → rightD (znD v) = 1 from fun hno => HBd.out (fun h => hno (h.2.2.2.2.2.2 hh)))
                      have HYes := Lib.hid (show ((clockD e.til).2 = true ∧ within e.til.at_.s 604799 ∧ 0 ≤ e.til.at_.k ∧ e.til.at_.k ≤ 2) → ErasOk v (i + 1) from fun h => HOkE.out (fun _ => h))
                      have HQ := Lib.hid (clock_any e.til wr ⟨HOe.out.2.2.2.2.1, HOe.out.2.2.2.2.2.1⟩)
                      rw [hh] at d5
                      clear hh
                      go_wp2_with (
                        ((with_reducible refine at_load4 46 ?_); refine wpList_load_blk 46 _ g4 5 48 (eraC e) (tilC e.til) _ (by rfl) rfl rfl HEr.out Tryz.underlying46 rfl (infoTl _) (part_til e) ?_))
                      refine HQ.out.mono ?_
                      rintro _ w5 ⟨c, ok, rfl, hok2, -, hf5⟩
                      have HF5 := Lib.hid (ff4 HFw.out hf5)
                      have hE5 := hf5.blk HEr.out (fun h => h)
                      have u11 : w5.cell? ⟨g4, 11, none⟩ = some (.int .i64 e.til.at_.s) := blkc hE5 11 _ rfl
                      have u12 : w5.cell? ⟨g4, 12, none⟩ = some (.int .i64 e.til.at_.k) := blkc hE5 12 _ rfl
                      clear hf5 hE5 d5
                      cases ok with
                      | false =>
                        have HN := Lib.hid (HNo.out (fun h => by rw [← hok2] at h; exact absurd h.1 (by decide)))
                        clear hok2
                        go_wp2_with fail
                        go_ret
                        exact ⟨by rw [HN.out]; rfl, ff4 HF1.out HF5.out⟩
                      | true =>
                        by_cases t2 : within e.til.at_.s 604799
                        · have HT2 := Lib.hid (win_yes t2 (by decide) w5)
                          by_cases t3 : e.til.at_.k < 0
                          · have HN := Lib.hid (HNo.out (fun h => by have := h.2.2.1; omega))
                            clear t2 hok2
                            go_wp2_with fail
                            refine HT2.out.mono ?_
                            rintro _ _ ⟨rfl, rfl⟩
                            go_wp2_with fail
                            go_ret
                            exact ⟨by rw [HN.out]; rfl, ff4 HF1.out HF5.out⟩
                          · have t3 : 0 ≤ e.til.at_.k := by omega
                            by_cases t4 : 2 < e.til.at_.k
                            · have HN := Lib.hid (HNo.out (fun h => by have := h.2.2.2; omega))
                              clear t2 hok2
                              go_wp2_with fail
                              refine HT2.out.mono ?_
                              rintro _ _ ⟨rfl, rfl⟩
                              go_wp2_with fail
                              go_ret
                              exact ⟨by rw [HN.out]; rfl, ff4 HF1.out HF5.out⟩
                            · have t4 : e.til.at_.k ≤ 2 := by omega
                              have HY := Lib.hid (HYes.out ⟨hok2.symm, t2, t3, t4⟩)
                              clear t2 hok2
                              go_wp2_with fail
                              refine HT2.out.mono ?_
                              rintro _ _ ⟨rfl, rfl⟩
                              go_wp2_with fail
                              go_roundg (v.eras.length - (i + 1))
                              case measure => omega
                              case rel => exact ⟨i + 1, by go_num, by omega, HY.out, HF5.out⟩
                        · have HT2 := Lib.hid (win_no t2 (by decide) w5)
                          have HN := Lib.hid (HNo.out (fun h => t2 h.2.1))
                          clear t2 hok2
                          go_wp2_with fail
                          refine HT2.out.mono ?_
                          rintro _ _ ⟨rfl, rfl⟩
                          go_wp2_with fail
                          go_ret
                          exact ⟨by rw [HN.out]; rfl, ff4 HF1.out HF5.out⟩
                    · have hh : e.til.has = false := by simpa using hh
                      have HY := Lib.hid (HOkE.out (fun h => by rw [hh] at h; cases h))
                      rw [hh] at d5
                      clear hh
                      go_wp2_with fail
                      go_roundg (v.eras.length - (i + 1))
                      case measure => omega
                      case rel => exact ⟨i + 1, by go_num, by omega, HY.out, HFw.out⟩
        · have HW1 := Lib.hid (fun W => win_no k1 (by decide) W)
          have HN := Lib.hid (HBd.out (fun h => k1 h.1))
          clear k1
          go_wp2_with (first
            | ((with_reducible refine at_load4 48 ?_); refine wpList_load_at 48 _ b (off + i * 13) (eraC e) _ (by rfl) rfl rfl HCx.out Tryz.underlying48 rfl (infoE _) ?_)
            | ((with_reducible refine at_store4 48 ?_); refine wpList_store_blk 48 _ _ wr.heap.size 0 48 (eraC eraZ) (eraC e) (eraC e) (by rfl) rfl rfl rfl rfl HBz.out (infoE _) (eraC_one _) (show 0 + 13 ≤ 13 by decide) (put_er _ _) ?_
               intro W4 hf4 hb4
               have hn4 := HF2.out.fresh hf4 (fun i e => by have e : i = wr.heap.size := e; omega)
               have HF4 := Lib.hid (ff4 HF.out hn4)
               have HE4 := Lib.hid hb4
               have HC4 := Lib.hid (show W4.cell? ⟨b5, o5 + i, none⟩ = some (.slice x.A x.l.length x.c) from cell_far hn4 HC5.out (fun h => h))
               have HR4 := Lib.hid (HR5.out.kept hn4)
               have d0 : W4.cell? ⟨wr.heap.size, 0, none⟩ = some (.int .i64 e.off) := blkc hb4 0 _ rfl
               have d1 : W4.cell? ⟨wr.heap.size, 1, none⟩ = some (.int .i64 e.kind) := blkc hb4 1 _ rfl
               have d2 : W4.cell? ⟨wr.heap.size, 2, none⟩ = some (.int .i64 e.save) := blkc hb4 2 _ rfl
               have g1 : W4.cell? ⟨w.heap.size, 1, none⟩ = some (.slice (some ⟨b5, o5, none⟩) v.Z.length v.cr) := cell_far HF4.out HC1.out (fun h => h)
               have g5 := HC4.out
               clear hf4 hb4 hn4 y0))
          refine (HW1.out W4).mono ?_
          rintro _ W4 ⟨rfl, rfl⟩
          go_wp2_with fail
          go_ret
          exact ⟨by rw [HN.out]; rfl, ff4 HF1.out HF4.out⟩
      · obtain rfl : i = v.eras.length := by omega
        have HAll := Lib.hid hok
        clear hok hf
        go_wp2_with fail
        go_loopg [10] v.eras.length (fun g v10 wr => RgC v W1 g v10 wr)
        case atStart => exact ⟨0, rfl, by simp, (fun j e hj => absurd hj (Nat.not_lt_zero j)), HF.out⟩
        case round =>
          obtain ⟨i, rfl, hig, hok, hf⟩ := hrel
          have HFc := Lib.hid hf
          have HOp := Lib.hid hok
          by_cases hlt : i < v.eras.length
          · obtain ⟨e, he⟩ : ∃ e, v.eras[i]? = some e := ⟨v.eras[i], List.getElem?_eq_getElem hlt⟩
            obtain ⟨b2, off2, hA2, hc⟩ := (HV.out.kept hf).e.at_ he
            rw [HA.out] at hA2
            cases hA2
            have i0 : (i : Int) < (v.eras.length : Int) := by omega
            have y0 : wr.cell? ⟨w.heap.size, 0, none⟩ = some (.slice (some ⟨b, off, none⟩) v.eras.length v.ce) := cell_far hf HC0.out (fun h => h)
            have c5 : wr.cell? ⟨b, off + i * 13 + 5, none⟩ = some (.bool e.til.has) := hc 5 (show 5 < 13 by decide)
            have hlst : (i + 1 < v.eras.length ∧ (i : Int) < (v.eras.length : Int) - 1) ∨ (¬ i + 1 < v.eras.length ∧ ¬ (i : Int) < (v.eras.length : Int) - 1) := by omega
            clear hc hok hf
            by_cases hb : e.til.has = decide (i + 1 < v.eras.length)
            · have HSt := Lib.hid (HOp.out.step he hb)
              rw [hb] at c5
              clear he hb
              rcases hlst with ⟨p1, p2⟩ | ⟨p1, p2⟩
              · rw [decide_eq_true p1] at c5
                clear p1
                go_wp2_with fail
                go_roundg (v.eras.length - (i + 1))
                case measure => omega
                case rel => exact ⟨i + 1, by go_num, by omega, HSt.out, HFc.out⟩
              · rw [decide_eq_false p1] at c5
                clear p1
                go_wp2_with fail
                go_roundg (v.eras.length - (i + 1))
                case measure => omega
                case rel => exact ⟨i + 1, by go_num, by omega, HSt.out, HFc.out⟩
            · have HN := Lib.hid (right_open HLe.out HAll.out he hb)
              rcases hlst with ⟨p1, p2⟩ | ⟨p1, p2⟩
              · have hb : e.til.has = false := by
                  rw [decide_eq_true p1] at hb
                  cases h : e.til.has
                  · rfl
                  · exact absurd h hb
                rw [hb] at c5
                clear p1 he hb
                go_wp2_with fail
                go_ret
                exact ⟨by rw [HN.out]; rfl, ff4 HF1.out HFc.out⟩
              · have hb : e.til.has = true := by
                  rw [decide_eq_false p1] at hb
                  cases h : e.til.has
                  · exact absurd h hb
                  · rfl
                rw [hb] at c5
                clear p1 he hb
                go_wp2_with fail
                go_ret
                exact ⟨by rw [HN.out]; rfl, ff4 HF1.out HFc.out⟩
          · obtain rfl : i = v.eras.length := by omega
            have HOa := Lib.hid hok
            clear hok hf
            go_wp2_with fail
            go_loopg [11] (v.eras.length - 1) (fun g v11 wr => RgD v W1 g v11 wr)
            case atStart => exact ⟨0, rfl, by omega, (fun j hj => absurd hj (Nat.not_lt_zero j)), HFc.out⟩
            case round =>
              obtain ⟨i, rfl, hig, hup, hf⟩ := hrel
              have HFd := Lib.hid hf
              have HUp := Lib.hid hup
              by_cases hlt : i + 2 < v.eras.length
              · have p2 : (i : Int) + 1 < (v.eras.length : Int) - 1 := by omega
                have HE1 := Lib.hid (fun W (f : Fr w W (fun _ => False)) => zEnd_any v (i + 1) W (HV0.out.kept f) HLz.out (by omega))
                have HE0 := Lib.hid (fun W (f : Fr w W (fun _ => False)) => zEnd_any v i W (HV0.out.kept f) HLz.out (by omega))
                have HBr := Lib.hid (hf.blk HB1.out (fun h => h))
                have HFa := Lib.hid (fun h => right_fall HLe.out HAll.out HOa.out hlt h)
                rw [show intV ((i + 1 : Nat) : Int) = intV ((i : Int) + 1) from rfl] at HE1
                have hwr : IntKind.i64.wrap ((i : Int) + 1 - 1) = (i : Int) := by rw [IntKind.wrap_i64]; omega
                have hwr2 : IntKind.i64.wrap (i : Int) = (i : Int) := by rw [IntKind.wrap_i64]; omega
                generalize hE1 : endD (znD v) (i + 1) = E1 at *
                generalize hE0 : endD (znD v) i = E0 at *
                have HE1v := Lib.hid hE1
                have HE0v := Lib.hid hE0
                clear hup hf hE1 hE0
                go_wp2_with fail
                refine wp_region_held_drew (S := fun w' => Fr wr w' (fun _ => False)) (by kernel_rfl) (Fr.drew wr _) (fun hHeld => ?_)
                refine wpAnyH_take (i := 0) (v := _) rfl (by kernel_rfl) (by kernel_rfl) (by kernel_rfl) (fun _ _ _ h => h) ((yields_blk 25 _ w.heap.size 0 25 (zoneC v) (zoneC v) _ (by rfl) rfl rfl (fun w' hSw => hSw.blk HBr.out (fun h => h)) Tryz.underlying25 rfl (infoZn _) (zero_part _))) (by assumption) ?_
                try simp only [Act.put, List.setIfInBounds_toArray, List.set_cons_zero, List.set_cons_succ, List.getElem_toArray, List.getElem_cons_zero]
                refine wpAnyH_take (i := 1) (v := ?_) rfl (by kernel_rfl) (by kernel_rfl) (by kernel_rfl) (fun _ _ _ h => h) (Or.inl ⟨by rfl, ?_⟩) (by assumption) ?_
                rotate_left
                · intro w' hSw
                  go_simp
                  try with_reducible rfl
                try simp only [Act.put, List.setIfInBounds_toArray, List.set_cons_zero, List.set_cons_succ, List.getElem_toArray, List.getElem_cons_succ, List.getElem_cons_zero]
                refine wpAnyH_take (i := 3) (v := _) rfl (by kernel_rfl) (by kernel_rfl) (by kernel_rfl) (fun _ _ _ h => h) ((yields_blk 25 _ w.heap.size 0 25 (zoneC v) (zoneC v) _ (by rfl) rfl rfl (fun w' hSw => hSw.blk HBr.out (fun h => h)) Tryz.underlying25 rfl (infoZn _) (zero_part _))) (by assumption) ?_
                try simp only [Act.put, List.setIfInBounds_toArray, List.set_cons_zero, List.set_cons_succ, List.getElem_toArray, List.getElem_cons_succ, List.getElem_cons_zero]
                refine wpAnyH_take (i := 4) (v := ?_) rfl (by kernel_rfl) (by kernel_rfl) (by kernel_rfl) (fun _ _ _ h => h) (Or.inl ⟨by rfl, ?_⟩) (by assumption) ?_
                rotate_left
                · intro w' hSw
                  go_simp
                  try with_reducible rfl
                try simp only [Act.put, List.setIfInBounds_toArray, List.set_cons_zero, List.set_cons_succ, List.getElem_toArray, List.getElem_cons_succ, List.getElem_cons_zero]
                refine wpAnyH_take (i := 5) (v := ?_) rfl (by kernel_rfl) (by kernel_rfl) (by kernel_rfl) (fun _ _ _ h => h) (Or.inl ⟨by rfl, ?_⟩) (by assumption) ?_
                rotate_left
                · intro w' hSw
                  go_simp
                  try with_reducible rfl
                try simp only [Act.put, List.setIfInBounds_toArray, List.set_cons_zero, List.set_cons_succ, List.getElem_toArray, List.getElem_cons_succ, List.getElem_cons_zero]
                refine wpAnyH_ready (rs := [2]) (by kernel_rfl) (by simp) ?_
                refine AllReadyH.cons rfl (fun K hK => ?_) AllReadyH.nil
                go_simp
                refine (HE1.out _ (ff4 (ff4 HF1.out HFd.out) hHeld)).mono ?_
                rintro e w2 ⟨rfl, hf2⟩
                refine hK.out _ _ (ff4 hHeld hf2) (fun hHeld2 => ?_)
                clear hK K hHeld hf2
                rename_i hHeld2
                have hHeld := hHeld2
                clear hHeld2
                try simp only [Act.put, List.setIfInBounds_toArray, List.set_cons_zero, List.set_cons_succ, List.getElem_toArray, List.getElem_cons_succ, List.getElem_cons_zero]
                refine wpAnyH_ready (rs := [6]) (by kernel_rfl) (by simp) ?_
                refine AllReadyH.cons rfl (fun K hK => ?_) AllReadyH.nil
                go_simp
                refine (HE0.out _ (ff4 (ff4 HF1.out HFd.out) hHeld)).mono ?_
                rintro e w6 ⟨rfl, hf6⟩
                refine hK.out _ _ (ff4 hHeld hf6) (fun hHeld2 => ?_)
                clear hK K hHeld hf6
                rename_i hHeld2
                have hHeld := hHeld2
                clear hHeld2
                try simp only [Act.put, List.setIfInBounds_toArray, List.set_cons_zero, List.set_cons_succ, List.getElem_toArray, List.getElem_cons_succ, List.getElem_cons_zero]
                refine wpAnyH_take (i := 7) (v := ?_) rfl (by kernel_rfl) (by kernel_rfl) (by kernel_rfl) (fun _ _ _ h => h) (Or.inl ⟨by rfl, ?_⟩) (by assumption) ?_
                rotate_left
                · intro w' hSw
                  go_simp
                  try with_reducible rfl
                try simp only [Act.put, List.setIfInBounds_toArray, List.set_cons_zero, List.set_cons_succ, List.getElem_toArray, List.getElem_cons_succ, List.getElem_cons_zero]
                refine wpAnyH_done (by kernel_rfl) ?_ _
                have HFe := Lib.hid (ff4 HFd.out hHeld)
                clear hHeld
                by_cases hfall : E1 ≤ E0
                · have HN := Lib.hid (HFa.out hfall)
                  go_wp2_with fail
                  go_ret
                  exact ⟨by rw [HN.out]; rfl, ff4 HF1.out HFe.out⟩
                · have hfall : E0 < E1 := by omega
                  go_wp2_with fail
                  go_roundg (v.eras.length - (i + 2))
                  case measure => omega
                  case rel => exact ⟨i + 1, by go_num, by omega, fun j hj => by
                    by_cases c : j = i
                    · subst c; rw [HE1v.out, HE0v.out]; exact hfall
                    · exact HUp.out j (by omega), HFe.out⟩
              · have p2 : ¬ (i : Int) + 1 < (v.eras.length : Int) - 1 := by omega
                have HN := Lib.hid (right_fine HLe.out HAll.out HOa.out (fun j hj => hup j (by omega)))
                clear hup hf
                go_wp2_with fail
                go_ret
                exact ⟨by rw [HN.out]; rfl, ff4 HF1.out HFd.out⟩
  · have HN := Lib.hid (right_len hlen)
    have h3 : v.eras.length < 1 ∨ (1 ≤ v.eras.length ∧ 8 < v.eras.length) ∨ (1 ≤ v.eras.length ∧ v.eras.length ≤ 8 ∧ v.Z.length ≠ v.eras.length) := by unfold LenOk at hlen; omega
    clear hlen
    rcases h3 with q | ⟨q, q2⟩ | ⟨q, q2, q3⟩
    · have q : (v.eras.length : Int) < 1 := by omega
      go_enter Tryz.func26, Tryz.ntmps26
      go_wp2_with fail
      go_ret
      exact ⟨by rw [HN.out]; rfl, HF1.out⟩
    · have q : ¬ (v.eras.length : Int) < 1 := by omega
      have q2 : (8 : Int) < (v.eras.length : Int) := by omega
      go_enter Tryz.func26, Tryz.ntmps26
      go_wp2_with fail
      go_ret
      exact ⟨by rw [HN.out]; rfl, HF1.out⟩
    · have q : ¬ (v.eras.length : Int) < 1 := by omega
      have q2 : (v.eras.length : Int) ≤ 8 := by omega
      have q3 : ((v.Z.length : Int) == (v.eras.length : Int)) = false := by rw [beq_eq_false_iff_ne]; omega
      have q4 : ((v.Z.length : Int) != (v.eras.length : Int)) = true := by rw [bne_iff_ne]; omega
      go_enter Tryz.func26, Tryz.ntmps26
      go_wp2_with fail
      go_ret
      exact ⟨by rw [HN.out]; rfl, HF1.out⟩
end Go.Proofs.YtghcfmoagkimaaaGreatDoor
