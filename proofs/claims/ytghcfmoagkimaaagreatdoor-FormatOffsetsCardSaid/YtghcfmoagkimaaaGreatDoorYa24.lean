import Derived.Test.YtghcfmoagkimaaaGreatDoorYa23
import Derived.Test.YtghcfmoagkimaaaGreatDoorYa22
import Derived.Test.YtghcfmoagkimaaaGreatDoorYa10
import Derived.Test.YtghcfmoagkimaaaGreatDoorYa21
import Derived.Test.YtghcfmoagkimaaaGreatDoorYa18
import Derived.Sort.Grow
import Derived.Deep.RegionHeld3
namespace Go.Proofs.YtghcfmoagkimaaaGreatDoor
open Go.RowKit Go.Mem Go.Lin Go.Xpd Go.Den

/- a state in its cells -/
def stateC (s : StateD) : Array Value := #[intV s.era, intV s.save, strV s.letter]
abbrev stateV (s : StateD) : Value := .agg (stateC s)
def st0 : StateD := ⟨0, 0, []⟩
theorem stateC_one (s : StateD) : (stateC s).all (·.oneCell') = true := by simp [stateC, Value.oneCell']
theorem infoSt (s : StateD) : (Tryz.prog.info? 55).map (·.size) = some (stateC s).size := show _ = some 3 by kernel_rfl
theorem put_st (s t : StateD) : setMany (stateC s) 0 (stateC t).toList = stateC t := put_all rfl
theorem results_zAt (tmps : Array Value) (w : World) (q : Nat) (s : StateD) (u : Value) (h4 : tmps.getD 4 undef = .pointer (some ⟨q, 0, none⟩)) (h5 : tmps.getD 5 undef = u)
    (hb : Blk w q 55 (stateC s)) : (results Tryz.f15 tmps).run Tryz.prog w = .ok (.tuple #[stateV s, u]) w := by
  have h4' : tmps[4]?.getD undef = .pointer (some ⟨q, 0, none⟩) := by simpa using h4
  have h5' : tmps[5]?.getD undef = u := by simpa using h5
  have hL := run_loadVar_blk (P := Tryz.prog) w q 0 55 55 (stateC s) (stateC s) _ hb Tryz.underlying55 rfl (infoSt s) (zero_part _)
  simp [results, Tryz.results15, h4', h5', asAddr, hL]
theorem right_zero {v : ZnV} (h : rightD (znD v) = 0) : LenOk v := by
  by_cases hl : LenOk v
  · exact hl
  · rw [right_len hl] at h; exact absurd h (by decide)
theorem atD_bad {v : ZnV} {t : Int} (h : rightD (znD v) ≠ 0) : atD (znD v) t = (st0, rightD (znD v)) := if_pos h
theorem atD_far {v : ZnV} {t : Int} (h : rightD (znD v) = 0) (hr : reachY t = none) : atD (znD v) t = (st0, 2) := by
  unfold atD
  rw [if_neg (by rw [h]; decide), hr]
  rfl
theorem atD_in {v : ZnV} {t y : Int} (h : rightD (znD v) = 0) (hr : reachY t = some y) {i : Nat} (hi : eraAt (znD v) t 0 (v.eras.length - 1) = i) : atD (znD v) t = (⟨i, (eraS (znD v) i t).1, (eraS (znD v) i t).2⟩, 0) := by
  unfold atD
  rw [if_neg (by rw [h]; decide), hr]
  show ((⟨(eraAt (znD v) t 0 (v.eras.length - 1) : Nat), (eraS (znD v) (eraAt (znD v) t 0 (v.eras.length - 1)) t).1, (eraS (znD v) (eraAt (znD v) t 0 (v.eras.length - 1)) t).2⟩ : StateD), (0 : Int)) = _
  rw [hi]
set_option maxHeartbeats 6400000 in
set_option maxRecDepth 100000 in
theorem zAt_any (v : ZnV) (t : Int) (w : World) (hv : ZnAt w v) (hL : LightZ v) (ht : S6.inRange t) :
    Calls Tryz.prog 15 #[.agg (zoneC v), intV t] w fun e w' => e = .returned (.tuple #[stateV (atD (znD v) t).1, intV (atD (znD v) t).2]) ∧ Fr w w' (fun _ => False) := by
  have n1 := Fr.new w (.cells (zoneC v) 25) (fun _ => False)
  have s1 : (w.alloc (.cells (zoneC v) 25)).heap.size = w.heap.size + 1 := by simp
  have n2 := Fr.new (w.alloc (.cells (zoneC v) 25)) (.cells (stateC st0) 55) (fun _ => False)
  have hb2 := Blk.made (w.alloc (.cells (zoneC v) 25)) 55 (stateC st0)
  rw [s1] at hb2
  have HB1 := Lib.hid (n2.blk (Blk.made w 25 (zoneC v)) (fun h => h))
  have HB2 := Lib.hid hb2
  have HF2 := Lib.hid (ff4 n1 n2)
  have HV := Lib.hid hv
  have HLz := Lib.hid hL
  have HR := Lib.hid (fun W (f : Fr w W (fun _ => False)) => zRight_any v W (hv.kept f) hL)
  have HRe := Lib.hid (fun W => Reach_any t W ht)
  clear n1 s1 n2 hb2 hv hL
  go_enter Tryz.func15, Tryz.ntmps15
  go_wp2_with (
    ((with_reducible refine at_load4 25 ?_); refine wpList_load_blk 25 _ w.heap.size 0 25 (zoneC v) (zoneC v) _ (by rfl) rfl rfl HB1.out Tryz.underlying25 rfl (infoZn _) (zero_part _) ?_))
  refine (HR.out _ HF2.out).mono ?_
  rintro e w3 ⟨rfl, hf3⟩
  have HF3 := Lib.hid (ff4 HF2.out hf3)
  have HZ3 := Lib.hid (hf3.blk HB1.out (fun h => h))
  have HS3 := Lib.hid (hf3.blk HB2.out (fun h => h))
  clear hf3 HB1 HB2 HF2
  by_cases hk : rightD (znD v) = 0
  · have HK := Lib.hid hk
    have HLen := Lib.hid (right_zero hk)
    rw [hk]
    clear hk
    go_wp2_with fail
    refine (HRe.out w3).mono ?_
    rintro e w4 ⟨y, b, rfl, hf4, -, -, hb1, hb0⟩
    have HF4 := Lib.hid (ff4 HF3.out hf4)
    have HZ4 := Lib.hid (hf4.blk HZ3.out (fun h => h))
    have HS4 := Lib.hid (hf4.blk HS3.out (fun h => h))
    clear hf4
    cases b with
    | false =>
      have HA := Lib.hid (atD_far HK.out (hb0 rfl))
      clear hb1 hb0
      go_wp2_with (
        ((with_reducible refine at_store4 55 ?_); refine wpList_store_blk 55 _ _ (w.heap.size + 1) 0 55 (stateC st0) (stateC st0) (stateC st0) (by rfl) rfl rfl rfl rfl HS4.out (infoSt _) (stateC_one _) (show 0 + 3 ≤ 3 by decide) (put_st _ _) ?_
         intro W5 hf5 hb5
         have HF5 := Lib.hid (HF4.out.fresh hf5 (fun i e => by have e : i = w.heap.size + 1 := e; omega))
         have HS5 := Lib.hid hb5
         clear hf5 hb5))
      exact bodyPost_ret (results_zAt _ _ (w.heap.size + 1) st0 (intV 2) rfl rfl HS5.out) rfl ⟨by rw [HA.out], HF5.out⟩
    | true =>
      have HA := Lib.hid (fun i (hi : eraAt (znD v) t 0 (v.eras.length - 1) = i) => atD_in HK.out (hb1 rfl) hi)
      obtain ⟨l1, l2, l3⟩ := HLen.out
      clear hb1 hb0
      go_wp2_with fail
      go_loopg [9] (v.eras.length - 1) (fun g v9 wr => ∃ i : Nat, v9 = intV i ∧ i + g = v.eras.length - 1 ∧ eraAt (znD v) t 0 (v.eras.length - 1) = eraAt (znD v) t i g ∧ Fr w4 wr (fun _ => False))
      case atStart => exact ⟨0, rfl, by omega, rfl, Fr.refl _ _⟩
      case round =>
        obtain ⟨i, rfl, hig, hera, hf⟩ := hrel
        obtain ⟨G, hGk⟩ : ∃ G, gk = G := ⟨_, rfl⟩
        rw [hGk] at hig hera
        have HFr := Lib.hid hf
        have HFw := Lib.hid (ff4 HF4.out hf)
        have HZr := Lib.hid (hf.blk HZ4.out (fun h => h))
        have HSr := Lib.hid (hf.blk HS4.out (fun h => h))
        have c0 : wr.cell? ⟨w.heap.size, 0, none⟩ = some (.slice v.Ae v.eras.length v.ce) := blkc HZr.out 0 _ rfl
        have HSav := Lib.hid (fun W (f : Fr w W (fun _ => False)) => zsaving_any v i t W (HV.out.kept f) HLz.out (by omega) (fun _ _ _ => by omega) ht)
        clear hf
        cases G with
        | zero =>
          have p : ¬ (i : Int) < (v.eras.length : Int) - 1 := by omega
          have HE := Lib.hid (HA.out i hera)
          clear hera
          generalize eraS (znD v) i t = sv at *
          go_wp2_with (
            ((with_reducible refine at_load4 25 ?_); refine wpList_load_blk 25 _ w.heap.size 0 25 (zoneC v) (zoneC v) _ (by rfl) rfl (by rfl) HZr.out Tryz.underlying25 rfl (infoZn _) (zero_part _) ?_))
          refine (HSav.out _ HFw.out).mono ?_
          rintro e w7 ⟨rfl, hf7⟩
          have HF7 := Lib.hid (ff4 HFw.out hf7)
          have HS7 := Lib.hid (hf7.blk HSr.out (fun h => h))
          clear hf7
          go_wp2_with (
            ((with_reducible refine at_store4 55 ?_); refine wpList_store_blk 55 _ _ (w.heap.size + 1) 0 55 (stateC st0) (stateC ⟨i, sv.1, sv.2⟩) (stateC ⟨i, sv.1, sv.2⟩) (by rfl) rfl rfl rfl rfl HS7.out (infoSt _) (stateC_one _) (show 0 + 3 ≤ 3 by decide) (put_st _ _) ?_
             intro W8 hf8 hb8
             have HF8 := Lib.hid (HF7.out.fresh hf8 (fun i e => by have e : i = w.heap.size + 1 := e; omega))
             have HS8 := Lib.hid hb8
             clear hf8 hb8))
          exact bodyPost_ret (results_zAt _ _ (w.heap.size + 1) ⟨i, sv.1, sv.2⟩ (intV 0) rfl rfl HS8.out) rfl ⟨by rw [HE.out], HF8.out⟩
        | succ G =>
          have p : (i : Int) < (v.eras.length : Int) - 1 := by omega
          have HQ := Lib.hid (zEnd_any v i wr (HV.out.kept HFw.out) HLz.out (by omega))
          by_cases hle : endD (znD v) i ≤ t
          · have HN := Lib.hid (show eraAt (znD v) t 0 (v.eras.length - 1) = eraAt (znD v) t (i + 1) G by
              rw [hera]
              show (if endD (znD v) i ≤ t then eraAt (znD v) t (i + 1) G else i) = _
              rw [if_pos hle])
            generalize endD (znD v) i = E at *
            clear hera
            go_wp2_with (
              ((with_reducible refine at_load4 25 ?_); refine wpList_load_blk 25 _ w.heap.size 0 25 (zoneC v) (zoneC v) _ (by rfl) rfl (by rfl) HZr.out Tryz.underlying25 rfl (infoZn _) (zero_part _) ?_))
            refine HQ.out.mono ?_
            rintro e w6 ⟨rfl, hf6⟩
            have HF6 := Lib.hid (ff4 HFr.out hf6)
            clear hf6 c0
            go_wp2_with fail
            go_roundg G
            case measure => omega
            case rel => exact ⟨i + 1, by go_num, by omega, HN.out, HF6.out⟩
          · have HE := Lib.hid (HA.out i (by
              rw [hera]
              show (if endD (znD v) i ≤ t then eraAt (znD v) t (i + 1) G else i) = _
              rw [if_neg hle]))
            generalize endD (znD v) i = E at *
            have hle : t < E := by omega
            clear hera
            go_wp2_with (
              ((with_reducible refine at_load4 25 ?_); refine wpList_load_blk 25 _ w.heap.size 0 25 (zoneC v) (zoneC v) _ (by rfl) rfl (by rfl) HZr.out Tryz.underlying25 rfl (infoZn _) (zero_part _) ?_))
            refine HQ.out.mono ?_
            rintro e w6 ⟨rfl, hf6⟩
            have HFw := Lib.hid (ff4 HFw.out hf6)
            have HZr := Lib.hid (hf6.blk HZr.out (fun h => h))
            have HSr := Lib.hid (hf6.blk HSr.out (fun h => h))
            clear hf6 c0
            generalize eraS (znD v) i t = sv at *
            go_wp2_with (
              ((with_reducible refine at_load4 25 ?_); refine wpList_load_blk 25 _ w.heap.size 0 25 (zoneC v) (zoneC v) _ (by rfl) rfl (by rfl) HZr.out Tryz.underlying25 rfl (infoZn _) (zero_part _) ?_))
            refine (HSav.out _ HFw.out).mono ?_
            rintro e w7 ⟨rfl, hf7⟩
            have HF7 := Lib.hid (ff4 HFw.out hf7)
            have HS7 := Lib.hid (hf7.blk HSr.out (fun h => h))
            clear hf7
            go_wp2_with (
              ((with_reducible refine at_store4 55 ?_); refine wpList_store_blk 55 _ _ (w.heap.size + 1) 0 55 (stateC st0) (stateC ⟨i, sv.1, sv.2⟩) (stateC ⟨i, sv.1, sv.2⟩) (by rfl) rfl rfl rfl rfl HS7.out (infoSt _) (stateC_one _) (show 0 + 3 ≤ 3 by decide) (put_st _ _) ?_
               intro W8 hf8 hb8
               have HF8 := Lib.hid (HF7.out.fresh hf8 (fun i e => by have e : i = w.heap.size + 1 := e; omega))
               have HS8 := Lib.hid hb8
               clear hf8 hb8))
            exact bodyPost_ret (results_zAt _ _ (w.heap.size + 1) ⟨i, sv.1, sv.2⟩ (intV 0) rfl rfl HS8.out) rfl ⟨by rw [HE.out], HF8.out⟩
  · have HA := Lib.hid (atD_bad (t := t) hk)
    have hk2 : (rightD (znD v) == 0) = false := beq_eq_false_iff_ne.2 hk
    generalize rightD (znD v) = K9 at *
    clear hk
    go_wp2_with (
      ((with_reducible refine at_store4 55 ?_); refine wpList_store_blk 55 _ _ (w.heap.size + 1) 0 55 (stateC st0) (stateC st0) (stateC st0) (by rfl) rfl rfl rfl rfl HS3.out (infoSt _) (stateC_one _) (show 0 + 3 ≤ 3 by decide) (put_st _ _) ?_
       intro W5 hf5 hb5
       have HF5 := Lib.hid (HF3.out.fresh hf5 (fun i e => by have e : i = w.heap.size + 1 := e; omega))
       have HS5 := Lib.hid hb5
       clear hf5 hb5))
    exact bodyPost_ret (results_zAt _ _ (w.heap.size + 1) st0 (intV K9) rfl rfl HS5.out) rfl ⟨by rw [HA.out], HF5.out⟩
end Go.Proofs.YtghcfmoagkimaaaGreatDoor
namespace Go.Proofs.YtghcfmoagkimaaaGreatDoor
open Go.RowKit Go.Mem Go.Lin Go.Fmx Go.Den

/- what clocks show, in its cells -/
def locC (x : LocD) : Array Value := #[intV x.off, .bool x.dst, strV x.abbr]
abbrev locV (x : LocD) : Value := .agg (locC x)
theorem locC_one (x : LocD) : (locC x).all (·.oneCell') = true := by simp [locC, Value.oneCell']
theorem infoLo (x : LocD) : (Tryz.prog.info? 29).map (·.size) = some (locC x).size := show _ = some 3 by kernel_rfl
theorem put_lo (a b : LocD) : setMany (locC a) 0 (locC b).toList = locC b := put_all rfl
theorem results_r16Of (tmps : Array Value) (w : World) (q : Nat) (s : LocD) (u : Value) (h4 : tmps.getD 4 undef = .pointer (some ⟨q, 0, none⟩)) (h5 : tmps.getD 5 undef = u)
    (hb : Blk w q 29 (locC s)) : (results Tryz.f16 tmps).run Tryz.prog w = .ok (.tuple #[locV s, u]) w := by
  have h4' : tmps[4]?.getD undef = .pointer (some ⟨q, 0, none⟩) := by simpa using h4
  have h5' : tmps[5]?.getD undef = u := by simpa using h5
  have hL := run_loadVar_blk (P := Tryz.prog) w q 0 29 29 (locC s) (locC s) _ hb Tryz.underlying29 rfl (infoLo s) (zero_part _)
  simp [results, Tryz.results16, h4', h5', asAddr, hL]
set_option maxHeartbeats 3200000 in
set_option maxRecDepth 100000 in
theorem r16Of_any (e : EraL) (s : StateD) (w : World) (hf : e.format.length ≤ 1000) (hl : s.letter.length ≤ 1000) (ho : -1000000 ≤ e.off ∧ e.off ≤ 1000000) (hs : -1000000 ≤ s.save ∧ s.save ≤ 1000000) :
    Calls Tryz.prog 16 #[.agg (eraC e), stateV s] w fun q w' => q = .returned (.tuple #[locV (ofD16 e s).1, intV (ofD16 e s).2]) ∧ Fr w w' (fun _ => False) := by
  obtain ⟨w1, hw1⟩ : ∃ w1, w.alloc (.cells (eraC e) 48) = w1 := ⟨_, rfl⟩
  obtain ⟨w2, hw2⟩ : ∃ w2, w1.alloc (.cells (stateC s) 55) = w2 := ⟨_, rfl⟩
  obtain ⟨w3, hw3⟩ : ∃ w3, w2.alloc (.cells (locC loc0) 29) = w3 := ⟨_, rfl⟩
  have z1 : w1.heap.size = w.heap.size + 1 := by rw [← hw1]; simp
  have z2 : w2.heap.size = w.heap.size + 1 + 1 := by rw [← hw2]; simp [z1]
  have n3 : Fr w2 w3 (fun _ => False) := by rw [← hw3]; exact Fr.new _ _ _
  have n2 : Fr w1 w3 (fun _ => False) := ff4 (by rw [← hw2]; exact Fr.new _ _ _) n3
  have n1 : Fr w w3 (fun _ => False) := ff4 (by rw [← hw1]; exact Fr.new _ _ _) n2
  have HB1 := Lib.hid (show Blk w3 w.heap.size 48 (eraC e) from n2.blk (by rw [← hw1]; exact Blk.made w _ _) (fun h => h))
  have HB2 := Lib.hid (show Blk w3 (w.heap.size + 1) 55 (stateC s) from n3.blk (by rw [← hw2, ← z1]; exact Blk.made w1 _ _) (fun h => h))
  have HB3 := Lib.hid (show Blk w3 (w.heap.size + 1 + 1) 29 (locC loc0) by rw [← hw3, ← z2]; exact Blk.made w2 _ _)
  have e3 : ((w.alloc (.cells (eraC e) 48)).alloc (.cells (stateC s) 55)).alloc (.cells #[.int .i64 0, .bool false, .string ⟨#[]⟩] 29) = w3 := by
    rw [hw1, hw2, ← hw3]; rfl
  have HF3 := Lib.hid n1
  have c0 : w3.cell? ⟨w.heap.size, 0, none⟩ = some (.int .i64 e.off) := blkc HB1.out 0 _ rfl
  have c4 : w3.cell? ⟨w.heap.size, 4, none⟩ = some (strV e.format) := blkc HB1.out 4 _ rfl
  have d1 : w3.cell? ⟨w.heap.size + 1, 1, none⟩ = some (.int .i64 s.save) := blkc HB2.out 1 _ rfl
  have d2 : w3.cell? ⟨w.heap.size + 1, 2, none⟩ = some (strV s.letter) := blkc HB2.out 2 _ rfl
  obtain ⟨b, hb⟩ : ∃ b, (s.save != 0) = b := ⟨_, rfl⟩
  obtain ⟨a, k, hak⟩ : ∃ a k, abbrD e.format s.letter (e.off + s.save) b = (a, k) := ⟨_, _, rfl⟩
  have HA := Lib.hid (fun w => r16Abbr_any e.format s.letter (e.off + s.save) b w hf hl)
  rw [hak] at HA
  have HY := Lib.hid (fun (h : k = 0) => of_yes hb (hak.trans (by rw [h])))
  have HN := Lib.hid (of_no hb hak)
  obtain ⟨o1, o2⟩ := ho
  obtain ⟨s1, s2⟩ := hs
  have hw : IntKind.i64.wrap (e.off + s.save) = e.off + s.save := by rw [IntKind.wrap_i64]; omega
  clear hw1 hw2 hw3 z1 z2 n1 n2 n3 hak
  by_cases hk : k = 0
  · have HR := Lib.hid (HY.out hk)
    rw [hk] at HA
    clear hk HY HN
    go_enter Tryz.func16, Tryz.ntmps16
    go_wp2_with fail
    refine (HA.out _).mono ?_
    rintro q w4 ⟨rfl, hf4⟩
    have HF4 := Lib.hid (ff4 HF3.out hf4)
    have HB4 := Lib.hid (hf4.blk HB3.out (fun h => h))
    have e1 : w4.cell? ⟨w.heap.size + 1, 1, none⟩ = some (.int .i64 s.save) := cell_far hf4 d1 (fun h => h)
    clear hf4 c0 c4 d1 d2
    go_wp2_with (first
      | ((with_reducible refine at_build 29 ?_); refine wpList_build1 29 _ (.agg (locC ⟨e.off + s.save, b, a⟩)) (by rfl) rfl (fun w => by kernel_rfl) ?_)
      | ((with_reducible refine at_store4 29 ?_); refine wpList_store_blk 29 _ _ (w.heap.size + 1 + 1) 0 29 (locC loc0) (locC ⟨e.off + s.save, b, a⟩) (locC ⟨e.off + s.save, b, a⟩) (by rfl) rfl rfl rfl rfl HB4.out (infoLo _) (locC_one _) (show 0 + 3 ≤ 3 by decide) (put_lo _ _) ?_
         intro W9 hf9 hb9
         have HF9 := Lib.hid (HF4.out.fresh hf9 (fun i e => by have e : i = w.heap.size + 1 + 1 := e; omega))
         have HB9 := Lib.hid hb9
         clear hf9 hb9))
    exact bodyPost_ret (results_r16Of _ _ (w.heap.size + 1 + 1) ⟨e.off + s.save, b, a⟩ (intV 0) rfl rfl HB9.out) rfl ⟨by rw [HR.out], HF9.out⟩
  · have HR := Lib.hid (HN.out hk)
    have k0 : (k == 0) = false := beq_eq_false_iff_ne.2 hk
    clear hk HY HN
    go_enter Tryz.func16, Tryz.ntmps16
    go_wp2_with fail
    refine (HA.out _).mono ?_
    rintro q w4 ⟨rfl, hf4⟩
    have HF4 := Lib.hid (ff4 HF3.out hf4)
    have HB4 := Lib.hid (hf4.blk HB3.out (fun h => h))
    clear hf4 c0 c4 d1 d2
    go_wp2_with (first
      | ((with_reducible refine at_store4 29 ?_); refine wpList_store_blk 29 _ _ (w.heap.size + 1 + 1) 0 29 (locC loc0) (locC loc0) (locC loc0) (by rfl) rfl rfl rfl rfl HB4.out (infoLo _) (locC_one _) (show 0 + 3 ≤ 3 by decide) (put_lo _ _) ?_
         intro W9 hf9 hb9
         have HF9 := Lib.hid (HF4.out.fresh hf9 (fun i e => by have e : i = w.heap.size + 1 + 1 := e; omega))
         have HB9 := Lib.hid hb9
         clear hf9 hb9))
    exact bodyPost_ret (results_r16Of _ _ (w.heap.size + 1 + 1) loc0 (intV k) rfl rfl HB9.out) rfl ⟨by rw [HR.out], HF9.out⟩
end Go.Proofs.YtghcfmoagkimaaaGreatDoor
namespace Go.Proofs.YtghcfmoagkimaaaGreatDoor
open Go.RowKit Go.Mem Go.Lin Go.Fmx Go.Den

theorem results_f16Of (tmps : Array Value) (w : World) (q : Nat) (s : LocD) (u : Value) (h4 : tmps.getD 4 undef = .pointer (some ⟨q, 0, none⟩)) (h5 : tmps.getD 5 undef = u)
    (hb : Blk w q 29 (locC s)) : (results Tryz.f14 tmps).run Tryz.prog w = .ok (.tuple #[locV s, u]) w := by
  have h4' : tmps[4]?.getD undef = .pointer (some ⟨q, 0, none⟩) := by simpa using h4
  have h5' : tmps[5]?.getD undef = u := by simpa using h5
  have hL := run_loadVar_blk (P := Tryz.prog) w q 0 29 29 (locC s) (locC s) _ hb Tryz.underlying29 rfl (infoLo s) (zero_part _)
  simp [results, Tryz.results14, h4', h5', asAddr, hL]
set_option maxHeartbeats 3200000 in
set_option maxRecDepth 100000 in
theorem f16Of_any (e : EraL) (s : StateD) (w : World) (hm : MOk w) (hf : e.format.length ≤ 1000) (hl : s.letter.length ≤ 1000) (ho : -1000000 ≤ e.off ∧ e.off ≤ 1000000) (hs : -1000000 ≤ s.save ∧ s.save ≤ 1000000) :
    Calls Tryz.prog 14 #[.agg (eraC e), stateV s] w fun q w' => q = .returned (.tuple #[locV (ofD16 e s).1, intV (ofD16 e s).2]) ∧ Fr w w' (fun _ => False) := by
  obtain ⟨w1, hw1⟩ : ∃ w1, w.alloc (.cells (eraC e) 48) = w1 := ⟨_, rfl⟩
  obtain ⟨w2, hw2⟩ : ∃ w2, w1.alloc (.cells (stateC s) 38) = w2 := ⟨_, rfl⟩
  obtain ⟨w3, hw3⟩ : ∃ w3, w2.alloc (.cells (locC loc0) 29) = w3 := ⟨_, rfl⟩
  have z1 : w1.heap.size = w.heap.size + 1 := by rw [← hw1]; simp
  have z2 : w2.heap.size = w.heap.size + 1 + 1 := by rw [← hw2]; simp [z1]
  have n3 : Fr w2 w3 (fun _ => False) := by rw [← hw3]; exact Fr.new _ _ _
  have n2 : Fr w1 w3 (fun _ => False) := ff4 (by rw [← hw2]; exact Fr.new _ _ _) n3
  have n1 : Fr w w3 (fun _ => False) := ff4 (by rw [← hw1]; exact Fr.new _ _ _) n2
  have HB1 := Lib.hid (show Blk w3 w.heap.size 48 (eraC e) from n2.blk (by rw [← hw1]; exact Blk.made w _ _) (fun h => h))
  have HB2 := Lib.hid (show Blk w3 (w.heap.size + 1) 38 (stateC s) from n3.blk (by rw [← hw2, ← z1]; exact Blk.made w1 _ _) (fun h => h))
  have HB3 := Lib.hid (show Blk w3 (w.heap.size + 1 + 1) 29 (locC loc0) by rw [← hw3, ← z2]; exact Blk.made w2 _ _)
  have e3 : ((w.alloc (.cells (eraC e) 48)).alloc (.cells (stateC s) 38)).alloc (.cells #[.int .i64 0, .bool false, .string ⟨#[]⟩] 29) = w3 := by
    rw [hw1, hw2, ← hw3]; rfl
  have HF3 := Lib.hid n1
  have c0 : w3.cell? ⟨w.heap.size, 0, none⟩ = some (.int .i64 e.off) := blkc HB1.out 0 _ rfl
  have c4 : w3.cell? ⟨w.heap.size, 4, none⟩ = some (strV e.format) := blkc HB1.out 4 _ rfl
  have d1 : w3.cell? ⟨w.heap.size + 1, 1, none⟩ = some (.int .i64 s.save) := blkc HB2.out 1 _ rfl
  have d2 : w3.cell? ⟨w.heap.size + 1, 2, none⟩ = some (strV s.letter) := blkc HB2.out 2 _ rfl
  obtain ⟨b, hb⟩ : ∃ b, (s.save != 0) = b := ⟨_, rfl⟩
  obtain ⟨r, hr, hT⟩ := f16together_any e.off s.save ho hs
  obtain ⟨a, k, hak⟩ : ∃ a k, abbrD e.format s.letter (e.off + s.save) b = (a, k) := ⟨_, _, rfl⟩
  have hrk : k = 0 → r = e.off + s.save := fun h => hr.elim id (fun hx => absurd hx.2 (abbr_ok (hak.trans (by rw [h]))))
  have HM := Lib.hid (fun W (g : Fr w W (fun _ => False)) => hm.fr g)
  have HA := fun w (h : MOk w) => f16Abbr_any e.format s.letter r b w h hf hl
  rw [abbr_beyond hr, hak] at HA
  have HA := Lib.hid HA
  have HY := Lib.hid (fun (h : k = 0) => of_yes hb (hak.trans (by rw [h])))
  have HN := Lib.hid (of_no hb hak)
  have HT := Lib.hid hT
  clear hw1 hw2 hw3 z1 z2 n1 n2 n3 hak hr hT ho hs hm hf hl
  by_cases hk : k = 0
  · have hr := hrk hk
    have HR := HY.out hk
    rw [hk] at HA
    rw [← hr] at HR
    have HR := Lib.hid HR
    clear hk HY HN hrk hr
    go_enter Tryz.func14, Tryz.ntmps14
    go_wp2_with fail
    go_quiet ((go_at_call 25; exact Calls.quiet_of_same (HT.out _)))
    have HFq := Lib.hid (ff4 HF3.out (Fr.drewN w3 nq (fun _ => False)))
    have HBq := Lib.hid ((Fr.drewN w3 nq (fun _ => False)).blk HB3.out (fun h => h))
    go_wp2_with fail
    refine (HA.out _ (HM.out _ HFq.out)).mono ?_
    rintro q w4 ⟨rfl, hf4⟩
    have HF4 := Lib.hid (ff4 HFq.out hf4)
    have HB4 := Lib.hid (hf4.blk HBq.out (fun h => h))
    clear hf4 c0 c4 d1 d2 HFq HBq
    go_wp2_with (first
      | ((with_reducible refine at_build 29 ?_); refine wpList_build1 29 _ (.agg (locC ⟨r, b, a⟩)) (by rfl) rfl (fun w => by kernel_rfl) ?_)
      | ((with_reducible refine at_store4 29 ?_); refine wpList_store_blk 29 _ _ (w.heap.size + 1 + 1) 0 29 (locC loc0) (locC ⟨r, b, a⟩) (locC ⟨r, b, a⟩) (by rfl) rfl rfl rfl rfl HB4.out (infoLo _) (locC_one _) (show 0 + 3 ≤ 3 by decide) (put_lo _ _) ?_
         intro W9 hf9 hb9
         have HF9 := Lib.hid (HF4.out.fresh hf9 (fun i e => by have e : i = w.heap.size + 1 + 1 := e; omega))
         have HB9 := Lib.hid hb9
         clear hf9 hb9))
    exact bodyPost_ret (results_f16Of _ _ (w.heap.size + 1 + 1) ⟨r, b, a⟩ (intV 0) rfl rfl HB9.out) rfl ⟨by rw [HR.out], HF9.out⟩
  · have HR := Lib.hid (HN.out hk)
    have k0 : (k == 0) = false := beq_eq_false_iff_ne.2 hk
    clear hk HY HN hrk
    go_enter Tryz.func14, Tryz.ntmps14
    go_wp2_with fail
    go_quiet ((go_at_call 25; exact Calls.quiet_of_same (HT.out _)))
    have HFq := Lib.hid (ff4 HF3.out (Fr.drewN w3 nq (fun _ => False)))
    have HBq := Lib.hid ((Fr.drewN w3 nq (fun _ => False)).blk HB3.out (fun h => h))
    go_wp2_with fail
    refine (HA.out _ (HM.out _ HFq.out)).mono ?_
    rintro q w4 ⟨rfl, hf4⟩
    have HF4 := Lib.hid (ff4 HFq.out hf4)
    have HB4 := Lib.hid (hf4.blk HBq.out (fun h => h))
    clear hf4 c0 c4 d1 d2 HFq HBq
    go_wp2_with (first
      | ((with_reducible refine at_store4 29 ?_); refine wpList_store_blk 29 _ _ (w.heap.size + 1 + 1) 0 29 (locC loc0) (locC loc0) (locC loc0) (by rfl) rfl rfl rfl rfl HB4.out (infoLo _) (locC_one _) (show 0 + 3 ≤ 3 by decide) (put_lo _ _) ?_
         intro W9 hf9 hb9
         have HF9 := Lib.hid (HF4.out.fresh hf9 (fun i e => by have e : i = w.heap.size + 1 + 1 := e; omega))
         have HB9 := Lib.hid hb9
         clear hf9 hb9))
    exact bodyPost_ret (results_f16Of _ _ (w.heap.size + 1 + 1) loc0 (intV k) rfl rfl HB9.out) rfl ⟨by rw [HR.out], HF9.out⟩
end Go.Proofs.YtghcfmoagkimaaaGreatDoor
namespace Go.Proofs.YtghcfmoagkimaaaGreatDoor
open Go.RowKit Go.Mem Go.Lin Go.Fmx Go.Den

theorem ex_cest : abbrD [67, 69, 37, 115, 84] [83] 7200 true = ([67, 69, 83, 84], 0) := by decide +kernel
theorem ex_gmt : abbrD [71, 77, 84, 47, 66, 83, 84] [] 0 false = ([71, 77, 84], 0) := by decide +kernel
theorem ex_0530 : abbrD [37, 122] [] 19800 false = ([43, 48, 53, 51, 48], 0) := by decide +kernel
set_option maxRecDepth 100000 in
theorem l16alive_any (w : World) (hm : MOk w) : Calls Tryz.prog 6 #[] w fun e w' => e = .returned (.bool true) ∧ Fr w w' (fun _ => False) := by
  have H1 := fun w h => f16Abbr_any [67, 69, 37, 115, 84] [83] 7200 true w h (by decide) (by decide)
  have H2 := fun w h => f16Abbr_any [71, 77, 84, 47, 66, 83, 84] [] 0 false w h (by decide) (by decide)
  have H3 := fun w h => f16Abbr_any [37, 122] [] 19800 false w h (by decide) (by decide)
  rw [ex_cest] at H1
  rw [ex_gmt] at H2
  rw [ex_0530] at H3
  have H1 := Lib.hid H1
  have H2 := Lib.hid H2
  have H3 := Lib.hid H3
  have HM := Lib.hid (fun W (g : Fr w W (fun _ => False)) => hm.fr g)
  clear hm
  go_enter Tryz.func6, Tryz.ntmps6
  go_wp2_with fail
  refine (H1.out _ (HM.out _ (Fr.refl _ _))).mono ?_
  rintro e w1 ⟨rfl, hf1⟩
  go_wp2_with fail
  refine (H2.out _ (HM.out _ hf1)).mono ?_
  rintro e w2 ⟨rfl, hf2⟩
  go_wp2_with fail
  refine (H3.out _ (HM.out _ (ff4 hf1 hf2))).mono ?_
  rintro e w3 ⟨rfl, hf3⟩
  go_wp2_with fail
  go_ret
  exact ⟨rfl, ff4 hf1 (ff4 hf2 hf3)⟩
end Go.Proofs.YtghcfmoagkimaaaGreatDoor
namespace Go.Mem
open Go.RowKit
section
variable {P : Program} {ops : Array Oper} {rest : List Oper} {o : Oper} {a : Act} {w : World} {Q : Exit → Act → World → Prop}
theorem at_eql6 {d : Option Tmp} {x y : Operand} {z ty : TypeId} {pos : String} {af : Array Edge} {g : Option (Nat × Bool)} (t : TypeId) (h : wpList P ops Q (⟨d, .binOp .eql t x y z, ty, pos, af, g⟩ :: rest) a w) : wpList P ops Q (⟨d, .binOp .eql t x y z, ty, pos, af, g⟩ :: rest) a w := h
theorem wpList_eql6 {t : TypeId} {x y : Operand} {z : TypeId} {cs ds : Array Value} {b : Bool} (hgd : Region.wanted o (yielded ops a.tmps) = true) (ho : o.op = .binOp .eql t x y z) (hx : a.eval x = .agg cs) (hy : a.eval y = .agg ds)
    (hg : ∀ w, (eqGuard .eql t x y (.agg cs) (.agg ds)).run P w = .ok () w) (h : ∀ w, (binOp .eql t (.agg cs) (.agg ds)).run P w = .ok (.bool b) w) (hK : wpList P ops Q rest (a.put o.dst (.bool b)) w) : wpList P ops Q (o :: rest) a w :=
  wpList_step fun _ hk => by
    rw [if_pos hgd]
    unfold Oper.wp execOp
    simp only [ho, hx, hy, Sem.run_bind, hg, h, Result.andThen_ok, Sem.run_pure]
    exact hk _ _ hK
end
end Go.Mem
namespace Go.Proofs.YtghcfmoagkimaaaGreatDoor
open Go.RowKit Go.Mem Go.Lin Go.Fmx Go.Den

/-- two of what clocks show are equal -/
theorem eq_loc (d : Nat) (a b : LocD) (w : World) : (Op.equalIn (d + 2) 29 (locV a) (locV b)).run Tryz.prog w = .ok (decide (a = b)) w := by
  have hS : Tryz.prog.underlying 29 = some (.struct (Tryz.prog.fieldsOf 29)) := by kernel_rfl
  have hp : Tryz.prog.stoodInHeld 29 = false := by kernel_rfl
  rw [run_equalIn_agg w (d + 1) 29 _ _ hS hp]
  simp only [Program.fieldsOf, Tryz.underlying29]
  refine Eq.trans (eqF_cons (x := intV a.off) (y := intV b.off) (by decide) (by kernel_rfl) (by kernel_rfl) (eqI d a.off b.off w) (eqF_cons (x := .bool a.dst) (y := .bool b.dst) (by decide) (by kernel_rfl) (by kernel_rfl) (eqB d a.dst b.dst w) (eqF_cons (x := strV a.abbr) (y := strV b.abbr) (by decide) (by kernel_rfl) (by kernel_rfl) (eqS d a.abbr b.abbr w) eqF_nil))) ?_
  rcases a with ⟨a0, a1, a2⟩
  rcases b with ⟨b0, b1, b2⟩
  simp [LocD.mk.injEq]
theorem eql_loc (a : LocD) : ∀ w, (binOp .eql 29 (.agg (locC a)) (.agg (locC a))).run Tryz.prog w = .ok (.bool true) w := fun w => by
  have h := eq_loc 9998 a a w
  simp only [binOp]
  simp [Op.equal, Op.maxDepth, h]
theorem guard_loc (x y : Operand) (cs ds : Array Value) : ∀ w, (eqGuard .eql 29 x y (.agg cs) (.agg ds)).run Tryz.prog w = .ok () w := fun _ => by kernel_rfl
end Go.Proofs.YtghcfmoagkimaaaGreatDoor
namespace Go.Proofs.YtghcfmoagkimaaaGreatDoor
open Go.RowKit Go.Mem Go.Lin Go.Xpd

/- how fires follow one another -/
def Grw (w w' : World) : Prop := ∃ q os, w' = Go.Sort.grow (w.drewN q) os
theorem Grw.refl (w : World) : Grw w w := ⟨0, #[], by simp [Go.Sort.grow, World.drewN]⟩
theorem Grw.alloc {w w' : World} (h : Grw w w') (o : Obj) : Grw w (w'.alloc o) := by
  obtain ⟨q, os, rfl⟩ := h
  exact ⟨q, _, by rw [Go.Sort.alloc_eq_grow, Go.Sort.grow_grow]⟩
theorem Grw.drew {w w' : World} (h : Grw w w') : Grw w w'.drew := by
  obtain ⟨q, os, rfl⟩ := h
  exact ⟨q + 1, os, rfl⟩
theorem Grw.fr {w w' : World} (h : Grw w w') : Fr w w' (fun _ => False) := by
  obtain ⟨q, os, rfl⟩ := h
  exact ⟨rfl, rfl, rfl, by simp [Go.Sort.grow, World.drewN], fun i hi _ => by
    show (w.heap ++ os)[i]? = _
    rw [Array.getElem?_append_left hi]⟩
theorem kq6a {w a : World} {p1 p2 o1 o2 o3 o4 o5 o6 : Nat} {v1 v2 v3 v4 v5 v6 : Value} {o : Obj} (h : Grw w a ∧ a.cell? ⟨p1, o1, none⟩ = some v1 ∧ a.cell? ⟨p1, o2, none⟩ = some v2 ∧ a.cell? ⟨p1, o3, none⟩ = some v3 ∧ a.cell? ⟨p2, o4, none⟩ = some v4 ∧ a.cell? ⟨p2, o5, none⟩ = some v5 ∧ a.cell? ⟨p2, o6, none⟩ = some v6) :
    Grw w (a.alloc o) ∧ (a.alloc o).cell? ⟨p1, o1, none⟩ = some v1 ∧ (a.alloc o).cell? ⟨p1, o2, none⟩ = some v2 ∧ (a.alloc o).cell? ⟨p1, o3, none⟩ = some v3 ∧ (a.alloc o).cell? ⟨p2, o4, none⟩ = some v4 ∧ (a.alloc o).cell? ⟨p2, o5, none⟩ = some v5 ∧ (a.alloc o).cell? ⟨p2, o6, none⟩ = some v6 := by
  have hf := Fr.new a o (fun _ => False)
  obtain ⟨h0, h1, h2, h3, h4, h5, h6⟩ := h
  exact ⟨h0.alloc o, cell_far hf h1 (fun h => h), cell_far hf h2 (fun h => h), cell_far hf h3 (fun h => h), cell_far hf h4 (fun h => h), cell_far hf h5 (fun h => h), cell_far hf h6 (fun h => h)⟩
theorem kq6d {w a : World} {p1 p2 o1 o2 o3 o4 o5 o6 : Nat} {v1 v2 v3 v4 v5 v6 : Value} (h : Grw w a ∧ a.cell? ⟨p1, o1, none⟩ = some v1 ∧ a.cell? ⟨p1, o2, none⟩ = some v2 ∧ a.cell? ⟨p1, o3, none⟩ = some v3 ∧ a.cell? ⟨p2, o4, none⟩ = some v4 ∧ a.cell? ⟨p2, o5, none⟩ = some v5 ∧ a.cell? ⟨p2, o6, none⟩ = some v6) :
    Grw w a.drew ∧ a.drew.cell? ⟨p1, o1, none⟩ = some v1 ∧ a.drew.cell? ⟨p1, o2, none⟩ = some v2 ∧ a.drew.cell? ⟨p1, o3, none⟩ = some v3 ∧ a.drew.cell? ⟨p2, o4, none⟩ = some v4 ∧ a.drew.cell? ⟨p2, o5, none⟩ = some v5 ∧ a.drew.cell? ⟨p2, o6, none⟩ = some v6 :=
  ⟨h.1.drew, h.2⟩
theorem nan_any (x : Int) (w : World) : Calls Tryz.prog 143 #[intV x] w fun e w' => e = .returned (.bool false) ∧ w' = w := by
  go_enter Tryz.func143, Tryz.ntmps143
  go_wp2_with fail
  go_ret
  exact ⟨by simp, rfl⟩
theorem nan64_any (x : Int) (w : World) : Calls Tryz.prog 144 #[intV x] w fun e w' => e = .returned (.bool false) ∧ w' = w := by
  go_enter Tryz.func144, Tryz.ntmps144
  go_wp2_with fail
  go_ret
  exact ⟨by simp, rfl⟩
theorem cmp_any (x y : Int) (w : World) : Calls Tryz.prog 136 #[intV x, intV y] w fun e w' => e = .returned (intV (cmpI x y)) ∧ w' = w := by
  have HX := Lib.hid (nan_any x w)
  have HY := Lib.hid (nan_any y w)
  rcases cmpI_3 x y with ⟨h, e⟩ | ⟨h, e⟩ | ⟨rfl, e⟩
  all_goals
    rw [e]
    clear e
    go_enter Tryz.func136, Tryz.ntmps136
    go_wp2_with fail
    refine HX.out.mono ?_
    rintro e w2 ⟨rfl, rfl⟩
    go_wp2_with fail
    refine HY.out.mono ?_
    rintro e w2 ⟨rfl, rfl⟩
    go_wp2_with fail
    go_ret
    exact ⟨rfl, rfl⟩
theorem cmp64_any (x y : Int) (w : World) : Calls Tryz.prog 137 #[intV x, intV y] w fun e w' => e = .returned (intV (cmpI x y)) ∧ w' = w := by
  have HX := Lib.hid (nan64_any x w)
  have HY := Lib.hid (nan64_any y w)
  rcases cmpI_3 x y with ⟨h, e⟩ | ⟨h, e⟩ | ⟨rfl, e⟩
  all_goals
    rw [e]
    clear e
    go_enter Tryz.func137, Tryz.ntmps137
    go_wp2_with fail
    refine HX.out.mono ?_
    rintro e w2 ⟨rfl, rfl⟩
    go_wp2_with fail
    refine HY.out.mono ?_
    rintro e w2 ⟨rfl, rfl⟩
    go_wp2_with fail
    go_ret
    exact ⟨rfl, rfl⟩
def or3 (x y z : Int) : Int := if x ≠ 0 then x else if y ≠ 0 then y else z
theorem or_any (x y z : Int) (g : Nat) (w : World) (hb : Blk w g 3 #[intV x, intV y, intV z]) : Calls Tryz.prog 135 #[.slice (some ⟨g, 0, none⟩) 3 3] w fun e w' => e = .returned (intV (or3 x y z)) ∧ w' = w := by
  obtain ⟨c, hc, HE⟩ : ∃ c : Nat → Int, (∀ j, j < 3 → w.cell? ⟨g, j, none⟩ = some (intV (c j))) ∧ or3 x y z = or3 (c 0) (c 1) (c 2) := by
    refine ⟨fun j => if j = 0 then x else if j = 1 then y else z, fun j hj => ?_, rfl⟩
    match j, hj with
    | 0, _ => exact blkc hb 0 _ rfl
    | 1, _ => exact blkc hb 1 _ rfl
    | 2, _ => exact blkc hb 2 _ rfl
  have HC := Lib.hid hc
  rw [HE]
  clear hc hb HE
  go_enter Tryz.func135, Tryz.ntmps135
  go_wp2_with fail
  go_loopg [5, 8] 3 (fun g _ v8 wr => ∃ i : Nat, i + g = 3 ∧ v8 = intV i ∧ wr = w ∧ ∀ j, j < i → c j = 0)
  case atStart => exact ⟨0, rfl, rfl, rfl, fun j hj => absurd hj (Nat.not_lt_zero j)⟩
  case round =>
    obtain ⟨i, hi, rfl, rfl, hz⟩ := hrel
    have HZ := Lib.hid hz
    clear hz
    by_cases hlt : i < 3
    · have i1 : (i : Int) < 3 := by omega
      have c0 := HC.out i hlt
      obtain ⟨C, hCv⟩ : ∃ C, c i = C := ⟨_, rfl⟩
      rw [hCv] at c0
      have HCv := Lib.hid hCv
      clear hCv
      by_cases h0 : C = 0
      · subst h0
        go_wp2_with fail
        go_roundg (2 - i)
        case measure => omega
        case rel =>
          refine ⟨i + 1, by omega, by go_num, rfl, fun j hj => ?_⟩
          by_cases e : j = i
          · rw [e]; exact HCv.out
          · exact HZ.out j (by omega)
      · have HE := Lib.hid (show or3 (c 0) (c 1) (c 2) = C by
          have h0' := h0
          rw [← HCv.out] at h0' ⊢
          unfold or3
          match i, hlt, HZ with
          | 0, _, _ => rw [if_pos h0']
          | 1, _, HZ => rw [if_neg (by rw [HZ.out 0 (by omega)]; simp), if_pos h0']
          | 2, _, HZ => rw [if_neg (by rw [HZ.out 0 (by omega)]; simp), if_neg (by rw [HZ.out 1 (by omega)]; simp)])
        have h0 : (C == 0) = false := beq_eq_false_iff_ne.2 h0
        go_wp2_with fail
        go_ret
        exact ⟨by rw [HE.out]; rfl, rfl⟩
    · obtain rfl : i = 3 := by omega
      have HE := Lib.hid (show or3 (c 0) (c 1) (c 2) = 0 by
        unfold or3
        rw [if_neg (by rw [HZ.out 0 (by omega)]; simp), if_neg (by rw [HZ.out 1 (by omega)]; simp)]
        exact HZ.out 2 (by omega))
      go_wp2_with fail
      go_ret
      exact ⟨by rw [HE.out]; rfl, rfl⟩
end Go.Proofs.YtghcfmoagkimaaaGreatDoor
namespace Go.Proofs.YtghcfmoagkimaaaGreatDoor
open Go.RowKit Go.Mem Go.Lin Go.Xpd

theorem or3_cf (a b : FireL) : or3 (cmpI a.y b.y) (cmpI a.at_ b.at_) (cmpI a.i b.i) = cfF a b := rfl
set_option maxHeartbeats 3200000 in
set_option maxRecDepth 100000 in
theorem order_grw (a b : FireL) (w : World) : Calls Tryz.prog 123 #[fireV a, fireV b] w fun e w' => e = .returned (intV (cfF a b)) ∧ Grw w w' := by
  have s1 : (w.alloc (.cells (fireC a) 166)).heap.size = w.heap.size + 1 := by simp
  have n1 := Fr.new (w.alloc (.cells (fireC a) 166)) (.cells (fireC b) 166) (fun _ => False)
  have ba := n1.blk (Blk.made w 166 (fireC a)) (fun h => h)
  have bb := Blk.made (w.alloc (.cells (fireC a) 166)) 166 (fireC b)
  rw [s1] at bb
  have HG0 := Lib.hid (((Grw.refl w).alloc (.cells (fireC a) 166)).alloc (.cells (fireC b) 166))
  have HBa := Lib.hid ba
  have HBb := Lib.hid bb
  have HCf := Lib.hid (or3_cf a b)
  clear s1 n1 ba bb
  go_enter Tryz.func123, Tryz.ntmps123
  go_wp2_with fail
  obtain ⟨W, hW⟩ : ∃ W, (w.alloc (.cells (fireC a) 166)).alloc (.cells (fireC b) 166) = W := ⟨_, rfl⟩
  rw [hW] at HG0 HBa HBb ⊢
  clear hW
  have HS0 := Lib.hid (show Grw w W ∧ W.cell? ⟨w.heap.size, 0, none⟩ = some (.int .i64 a.i) ∧ W.cell? ⟨w.heap.size, 1, none⟩ = some (.int .i64 a.y) ∧ W.cell? ⟨w.heap.size, 2, none⟩ = some (.int .i64 a.at_) ∧ W.cell? ⟨w.heap.size + 1, 0, none⟩ = some (.int .i64 b.i) ∧ W.cell? ⟨w.heap.size + 1, 1, none⟩ = some (.int .i64 b.y) ∧ W.cell? ⟨w.heap.size + 1, 2, none⟩ = some (.int .i64 b.at_) from
    ⟨HG0.out, blkc HBa.out 0 _ rfl, blkc HBa.out 1 _ rfl, blkc HBa.out 2 _ rfl, blkc HBb.out 0 _ rfl, blkc HBb.out 1 _ rfl, blkc HBb.out 2 _ rfl⟩)
  clear HG0 HBa HBb
  go_region_held3 (fun w' => Grw w w' ∧ w'.cell? ⟨w.heap.size, 0, none⟩ = some (.int .i64 a.i) ∧ w'.cell? ⟨w.heap.size, 1, none⟩ = some (.int .i64 a.y) ∧ w'.cell? ⟨w.heap.size, 2, none⟩ = some (.int .i64 a.at_) ∧ w'.cell? ⟨w.heap.size + 1, 0, none⟩ = some (.int .i64 b.i) ∧ w'.cell? ⟨w.heap.size + 1, 1, none⟩ = some (.int .i64 b.y) ∧ w'.cell? ⟨w.heap.size + 1, 2, none⟩ = some (.int .i64 b.at_))
    (first | with_reducible exact kq6d HS0.out | with_reducible assumption | with_reducible exact kq6d (kq6a HS0.out) | (with_reducible refine kq6a ?_; with_reducible assumption))
    (first
      | ((go_at_call 136); refine (cmp_any _ _ _).mono ?_; rintro e w5 ⟨rfl, rfl⟩)
      | ((go_at_call 137); refine (cmp64_any _ _ _).mono ?_; rintro e w5 ⟨rfl, rfl⟩)
      | ((go_at_call 135); refine (or_any (cmpI a.y b.y) (cmpI a.at_ b.at_) (cmpI a.i b.i) W.heap.size _ ((Fr.drew _ (fun _ => False)).blk (Blk.made W 3 _) (fun h => h))).mono ?_; rintro e w5 ⟨rfl, rfl⟩))
  all_goals
    rename_i hS
    have HE := Lib.hid hS.1
    clear hS
    rw [HCf.out]
    go_wp2_with fail
    go_ret
    exact ⟨rfl, HE.out⟩
end Go.Proofs.YtghcfmoagkimaaaGreatDoor
namespace Go.Proofs.YtghcfmoagkimaaaGreatDoor
open Go.RowKit Go.Mem Go.Lin Go.Xpd

theorem xord_any (a b : FireL) (w : World) : Calls Tryz.prog 123 #[fireV a, fireV b] w fun e w' => e = .returned (intV (cfF a b)) ∧ Fr w w' (fun _ => False) :=
  (order_grw a b w).mono fun _ _ h => ⟨h.1, h.2.fr⟩
theorem results_max (tmps : Array Value) (w : World) (q : Nat) (f : FireL) (hp : tmps.getD 4 undef = .pointer (some ⟨q, 0, none⟩)) (hb : Blk w q 166 (fireC f)) : (results Tryz.f158 tmps).run Tryz.prog w = .ok (fireV f) w :=
  results_cell_row (P := Tryz.prog) (fn := Tryz.f158) (p := 4) (ty := 166) rfl tmps _ q 166 (fireC f) (0, 0) _ hp hb Tryz.underlying166 rfl (infoXF f)
theorem max_step {F : List FireL} {i : Nat} {m x : FireL} (hx : F[i]? = some x) (hm : m ∈ F.take i) (ha : ∀ g ∈ F.take i, ¬ ltF m g) :
    (ltF m x → x ∈ F.take (i + 1) ∧ ∀ g ∈ F.take (i + 1), ¬ ltF x g) ∧ (¬ ltF m x → m ∈ F.take (i + 1) ∧ ∀ g ∈ F.take (i + 1), ¬ ltF m g) := by
  have e : F.take (i + 1) = F.take i ++ [x] := by rw [List.take_add_one, hx]; rfl
  rw [e]
  constructor
  · intro h
    refine ⟨by simp, fun g hg => ?_⟩
    rcases List.mem_append.1 hg with hg | hg
    · exact fun h2 => ha g hg (ltF_trans h h2)
    · rw [show g = x by simpa using hg]; exact ltF_irr x
  · intro h
    refine ⟨by simp [hm], fun g hg => ?_⟩
    rcases List.mem_append.1 hg with hg | hg
    · exact ha g hg
    · rw [show g = x by simpa using hg]; exact h
def MxR (F : List FireL) (w : World) (g : Nat) (v6 : Value) (wr : World) : Prop := ∃ (i : Nat) (m : FireL), v6 = intV i ∧ i + g = F.length ∧ m ∈ F.take i ∧ (∀ g ∈ F.take i, ¬ ltF m g) ∧ Blk wr w.heap.size 166 (fireC f0) ∧ Blk wr (w.heap.size + 1) 166 (fireC m) ∧ Fr w wr (fun _ => False)
set_option maxHeartbeats 3200000 in
set_option maxRecDepth 100000 in
theorem max_any (F : List FireL) (A : Option Addr) (cap : Nat) (w : World) (hF : Rd w 4 A F.length (F.flatMap fireL)) (h0 : 0 < F.length) (hl : F.length ≤ 1000000) :
    Calls Tryz.prog 158 #[.slice A F.length cap, .func (.func 123) #[] #[]] w fun e w' => ∃ m, e = .returned (fireV m) ∧ m ∈ F ∧ (∀ g ∈ F, ¬ ltF m g) ∧ Fr w w' (fun _ => False) := by
  have HR := Lib.hid hF
  obtain ⟨x0, hx0⟩ : ∃ x, F[0]? = some x := ⟨F[0], List.getElem?_eq_getElem h0⟩
  obtain ⟨b, off, hA, hc⟩ := FiresAt.at_ hF hx0
  subst hA
  rw [Nat.zero_mul, Nat.add_zero] at hc
  have hT := Lib.hid (show x0 ∈ F.take 1 ∧ ∀ g ∈ F.take 1, ¬ ltF x0 g by
    have e : F.take 1 = [x0] := by rw [List.take_add_one, hx0]; rfl
    rw [e]
    exact ⟨by simp, fun g hg => by rw [show g = x0 by simpa using hg]; exact ltF_irr _⟩)
  have hl1 : ¬ (F.length : Int) < 1 := by omega
  have hl0 : (0 : Int) < (F.length : Int) := by omega
  have s1 : (w.alloc (.cells (fireC f0) 166)).heap.size = w.heap.size + 1 := by simp
  have n1 := Fr.new w (.cells (fireC f0) 166) (fun _ => False)
  have n2 := Fr.new (w.alloc (.cells (fireC f0) 166)) (.cells (fireC f0) 166) (fun _ => False)
  have b2 := Blk.made (w.alloc (.cells (fireC f0) 166)) 166 (fireC f0)
  rw [s1] at b2
  have HB1 := Lib.hid (n2.blk (Blk.made w 166 (fireC f0)) (fun h => h))
  have HB2 := Lib.hid b2
  have HF2 := Lib.hid (ff4 n1 n2)
  have HC1 := Lib.hid (cells_far n1 hc (Nat.le_refl _) (fun h => h))
  clear s1 n1 n2 b2 hF hx0 hc
  go_enter Tryz.func158, Tryz.ntmps158
  go_wp2_with (first
    | ((with_reducible refine at_load4 166 ?_); refine wpList_load_at 166 _ b off (fireC x0) _ (by rfl) rfl rfl HC1.out Tryz.underlying166 rfl (infoXF _) ?_)
    | ((with_reducible refine at_store4 166 ?_); refine wpList_store_blk 166 _ _ (w.heap.size + 1) 0 166 (fireC f0) (fireC x0) (fireC x0) (by rfl) rfl rfl rfl rfl HB2.out (infoXF _) (fireC_one _) (show 0 + 4 ≤ 4 by decide) (put_fi _ _) ?_
       intro W hf hb
       have HF3 := Lib.hid (HF2.out.fresh hf (fun i e => by have e : i = w.heap.size + 1 := e; omega))
       have HB3 := Lib.hid (hf.blk HB1.out (fun e => by have e : w.heap.size = w.heap.size + 1 := e; omega))
       have HB4 := Lib.hid hb
       clear hf hb HB1 HB2 HF2 HC1))
  go_loopg [6] (F.length - 1) (fun g v6 wr => MxR F w g v6 wr)
  case atStart => exact ⟨1, x0, rfl, by omega, hT.out.1, hT.out.2, HB3.out, HB4.out, HF3.out⟩
  case round =>
    obtain ⟨i, m, rfl, hi, hm, ha, hb0, hb1, hf⟩ := hrel
    have HF := Lib.hid hf
    have HX0 := Lib.hid hb0
    have HX1 := Lib.hid hb1
    by_cases hlt : i < F.length
    · obtain ⟨x, hx⟩ : ∃ x, F[i]? = some x := ⟨F[i], List.getElem?_eq_getElem hlt⟩
      obtain ⟨b', off', hA, hc⟩ := FiresAt.at_ (Rd.fr HR.out hf (fun _ _ _ _ h => h)) hx
      cases hA
      have i1 : (i : Int) < (F.length : Int) := by omega
      have HCx := Lib.hid hc
      obtain ⟨S1, S2⟩ := max_step hx hm ha
      have HS1 := Lib.hid S1
      have HS2 := Lib.hid S2
      have HGt := Lib.hid (cfF_gt (a := x) (b := m))
      obtain ⟨c, hcv⟩ : ∃ c, cfF x m = c := ⟨_, rfl⟩
      have HO := Lib.hid (fun W => xord_any x m W)
      rw [hcv] at HO HGt
      clear hcv S1 S2 hc hx hm ha hb0 hb1 hf
      by_cases hgt : 0 < c
      · have HM := Lib.hid (HS1.out (HGt.out.1 hgt))
        have hgt := hgt
        go_wp2_with fail
        refine wp_region_held_drew (S := fun w' => Fr wr w' (fun _ => False)) (by kernel_rfl) (Fr.drew _ _) (fun hHeld => ?_)
        refine wpAnyH_take (i := 0) (v := ?_) rfl (by kernel_rfl) (by kernel_rfl) (by kernel_rfl) (fun _ _ _ h => h) (Or.inl ⟨by rfl, ?_⟩) (by assumption) ?_
        rotate_left
        · intro w' hSw
          go_simp
          try with_reducible rfl
        try simp only [Act.put, List.setIfInBounds_toArray, List.set_cons_zero, List.set_cons_succ, List.getElem_toArray, List.getElem_cons_zero]
        refine wpAnyH_take (i := 1) (v := ?_) rfl (by kernel_rfl) (by kernel_rfl) (by kernel_rfl) (fun _ _ _ h => h) (Or.inl ⟨by rfl, ?_⟩) (by assumption) ?_
        rotate_left
        · intro w' hSw
          go_simp
          try with_reducible rfl
        try simp only [Act.put, List.setIfInBounds_toArray, List.set_cons_zero, List.set_cons_succ, List.getElem_toArray, List.getElem_cons_succ, List.getElem_cons_zero]
        refine wpAnyH_take (i := 2) (v := ?_) rfl (by kernel_rfl) (by kernel_rfl) (by kernel_rfl) (fun _ _ _ h => h) (Or.inl ⟨by rfl, ?_⟩) (by assumption) ?_
        rotate_left
        · intro w' hSw
          go_simp
          try with_reducible rfl
        try simp only [Act.put, List.setIfInBounds_toArray, List.set_cons_zero, List.set_cons_succ, List.getElem_toArray, List.getElem_cons_succ, List.getElem_cons_zero]
        refine wpAnyH_take (i := 3) (v := ?_) rfl (by kernel_rfl) (by kernel_rfl) (by kernel_rfl) (fun _ _ _ h => h) (Or.inl ⟨by rfl, ?_⟩) (by assumption) ?_
        rotate_left
        · intro w' hSw
          go_simp
          try with_reducible rfl
        try simp only [Act.put, List.setIfInBounds_toArray, List.set_cons_zero, List.set_cons_succ, List.getElem_toArray, List.getElem_cons_succ, List.getElem_cons_zero]
        refine wpAnyH_take (i := 4) (v := _) rfl (by kernel_rfl) (by kernel_rfl) (by kernel_rfl) (fun _ _ _ h => h) ((yields_at 166 _ b (off + i * 4) (fireC x) _ (by rfl) rfl rfl (fun w' hSw => cells_far hSw HCx.out (Nat.le_refl _) (fun h => h)) Tryz.underlying166 rfl (infoXF _))) (by assumption) ?_
        try simp only [Act.put, List.setIfInBounds_toArray, List.set_cons_zero, List.set_cons_succ, List.getElem_toArray, List.getElem_cons_succ, List.getElem_cons_zero]
        refine wpAnyH_take (i := 5) (v := _) rfl (by kernel_rfl) (by kernel_rfl) (by kernel_rfl) (fun _ _ _ h => h) ((yields_blk 166 _ (w.heap.size + 1) 0 166 (fireC m) (fireC m) _ (by rfl) rfl rfl (fun w' hSw => hSw.blk HX1.out (fun h => h)) Tryz.underlying166 rfl (infoXF _) (zero_part _))) (by assumption) ?_
        try simp only [Act.put, List.setIfInBounds_toArray, List.set_cons_zero, List.set_cons_succ, List.getElem_toArray, List.getElem_cons_succ, List.getElem_cons_zero]
        refine wpAnyH_ready (rs := [6]) (by kernel_rfl) (by simp) ?_
        refine AllReadyH.cons rfl (fun K hK => ?_) AllReadyH.nil
        go_simp
        refine (HO.out _).mono ?_
        rintro e w6 ⟨rfl, hf6⟩
        refine hK.out _ _ (ff4 hHeld hf6) (fun hHeld2 => ?_)
        clear hK K hHeld hf6
        rename_i hHeld2
        have hHeld := hHeld2
        clear hHeld2
        try simp only [Act.put, List.setIfInBounds_toArray, List.set_cons_zero, List.set_cons_succ, List.getElem_toArray, List.getElem_cons_succ, List.getElem_cons_zero]
        refine wpAnyH_take (i := 7) (v := ?_) rfl (by kernel_rfl) (by kernel_rfl) (by kernel_rfl) (fun _ _ _ h => h) (Or.inl ⟨by rfl, ?_⟩) (by assumption) ?_
        rotate_left
        · intro w' hSw
          go_simp
          try with_reducible rfl
        try simp only [Act.put, List.setIfInBounds_toArray, List.set_cons_zero, List.set_cons_succ, List.getElem_toArray, List.getElem_cons_succ, List.getElem_cons_zero]
        refine wpAnyH_done (by kernel_rfl) ?_ _
        have HFr := Lib.hid hHeld
        clear hHeld
        go_wp2_with (first
          | ((with_reducible refine at_load4 166 ?_); refine wpList_load_at 166 _ b (off + i * 4) (fireC x) _ (by rfl) rfl rfl (cells_far HFr.out HCx.out (Nat.le_refl _) (fun h => h)) Tryz.underlying166 rfl (infoXF _) ?_)
          | ((with_reducible refine at_store4 166 ?_); refine wpList_store_blk 166 _ _ (w.heap.size + 1) 0 166 (fireC m) (fireC x) (fireC x) (by rfl) rfl rfl rfl rfl (HFr.out.blk HX1.out (fun h => h)) (infoXF _) (fireC_one _) (show 0 + 4 ≤ 4 by decide) (put_fi _ _) ?_
             intro W5 hf5 hb5
             have HF5 := Lib.hid ((ff4 HF.out HFr.out).fresh hf5 (fun i e => by have e : i = w.heap.size + 1 := e; omega))
             have HB5 := Lib.hid (hf5.blk (HFr.out.blk HX0.out (fun h => h)) (fun e => by have e : w.heap.size = w.heap.size + 1 := e; omega))
             have HB6 := Lib.hid hb5
             clear hf5 hb5))
        go_roundg (F.length - (i + 1))
        case measure => omega
        case rel => exact ⟨i + 1, x, by go_num, by omega, HM.out.1, HM.out.2, HB5.out, HB6.out, HF5.out⟩
      · have HM := Lib.hid (HS2.out (fun h => hgt (HGt.out.2 h)))
        go_wp2_with fail
        refine wp_region_held_drew (S := fun w' => Fr wr w' (fun _ => False)) (by kernel_rfl) (Fr.drew _ _) (fun hHeld => ?_)
        refine wpAnyH_take (i := 0) (v := ?_) rfl (by kernel_rfl) (by kernel_rfl) (by kernel_rfl) (fun _ _ _ h => h) (Or.inl ⟨by rfl, ?_⟩) (by assumption) ?_
        rotate_left
        · intro w' hSw
          go_simp
          try with_reducible rfl
        try simp only [Act.put, List.setIfInBounds_toArray, List.set_cons_zero, List.set_cons_succ, List.getElem_toArray, List.getElem_cons_zero]
        refine wpAnyH_take (i := 1) (v := ?_) rfl (by kernel_rfl) (by kernel_rfl) (by kernel_rfl) (fun _ _ _ h => h) (Or.inl ⟨by rfl, ?_⟩) (by assumption) ?_
        rotate_left
        · intro w' hSw
          go_simp
          try with_reducible rfl
        try simp only [Act.put, List.setIfInBounds_toArray, List.set_cons_zero, List.set_cons_succ, List.getElem_toArray, List.getElem_cons_succ, List.getElem_cons_zero]
        refine wpAnyH_take (i := 2) (v := ?_) rfl (by kernel_rfl) (by kernel_rfl) (by kernel_rfl) (fun _ _ _ h => h) (Or.inl ⟨by rfl, ?_⟩) (by assumption) ?_
        rotate_left
        · intro w' hSw
          go_simp
          try with_reducible rfl
        try simp only [Act.put, List.setIfInBounds_toArray, List.set_cons_zero, List.set_cons_succ, List.getElem_toArray, List.getElem_cons_succ, List.getElem_cons_zero]
        refine wpAnyH_take (i := 3) (v := ?_) rfl (by kernel_rfl) (by kernel_rfl) (by kernel_rfl) (fun _ _ _ h => h) (Or.inl ⟨by rfl, ?_⟩) (by assumption) ?_
        rotate_left
        · intro w' hSw
          go_simp
          try with_reducible rfl
        try simp only [Act.put, List.setIfInBounds_toArray, List.set_cons_zero, List.set_cons_succ, List.getElem_toArray, List.getElem_cons_succ, List.getElem_cons_zero]
        refine wpAnyH_take (i := 4) (v := _) rfl (by kernel_rfl) (by kernel_rfl) (by kernel_rfl) (fun _ _ _ h => h) ((yields_at 166 _ b (off + i * 4) (fireC x) _ (by rfl) rfl rfl (fun w' hSw => cells_far hSw HCx.out (Nat.le_refl _) (fun h => h)) Tryz.underlying166 rfl (infoXF _))) (by assumption) ?_
        try simp only [Act.put, List.setIfInBounds_toArray, List.set_cons_zero, List.set_cons_succ, List.getElem_toArray, List.getElem_cons_succ, List.getElem_cons_zero]
        refine wpAnyH_take (i := 5) (v := _) rfl (by kernel_rfl) (by kernel_rfl) (by kernel_rfl) (fun _ _ _ h => h) ((yields_blk 166 _ (w.heap.size + 1) 0 166 (fireC m) (fireC m) _ (by rfl) rfl rfl (fun w' hSw => hSw.blk HX1.out (fun h => h)) Tryz.underlying166 rfl (infoXF _) (zero_part _))) (by assumption) ?_
        try simp only [Act.put, List.setIfInBounds_toArray, List.set_cons_zero, List.set_cons_succ, List.getElem_toArray, List.getElem_cons_succ, List.getElem_cons_zero]
        refine wpAnyH_ready (rs := [6]) (by kernel_rfl) (by simp) ?_
        refine AllReadyH.cons rfl (fun K hK => ?_) AllReadyH.nil
        go_simp
        refine (HO.out _).mono ?_
        rintro e w6 ⟨rfl, hf6⟩
        refine hK.out _ _ (ff4 hHeld hf6) (fun hHeld2 => ?_)
        clear hK K hHeld hf6
        rename_i hHeld2
        have hHeld := hHeld2
        clear hHeld2
        try simp only [Act.put, List.setIfInBounds_toArray, List.set_cons_zero, List.set_cons_succ, List.getElem_toArray, List.getElem_cons_succ, List.getElem_cons_zero]
        refine wpAnyH_take (i := 7) (v := ?_) rfl (by kernel_rfl) (by kernel_rfl) (by kernel_rfl) (fun _ _ _ h => h) (Or.inl ⟨by rfl, ?_⟩) (by assumption) ?_
        rotate_left
        · intro w' hSw
          go_simp
          try with_reducible rfl
        try simp only [Act.put, List.setIfInBounds_toArray, List.set_cons_zero, List.set_cons_succ, List.getElem_toArray, List.getElem_cons_succ, List.getElem_cons_zero]
        refine wpAnyH_done (by kernel_rfl) ?_ _
        have HFr := Lib.hid hHeld
        clear hHeld
        go_wp2_with fail
        go_roundg (F.length - (i + 1))
        case measure => omega
        case rel => exact ⟨i + 1, m, by go_num, by omega, HM.out.1, HM.out.2, HFr.out.blk HX0.out (fun h => h), HFr.out.blk HX1.out (fun h => h), ff4 HF.out HFr.out⟩
    · obtain rfl : i = F.length := by omega
      rw [List.take_length] at hm ha
      have HM := Lib.hid hm
      have HAl := Lib.hid ha
      clear hm ha hb0 hb1 hf
      go_wp2_with (first
        | ((with_reducible refine at_load4 166 ?_); refine wpList_load_blk 166 _ (w.heap.size + 1) 0 166 (fireC m) (fireC m) _ (by rfl) rfl rfl HX1.out Tryz.underlying166 rfl (infoXF _) (zero_part _) ?_)
        | ((with_reducible refine at_store4 166 ?_); refine wpList_store_blk 166 _ _ w.heap.size 0 166 (fireC f0) (fireC m) (fireC m) (by rfl) rfl rfl rfl rfl HX0.out (infoXF _) (fireC_one _) (show 0 + 4 ≤ 4 by decide) (put_fi _ _) ?_
           intro W5 hf5 hb5
           have HF5 := Lib.hid (HF.out.fresh hf5 (fun i e => by have e : i = w.heap.size := e; omega))
           have HB5 := Lib.hid hb5
           clear hf5 hb5))
      exact bodyPost_ret (results_max _ _ w.heap.size m rfl HB5.out) rfl ⟨m, rfl, HM.out, HAl.out, HF5.out⟩
end Go.Proofs.YtghcfmoagkimaaaGreatDoor
namespace Go.Proofs.YtghcfmoagkimaaaGreatDoor
open Go.RowKit Go.Mem Go.Lin Go.Xpd

theorem near_none {r : RuleL} {p y : Int} {n : Nat} (h : fireR r p y = none) : nearD r p y (-1) (n + 1) = nearD r p (y + -1) (-1) n := by
  show (match fireR r p y with | some f => some f | none => nearD r p (y + -1) (-1) n) = _
  rw [h]
theorem near_some {r : RuleL} {p y : Int} {n : Nat} {f : FireL} (h : fireR r p y = some f) : nearD r p y (-1) (n + 1) = some f := by
  show (match fireR r p y with | some f => some f | none => nearD r p (y + -1) (-1) n) = _
  rw [h]
set_option maxHeartbeats 3200000 in
set_option maxRecDepth 100000 in
theorem near_any (r : RuleL) (p : Int) (F : List FireL) (v : Value) (y : Int) (w0 w : World) (hw : S6.WOk w0) (hf : Fr w0 w (fun _ => False)) (ho : XFires w w0.heap.size v F) (hF : F.length ≤ 20000) (hs : -700000 ≤ r.at_.s ∧ r.at_.s ≤ 700000)
    (hy : -30000 ≤ y ∧ y ≤ 30000) :
    Calls Tryz.prog 119 #[v, seatM r p, intV y, intV (-1)] w fun e w' => ∃ v', e = .returned v' ∧ XFires w' w0.heap.size v' (F ++ (nearD r p y (-1) 8).toList) ∧ TF w0 w w' := by
  have HWk := Lib.hid hw
  have HSe := Lib.hid hs
  have HF0 := Lib.hid hf
  obtain ⟨A0, c0, rfl⟩ := ho.slice
  have HO0 := Lib.hid ho
  obtain ⟨R, hR⟩ : ∃ R, nearD r p y (-1) 8 = R := ⟨_, rfl⟩
  have HR := Lib.hid hR
  rw [hR]
  clear hf ho hw hs hR
  go_enter Tryz.func119, Tryz.ntmps119
  go_wp2_with fail
  go_loopg [2, 9, 10, 11] 8 (fun g v2 _ _ v11 wr => ∃ i : Nat, i + g = 8 ∧ v11 = intV i ∧ v2 = intV (y - i) ∧ R = nearD r p (y - i) (-1) g ∧ XFires wr w0.heap.size (.slice A0 F.length c0) F ∧ Fr w wr (fun _ => False))
  case atStart => exact ⟨0, rfl, rfl, by rw [show y - ((0 : Nat) : Int) = y by omega], by rw [show y - ((0 : Nat) : Int) = y by omega, HR.out], HO0.out, Fr.refl _ _⟩
  case round =>
    obtain ⟨i, hi, rfl, rfl, hn, ho, hf⟩ := hrel
    obtain ⟨G, hGk⟩ : ∃ G, gk = G := ⟨_, rfl⟩
    rw [hGk] at hi hn
    have HT := Lib.hid hf
    have HF := Lib.hid (ff4 HF0.out hf)
    have HO := Lib.hid ho
    obtain ⟨x, hxv⟩ : ∃ x : Int, y - i = x := ⟨_, rfl⟩
    have HXv := Lib.hid hxv
    have hx1 : -30008 ≤ x ∧ x ≤ 30000 := by omega
    rw [hxv] at hn ⊢
    have HN := Lib.hid hn
    clear hf ho hxv hn
    cases G with
    | zero =>
      obtain rfl : i = 8 := by omega
      have HE := Lib.hid (show F ++ R.toList = F by rw [HN.out]; exact List.append_nil _)
      go_wp2_with fail
      go_ret
      exact ⟨_, rfl, by rw [HE.out]; exact HO.out, tf_of HT.out⟩
    | succ G =>
      have hi8 : (i : Int) < 8 := by omega
      cases ho : fireR r p x with
      | none =>
        have HQ := Lib.hid (fire_none ho wr (HWk.out.fr HF.out) HSe.out)
        have HN2 := Lib.hid (show R = nearD r p (x + -1) (-1) G by rw [HN.out, near_none ho])
        clear ho
        go_wp2_with fail
        refine HQ.out.mono ?_
        rintro e w2 ⟨rfl, hf2⟩
        have HF2 := Lib.hid hf2
        have HO2 := Lib.hid (HO.out.kept hf2)
        have n2 := Fr.new w2 (.cells #[.int .i64 0, .int .i64 0, .int .i64 0, .int .i64 0] 166) (fun _ => False)
        have HF3 := Lib.hid (ff4 HF2.out n2)
        have HO3 := Lib.hid (HO2.out.kept n2)
        have HB := Lib.hid (show Blk _ w2.heap.size 166 (fireC f0) from Blk.made w2 166 (fireC f0))
        clear hf2 n2
        go_wp2_with (
          ((with_reducible refine at_store4 166 ?_); refine wpList_store_blk 166 _ _ w2.heap.size 0 166 (fireC f0) (fireC f0) (fireC f0) (by rfl) rfl rfl rfl rfl HB.out (infoXF _) (fireC_one _) (show 0 + 4 ≤ 4 by decide) (put_fi _ _) ?_
           intro W3 hf3 hb3
           have HF4 := Lib.hid (HF3.out.fresh hf3 (fun i e => by have e : i = w2.heap.size := e; have := HF2.out.size; omega))
           have HO4 := Lib.hid (show XFires W3 w0.heap.size _ F from HO3.out.fr hf3 (fun g hg e => by have e : g = w2.heap.size := e; have := (own_block HO2.out hg).2.1; omega))
           clear hf3 hb3))
        go_roundg G
        case measure => omega
        case rel =>
          have hxv := HXv.out
          have e1 : y - ((i + 1 : Nat) : Int) = x + -1 := by omega
          exact ⟨i + 1, by omega, by go_num, by rw [e1], by rw [e1, HN2.out], HO4.out, ff4 HT.out HF4.out⟩
      | some f =>
        have HQ := Lib.hid (fire_some ho wr (HWk.out.fr HF.out) HSe.out)
        have HN2 := Lib.hid (show F ++ R.toList = F ++ [f] by rw [HN.out, near_some ho]; rfl)
        clear ho
        go_wp2_with fail
        refine HQ.out.mono ?_
        rintro e w2 ⟨rfl, hf2⟩
        have HF2 := Lib.hid hf2
        have HO2 := Lib.hid (HO.out.kept hf2)
        have n2 := Fr.new w2 (.cells #[.int .i64 0, .int .i64 0, .int .i64 0, .int .i64 0] 166) (fun _ => False)
        have HF3 := Lib.hid (ff4 HF2.out n2)
        have HO3 := Lib.hid (HO2.out.kept n2)
        have HB := Lib.hid (show Blk _ w2.heap.size 166 (fireC f0) from Blk.made w2 166 (fireC f0))
        clear hf2 n2
        go_wp2_with (first
          | ((with_reducible refine at_store4 166 ?_); refine wpList_store_blk 166 _ _ w2.heap.size 0 166 (fireC f0) (fireC f) (fireC f) (by rfl) rfl rfl rfl rfl HB.out (infoXF _) (fireC_one _) (show 0 + 4 ≤ 4 by decide) (put_fi _ _) ?_
             intro W3 hf3 hb3
             have HF4 := Lib.hid (HF3.out.fresh hf3 (fun i e => by have e : i = w2.heap.size := e; have := HF2.out.size; omega))
             have HO4 := Lib.hid (show XFires W3 w0.heap.size _ F from HO3.out.fr hf3 (fun g hg e => by have e : g = w2.heap.size := e; have := (own_block HO2.out hg).2.1; omega))
             have HB4 := Lib.hid hb3
             clear hf3 hb3)
          | ((with_reducible refine at_load4 166 ?_); refine wpList_load_blk 166 _ w2.heap.size 0 166 (fireC f) (fireC f) _ (by rfl) rfl rfl HB4.out Tryz.underlying166 rfl (infoXF _) (zero_part _) ?_)
          | ((with_reducible refine at_slice4 (y := .tmp 21) 165 ?_); refine wpList_made (t := 165) (e := 166) (y := .tmp 21) (v := fireV f) (fireC f) (by rfl) rfl rfl (fun _ => by kernel_rfl) ?_
             intro Wm hfm hsm hbm hrm
             have HFm := Lib.hid (ff4 HF4.out hfm)
             have HOm := Lib.hid (HO4.out.kept hfm)
             have HRm := Lib.hid hrm
             clear hfm hsm hbm hrm)
          | ((with_reducible refine at_append4 (.tmp 20) (.tmp 22) ?_); refine wpList_append1 (f := fireL) (.tmp 20) (.tmp 22) 165 rfl rfl w0.heap.size 166 _ 4 32 Tryz.underlying165 info_xfire rfl (by decide) _ rfl HOm.out _ 1 f (fireC f).toList rfl HRm.out rfl (one_made (fireC_one f)) (by omega) (by decide) (Nat.le_trans HF.out.size HFm.out.size) ?_
             intro A2 c2 Wp hop hfp
             have HTp := Lib.hid (tf_trans (tf_of (ff4 HT.out HFm.out)) (tb_own HOm.out hfp))
             have HOp := Lib.hid hop
             clear hop hfp))
        go_ret
        refine ⟨_, rfl, ?_, HTp.out⟩
        rw [HN2.out]
        show Own _ _ _ _ _ _ (F ++ [f])
        exact HOp.out
end Go.Proofs.YtghcfmoagkimaaaGreatDoor
