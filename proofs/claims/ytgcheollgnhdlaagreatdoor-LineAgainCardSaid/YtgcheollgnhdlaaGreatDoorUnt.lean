import Derived.Test.YtgcheollgnhdlaaGreatDoorUnc
import Derived.Deep.LoopGhost
import Derived.Laws.EntriesVeiled
namespace Go.Proofs.YtgcheollgnhdlaaGreatDoor
open Go.RowKit Go.Mem Go.Lin

theorem res_only {w : World} {q : Nat} {v : UntilL} (hb : Blk w q 29 (tilC v)) (tmps : Array Value) (hp : tmps.getD 2 undef = .pointer (some ⟨q, 0, none⟩)) : (results Tryz.f59 tmps).run Tryz.prog w = .ok (.agg (tilC v)) w :=
  results_cell_row (P := Tryz.prog) (fn := Tryz.f59) (p := 2) (ty := 29) rfl tmps _ q 29 (tilC v) (0, 0) _ hp hb Tryz.underlying29 rfl (infoT v)
theorem res_until {w : World} {q : Nat} {v : UntilL} (hb : Blk w q 29 (tilC v)) (tmps : Array Value) (hp : tmps.getD 2 undef = .pointer (some ⟨q, 0, none⟩)) : (results Tryz.f79 tmps).run Tryz.prog w = .ok (.agg (tilC v)) w :=
  results_cell_row (P := Tryz.prog) (fn := Tryz.f79) (p := 2) (ty := 29) rfl tmps _ q 29 (tilC v) (0, 0) _ hp hb Tryz.underlying29 rfl (infoT v)
set_option maxRecDepth 100000 in
set_option maxHeartbeats 1600000 in
theorem onlyYear_any (y : Int) (w : World) : Calls Tryz.prog 59 #[intV y] w fun e w' => e = .returned (.agg (tilC ⟨true, y, 1, day1, atZ⟩)) ∧ Fr w w' (fun _ => False) := by
  go_enter Tryz.func59, Tryz.ntmps59
  go_wp2_with (
      refine wpList_store_blk 29 _ _ w.heap.size 0 29 (tilC tilZ) (tilC ⟨true, y, 1, day1, atZ⟩) (tilC ⟨true, y, 1, day1, atZ⟩) (by rfl) rfl rfl rfl rfl (Blk.made w 29 (tilC tilZ)) (infoT _) (tilC_one _) (show 0 + 8 ≤ 8 by decide) (put_ua _ _) ?_
      intro w3 hf3 hb3
      have HF3 := Lib.hid ((Fr.new w _ (fun _ => False)).fresh hf3 (fun i e => by omega))
      have HB3 := Lib.hid hb3
      clear hf3 hb3)
  (try simp only [Exit.inBlock, Exit.then])
  exact bodyPost_ret (res_only HB3.out _ rfl) rfl ⟨rfl, HF3.out⟩
def untilX (f : List Bs) (a : Nat) : Except Er UntilL := if a < f.length then untilP f a else .ok tilZ
theorem fr_bu {a c d : World} {b u : Nat} (h : Fr a c (· = b)) (h2 : Fr c d (fun i => i = b ∨ i = u)) (hu : a.heap.size ≤ u) : Fr a d (· = b) := h.trans h2 (fun _ _ h => h) (fun i hi x => x.elim id (fun e => by omega))
theorem info_arr4 : (Tryz.prog.info? 139).map (·.size) = some 4 := by kernel_rfl
abbrev ptrV (b : Nat) : Value := .pointer (some ⟨b, 0, none⟩)
abbrev cloV (k q u : Nat) : Value := .func (.func k) #[] #[ptrV q, ptrV u]
set_option maxRecDepth 100000 in
set_option maxHeartbeats 3200000 in
theorem until_none (_fs : List FPair) (_w0 w : World) (b g : Nat) (h : LeftAt w b g []) (_hg : g < w.heap.size) :
    Calls Tryz.prog 79 #[ptrV b] w fun e w' => e = .returned (.agg (tilC tilZ)) ∧ LeftAt w' b g [] ∧ Fr w w' (fun _ => False) := by
  have hbs := h.lt
  have hf1 := Fr.new w (.cells #[ptrV b] 63) (fun _ => False)
  have hf2 := Fr.new (w.alloc (.cells #[ptrV b] 63)) (.cells #[.bool false, intV 0, intV 0, intV 0, intV 0, intV 0, intV 0, intV 0] 29) (fun _ => False)
  have hsz : (w.alloc (.cells #[ptrV b] 63)).heap.size = w.heap.size + 1 := by simp
  have hb2 := Blk.made (w.alloc (.cells #[ptrV b] 63)) 29 #[.bool false, intV 0, intV 0, intV 0, intV 0, intV 0, intV 0, intV 0]
  rw [hsz] at hb2
  have HZ := Lib.hid (show Blk _ (w.heap.size + 1) 29 (tilC tilZ) from hb2)
  have HQ := Lib.hid (hf2.blk (Blk.made w 63 #[ptrV b]) (fun h => h))
  have HF := Lib.hid (ff hf1 hf2)
  obtain ⟨A, c, hb, -, -, -⟩ := h.fr HF.out (fun h => h) (fun h => h)
  have d0 := blk_cell hb 0 _ rfl
  simp only [List.length_nil] at d0
  have HL := Lib.hid h
  clear hf1 hf2 hb2 hsz hb h
  go_enter Tryz.func79, Tryz.ntmps79
  go_wp2_with (
      refine wpList_store_blk 29 _ _ (w.heap.size + 1) 0 29 (tilC tilZ) (tilC tilZ) (tilC tilZ) (by rfl) rfl rfl rfl rfl HZ.out (infoT _) (tilC_one _) (show 0 + 8 ≤ 8 by decide) (put_ua _ _) ?_
      intro w3 hf3 hb3
      have HF3 := Lib.hid (HF.out.fresh hf3 (fun i e => by omega))
      have HB3 := Lib.hid hb3
      clear hf3 hb3)
  (try simp only [Exit.inBlock, Exit.then])
  exact bodyPost_ret (res_until HB3.out _ rfl) rfl ⟨rfl, HL.out.fr HF3.out (fun h => h) (fun h => h), HF3.out⟩
set_option maxRecDepth 100000 in
set_option maxHeartbeats 6400000 in
theorem until_some (fs : List FPair) (hz : ∀ x ∈ fs, x.1.length ≤ 100000) (a n : Nat) (hn : a + n = fs.length) (h1 : 1 ≤ n) (h4 : n ≤ 4) (w0 w : World) (b g : Nat) (ho : Ok w0 w b g) (h : LeftAt w b g (fs.drop a)) (hgs : g < w.heap.size) :
    Calls Tryz.prog 79 #[ptrV b] w (Ran fs g b fs.length (restP (fs.map (·.1)) a n 0 tilU0) tilV w) := by
  obtain ⟨R, hR⟩ : ∃ R, restP (fs.map (·.1)) a n 0 tilU0 = R := ⟨_, rfl⟩
  rw [hR]
  have HR := Lib.hid hR
  have hbs := h.lt
  have hf1 := Fr.new w (.cells #[ptrV b] 63) (fun _ => False)
  have hf2 := Fr.new (w.alloc (.cells #[ptrV b] 63)) (.cells #[.bool false, intV 0, intV 0, intV 0, intV 0, intV 0, intV 0, intV 0] 29) (fun _ => False)
  have hsz : (w.alloc (.cells #[ptrV b] 63)).heap.size = w.heap.size + 1 := by simp
  have hb2 := Blk.made (w.alloc (.cells #[ptrV b] 63)) 29 #[.bool false, intV 0, intV 0, intV 0, intV 0, intV 0, intV 0, intV 0]
  rw [hsz] at hb2
  have HZ := Lib.hid (show Blk _ (w.heap.size + 1) 29 (tilC tilZ) from hb2)
  have HQ := Lib.hid (hf2.blk (Blk.made w 63 #[ptrV b]) (fun h => h))
  have HF := Lib.hid (ff hf1 hf2)
  obtain ⟨A, c, hb, -, -, -⟩ := h.fr HF.out (fun h => h) (fun h => h)
  have d0 := blk_cell hb 0 _ rfl
  rw [show (fs.drop a).length = n by rw [List.length_drop]; omega] at d0 hb
  have HB := Lib.hid hb
  have HL := Lib.hid (h.fr HF.out (fun h => h) (fun h => h))
  have HO := Lib.hid ho
  have HY := Lib.hid (fun W => onlyYear_any 0 W)
  have n0 : ((n : Int) == 0) = false := by simp; omega
  have n4 : (n : Int) ≤ 4 := by omega
  have n1 : (0 : Int) ≤ (n : Int) := by omega
  clear hR hf1 hf2 hb2 hsz hb h ho
  go_enter Tryz.func79, Tryz.ntmps79
  go_wp2_with fail
  refine (HY.out _).mono ?_
  rintro e w2 ⟨rfl, hf2⟩
  have hs2 := hf2.size
  simp at hs2
  have HB2 := Lib.hid (hf2.blk HB.out (fun h => h))
  have HZ2 := Lib.hid (hf2.blk HZ.out (fun h => h))
  have HQ2 := Lib.hid (hf2.blk HQ.out (fun h => h))
  have HL2 := Lib.hid (HL.out.fr hf2 (fun h => h) (fun h => h))
  have HF2 := Lib.hid (ff HF.out hf2)
  clear hf2 HB HZ HQ HL HF HY d0
  go_wp2_with (
      refine wpList_store_blk 29 _ _ w2.heap.size 0 29 (tilC tilZ) (tilC tilU0) (tilC tilU0) (by rfl) rfl rfl rfl rfl (Blk.made w2 29 (tilC tilZ)) (infoT _) (tilC_one _) (show 0 + 8 ≤ 8 by decide) (put_ua _ _) ?_
      intro w3 hf3 hb3
      have hf23 := (Fr.new w2 (.cells (tilC tilZ) 29) (fun _ => False)).fresh hf3 (fun i e => by omega)
      have hs3 : w2.heap.size + 1 ≤ w3.heap.size := by have := hf3.size; simp at this; exact this
      have hfa := Fr.new w3 (.cells #[cloV 110 w.heap.size w2.heap.size, cloV 111 w.heap.size w2.heap.size, cloV 112 w.heap.size w2.heap.size, cloV 113 w.heap.size w2.heap.size] 139) (fun _ => False)
      have d3 := blk_cell (hfa.blk (hf23.blk HB2.out (fun h => h)) (fun h => h)) 0 _ rfl
      have q3 := blk_cell (hfa.blk (hf23.blk HQ2.out (fun h => h)) (fun h => h)) 0 _ rfl
      have HQ4 := Lib.hid (hfa.blk (hf23.blk HQ2.out (fun h => h)) (fun h => h))
      have HZ4 := Lib.hid (hfa.blk (hf23.blk HZ2.out (fun h => h)) (fun h => h))
      have HU4 := Lib.hid (hfa.blk hb3 (fun h => h))
      have HL4 := Lib.hid ((HL2.out.fr hf23 (fun h => h) (fun h => h)).fr hfa (fun h => h) (fun h => h))
      have HF4 := Lib.hid (ff (ff HF2.out hf23) hfa)
      have HA3 := Lib.hid (Blk.made w3 139 #[cloV 110 w.heap.size w2.heap.size, cloV 111 w.heap.size w2.heap.size, cloV 112 w.heap.size w2.heap.size, cloV 113 w.heap.size w2.heap.size])
      clear hf3 hb3 hf23 hfa HB2 HZ2 HQ2 HL2 HF2)
  go_loopg [6, 27] n (fun k _ v27 wr => ∃ (j : Nat) (U : UntilL), j + k = n ∧ v27 = .int .i64 (j : Int) ∧ restP (fs.map (·.1)) a k j U = R ∧ Blk wr w2.heap.size 29 (tilC U) ∧ LeftAt wr b g (fs.drop (a + j)) ∧ Blk wr w3.heap.size 139 #[cloV 110 w.heap.size w2.heap.size, cloV 111 w.heap.size w2.heap.size, cloV 112 w.heap.size w2.heap.size, cloV 113 w.heap.size w2.heap.size] ∧ Blk wr w.heap.size 63 #[ptrV b] ∧ Blk wr (w.heap.size + 1) 29 (tilC tilZ) ∧ Fr w wr (· = b))
  case atStart => exact ⟨0, tilU0, by omega, rfl, HR.out, HU4.out, HL4.out, HA3.out, HQ4.out, HZ4.out, fr_b HF4.out⟩
  case round =>
    obtain ⟨j, U, hj, rfl, hr, hu, hl, ha, hq, hzz, hf⟩ := hrel
    have HU := Lib.hid hu
    have HL := Lib.hid hl
    have HA := Lib.hid ha
    have HQ := Lib.hid hq
    have HZ := Lib.hid hzz
    have HF := Lib.hid hf
    have HR1 := Lib.hid hr
    have ho := Ok.on HO.out hf
    have HO1 := Lib.hid ho
    clear hu hl ha hq hzz hf hr ho HR d3 q3 HQ4 HZ4 HU4 HL4 HF4 HA3 HO
    by_cases hlt : j < n
    · obtain ⟨k', rfl⟩ : ∃ k', gk = k' + 1 := ⟨gk - 1, by omega⟩
      have hj4 : j = 0 ∨ j = 1 ∨ j = 2 ∨ j = 3 := by omega
      have i0 : (j : Int) < (n : Int) := by omega
      rcases hj4 with rfl | rfl | rfl | rfl
      · have a0 := blk_cell HA.out 0 _ rfl
        have hr := HR1.out
        rw [restP] at hr
        have HC := Lib.hid (until1_any fs hz a (by omega) U w0 wr b g w.heap.size w2.heap.size HO1.out HL.out (blk_cell HQ.out 0 _ rfl) HU.out (by omega) (by omega))
        obtain ⟨S, hS⟩ : ∃ S, stepP (fs.map (·.1)) a 0 U = S := ⟨_, rfl⟩
        rw [hS] at hr HC
        clear hS HR1
        cases S with
        | error x =>
          have hr : Except.error x = R := hr
          subst hr
          go_wp2_with fail
          refine HC.out.mono ?_
          rintro e w5 ⟨rfl, hf5⟩
          have HF5 := Lib.hid hf5
          clear hf5
          go_wp2_with fail
          exact ⟨rfl, rfl, fr_bu HF.out HF5.out (by omega)⟩
        | ok V =>
          have HV := Lib.hid (show restP (fs.map (·.1)) a k' 1 V = R from hr)
          clear hr
          go_wp2_with fail
          refine HC.out.mono ?_
          rintro e w5 ⟨rfl, hb5, hl5, hf5⟩
          have HB5 := Lib.hid hb5
          have HL5 := Lib.hid hl5
          have HF5 := Lib.hid hf5
          clear hb5 hl5 hf5
          go_wp2_with fail
          go_roundg k'
          case measure => omega
          case rel => exact ⟨1, V, by omega, by first | rfl | go_num, HV.out, HB5.out, HL5.out, HF5.out.blk HA.out (by omega), HF5.out.blk HQ.out (by omega), HF5.out.blk HZ.out (by omega), fr_bu HF.out HF5.out (by omega)⟩
      · have a0 := blk_cell HA.out 1 _ rfl
        have hr := HR1.out
        rw [restP] at hr
        have HC := Lib.hid (until2_any fs hz a (by omega) U w0 wr b g w.heap.size w2.heap.size HO1.out HL.out (blk_cell HQ.out 0 _ rfl) HU.out (by omega) (by omega))
        obtain ⟨S, hS⟩ : ∃ S, stepP (fs.map (·.1)) a 1 U = S := ⟨_, rfl⟩
        rw [hS] at hr HC
        clear hS HR1
        cases S with
        | error x =>
          have hr : Except.error x = R := hr
          subst hr
          go_wp2_with fail
          refine HC.out.mono ?_
          rintro e w5 ⟨rfl, hf5⟩
          have HF5 := Lib.hid hf5
          clear hf5
          go_wp2_with fail
          exact ⟨rfl, rfl, fr_bu HF.out HF5.out (by omega)⟩
        | ok V =>
          have HV := Lib.hid (show restP (fs.map (·.1)) a k' 2 V = R from hr)
          clear hr
          go_wp2_with fail
          refine HC.out.mono ?_
          rintro e w5 ⟨rfl, hb5, hl5, hf5⟩
          have HB5 := Lib.hid hb5
          have HL5 := Lib.hid hl5
          have HF5 := Lib.hid hf5
          clear hb5 hl5 hf5
          go_wp2_with fail
          go_roundg k'
          case measure => omega
          case rel => exact ⟨2, V, by omega, by first | rfl | go_num, HV.out, HB5.out, HL5.out, HF5.out.blk HA.out (by omega), HF5.out.blk HQ.out (by omega), HF5.out.blk HZ.out (by omega), fr_bu HF.out HF5.out (by omega)⟩
      · have a0 := blk_cell HA.out 2 _ rfl
        have hr := HR1.out
        rw [restP] at hr
        have HC := Lib.hid (until3_any fs hz a (by omega) U w0 wr b g w.heap.size w2.heap.size HO1.out HL.out (blk_cell HQ.out 0 _ rfl) HU.out (by omega) (by omega))
        obtain ⟨S, hS⟩ : ∃ S, stepP (fs.map (·.1)) a 2 U = S := ⟨_, rfl⟩
        rw [hS] at hr HC
        clear hS HR1
        cases S with
        | error x =>
          have hr : Except.error x = R := hr
          subst hr
          go_wp2_with fail
          refine HC.out.mono ?_
          rintro e w5 ⟨rfl, hf5⟩
          have HF5 := Lib.hid hf5
          clear hf5
          go_wp2_with fail
          exact ⟨rfl, rfl, fr_bu HF.out HF5.out (by omega)⟩
        | ok V =>
          have HV := Lib.hid (show restP (fs.map (·.1)) a k' 3 V = R from hr)
          clear hr
          go_wp2_with fail
          refine HC.out.mono ?_
          rintro e w5 ⟨rfl, hb5, hl5, hf5⟩
          have HB5 := Lib.hid hb5
          have HL5 := Lib.hid hl5
          have HF5 := Lib.hid hf5
          clear hb5 hl5 hf5
          go_wp2_with fail
          go_roundg k'
          case measure => omega
          case rel => exact ⟨3, V, by omega, by first | rfl | go_num, HV.out, HB5.out, HL5.out, HF5.out.blk HA.out (by omega), HF5.out.blk HQ.out (by omega), HF5.out.blk HZ.out (by omega), fr_bu HF.out HF5.out (by omega)⟩
      · have a0 := blk_cell HA.out 3 _ rfl
        have hr := HR1.out
        rw [restP] at hr
        have HC := Lib.hid (until4_any fs hz a (by omega) U w0 wr b g w.heap.size w2.heap.size HO1.out HL.out (blk_cell HQ.out 0 _ rfl) HU.out (by omega) (by omega))
        obtain ⟨S, hS⟩ : ∃ S, stepP (fs.map (·.1)) a 3 U = S := ⟨_, rfl⟩
        rw [hS] at hr HC
        clear hS HR1
        cases S with
        | error x =>
          have hr : Except.error x = R := hr
          subst hr
          go_wp2_with fail
          refine HC.out.mono ?_
          rintro e w5 ⟨rfl, hf5⟩
          have HF5 := Lib.hid hf5
          clear hf5
          go_wp2_with fail
          exact ⟨rfl, rfl, fr_bu HF.out HF5.out (by omega)⟩
        | ok V =>
          have HV := Lib.hid (show restP (fs.map (·.1)) a k' 4 V = R from hr)
          clear hr
          go_wp2_with fail
          refine HC.out.mono ?_
          rintro e w5 ⟨rfl, hb5, hl5, hf5⟩
          have HB5 := Lib.hid hb5
          have HL5 := Lib.hid hl5
          have HF5 := Lib.hid hf5
          clear hb5 hl5 hf5
          go_wp2_with fail
          go_roundg k'
          case measure => omega
          case rel => exact ⟨4, V, by omega, by first | rfl | go_num, HV.out, HB5.out, HL5.out, HF5.out.blk HA.out (by omega), HF5.out.blk HQ.out (by omega), HF5.out.blk HZ.out (by omega), fr_bu HF.out HF5.out (by omega)⟩
    · obtain rfl : j = n := by omega
      obtain rfl : gk = 0 := by omega
      have hr : Except.ok U = R := HR1.out
      subst hr
      clear HR1
      go_wp2_with (first
        | (refine wpList_load_blk 29 _ w2.heap.size 0 29 (tilC U) (tilC U) _ (by rfl) rfl rfl HU.out Tryz.underlying29 rfl (infoT _) (zero_part _) ?_)
        | (
          refine wpList_store_blk 29 _ _ (w.heap.size + 1) 0 29 (tilC tilZ) (tilC U) (tilC U) (by rfl) rfl rfl rfl rfl HZ.out (infoT _) (tilC_one _) (show 0 + 8 ≤ 8 by decide) (put_ua _ _) ?_
          intro w6 hf6 hb6
          have HB6 := Lib.hid hb6
          have HF6 := Lib.hid (fr_more HF.out hf6 (fun i e => by omega))
          have HL6 := Lib.hid (HL.out.fr hf6 (by omega) (by omega))
          clear hf6 hb6))
      (try simp only [Exit.inBlock, Exit.then])
      have hl6 := HL6.out
      rw [hn] at hl6
      exact bodyPost_ret (res_until HB6.out _ rfl) rfl ⟨rfl, hl6, HF6.out⟩
end Go.Proofs.YtgcheollgnhdlaaGreatDoor
