import Derived.Test.YtghcfmoagkimaaaDoorYb14
namespace Go.Proofs.YtghcfmoagkimaaaDoor
open Go.RowKit Go.Mem Go.Lin Go.Fmx Go.Den

/-- two of what clocks show are equal -/
theorem eq_loc (d : Nat) (a b : LocD) (w : World) : (Op.equalIn (d + 2) 34 (locV a) (locV b)).run Tryd.prog w = .ok (decide (a = b)) w := by
  have hS : Tryd.prog.underlying 34 = some (.struct (Tryd.prog.fieldsOf 34)) := by kernel_rfl
  have hp : Tryd.prog.stoodInHeld 34 = false := by kernel_rfl
  rw [run_equalIn_agg w (d + 1) 34 _ _ hS hp]
  simp only [Program.fieldsOf, Tryd.underlying34]
  refine Eq.trans (eqF_cons (x := intV a.off) (y := intV b.off) (by decide) (by kernel_rfl) (by kernel_rfl) (eqI d a.off b.off w) (eqF_cons (x := .bool a.dst) (y := .bool b.dst) (by decide) (by kernel_rfl) (by kernel_rfl) (eqB d a.dst b.dst w) (eqF_cons (x := strV a.abbr) (y := strV b.abbr) (by decide) (by kernel_rfl) (by kernel_rfl) (eqS d a.abbr b.abbr w) eqF_nil))) ?_
  rcases a with ⟨a0, a1, a2⟩
  rcases b with ⟨b0, b1, b2⟩
  simp [LocD.mk.injEq]
theorem eql_loc (a : LocD) : ∀ w, (binOp .eql 34 (.agg (locC a)) (.agg (locC a))).run Tryd.prog w = .ok (.bool true) w := fun w => by
  have h := eq_loc 9998 a a w
  simp only [binOp]
  simp [Op.equal, Op.maxDepth, h]
theorem guard_loc (x y : Operand) (cs ds : Array Value) : ∀ w, (eqGuard .eql 34 x y (.agg cs) (.agg ds)).run Tryd.prog w = .ok () w := fun _ => by kernel_rfl
set_option maxHeartbeats 6400000 in
set_option maxRecDepth 100000 in
theorem l16Ofs_any (e : EraL) (s : StateD) (w : World) (hm : MOk w) (_hf : e.format.length ≤ maxLen) (_hl : s.letter.length ≤ maxLen) :
    Calls Tryd.prog 3 #[.agg (eraC e), stateV s] w fun q w' => q = .returned (.bool true) ∧ Fr w w' (fun _ => False) := by
  obtain ⟨w1, hw1⟩ : ∃ w1, w.alloc (.cells (eraC e) 29) = w1 := ⟨_, rfl⟩
  obtain ⟨w2, hw2⟩ : ∃ w2, w1.alloc (.cells (stateC s) 31) = w2 := ⟨_, rfl⟩
  have z1 : w1.heap.size = w.heap.size + 1 := by rw [← hw1]; simp
  have n2 : Fr w1 w2 (fun _ => False) := by rw [← hw2]; exact Fr.new _ _ _
  have n1 : Fr w w2 (fun _ => False) := ff4 (by rw [← hw1]; exact Fr.new _ _ _) n2
  have HB1 := Lib.hid (show Blk w2 w.heap.size 29 (eraC e) from n2.blk (by rw [← hw1]; exact Blk.made w _ _) (fun h => h))
  have HB2 := Lib.hid (show Blk w2 (w.heap.size + 1) 31 (stateC s) by rw [← hw2, ← z1]; exact Blk.made w1 _ _)
  have e2 : (w.alloc (.cells (eraC e) 29)).alloc (.cells (stateC s) 31) = w2 := by rw [hw1, hw2]
  have HF2 := Lib.hid n1
  have c0 : w2.cell? ⟨w.heap.size, 0, none⟩ = some (.int .i64 e.off) := blkc HB1.out 0 _ rfl
  have c4 : w2.cell? ⟨w.heap.size, 4, none⟩ = some (strV e.format) := blkc HB1.out 4 _ rfl
  have d0 : w2.cell? ⟨w.heap.size + 1, 0, none⟩ = some (.int .i64 s.era) := blkc HB2.out 0 _ rfl
  have d1 : w2.cell? ⟨w.heap.size + 1, 1, none⟩ = some (.int .i64 s.save) := blkc HB2.out 1 _ rfl
  have d2 : w2.cell? ⟨w.heap.size + 1, 2, none⟩ = some (strV s.letter) := blkc HB2.out 2 _ rfl
  have HAl := Lib.hid (fun W (g : Fr w W (fun _ => False)) => l16alive_any W (hm.fr g))
  clear hw1 hw2 z1 n1 n2
  by_cases p0 : 200 < e.format.length
  · have p0 : 200 < (e.format.length : Int) := by omega
    go_enter Tryd.func3, Tryd.ntmps3
    go_wp2_with fail
    refine (HAl.out _ HF2.out).mono ?_
    rintro q w9 ⟨rfl, hf9⟩
    go_wp2_with fail
    go_ret
    exact ⟨rfl, ff4 HF2.out hf9⟩
  · have p0 : (e.format.length : Int) ≤ 200 := by omega
    by_cases p1 : 200 < s.letter.length
    · have p1 : 200 < (s.letter.length : Int) := by omega
      go_enter Tryd.func3, Tryd.ntmps3
      go_wp2_with fail
      refine (HAl.out _ HF2.out).mono ?_
      rintro q w9 ⟨rfl, hf9⟩
      go_wp2_with fail
      go_ret
      exact ⟨rfl, ff4 HF2.out hf9⟩
    · have p1 : (s.letter.length : Int) ≤ 200 := by omega
      by_cases p2 : e.off < -1000000
      · have p2 : e.off < -1000000 := by omega
        go_enter Tryd.func3, Tryd.ntmps3
        go_wp2_with fail
        refine (HAl.out _ HF2.out).mono ?_
        rintro q w9 ⟨rfl, hf9⟩
        go_wp2_with fail
        go_ret
        exact ⟨rfl, ff4 HF2.out hf9⟩
      · have p2 : -1000000 ≤ e.off := by omega
        by_cases p3 : 1000000 < e.off
        · have p3 : 1000000 < e.off := by omega
          go_enter Tryd.func3, Tryd.ntmps3
          go_wp2_with fail
          refine (HAl.out _ HF2.out).mono ?_
          rintro q w9 ⟨rfl, hf9⟩
          go_wp2_with fail
          go_ret
          exact ⟨rfl, ff4 HF2.out hf9⟩
        · have p3 : e.off ≤ 1000000 := by omega
          by_cases p4 : s.save < -1000000
          · have p4 : s.save < -1000000 := by omega
            go_enter Tryd.func3, Tryd.ntmps3
            go_wp2_with fail
            refine (HAl.out _ HF2.out).mono ?_
            rintro q w9 ⟨rfl, hf9⟩
            go_wp2_with fail
            go_ret
            exact ⟨rfl, ff4 HF2.out hf9⟩
          · have p4 : -1000000 ≤ s.save := by omega
            by_cases p5 : 1000000 < s.save
            · have p5 : 1000000 < s.save := by omega
              go_enter Tryd.func3, Tryd.ntmps3
              go_wp2_with fail
              refine (HAl.out _ HF2.out).mono ?_
              rintro q w9 ⟨rfl, hf9⟩
              go_wp2_with fail
              go_ret
              exact ⟨rfl, ff4 HF2.out hf9⟩
            · have p5 : s.save ≤ 1000000 := by omega
              have HN := Lib.hid (fun W (g : Fr w W (fun _ => False)) => f16Of_any e s W (hm.fr g) (by omega) (by omega) (by omega) (by omega))
              have HZ := Lib.hid (fun w => r16Of_any e s w (by omega) (by omega) (by omega) (by omega))
              generalize ofD16 e s = ad at *
              obtain ⟨x, k⟩ := ad
              dsimp only at HN HZ
              go_enter Tryd.func3, Tryd.ntmps3
              go_wp2_with (first
                | ((with_reducible refine at_load4 29 ?_); refine wpList_load_blk 29 _ w.heap.size 0 29 (eraC e) (eraC e) _ (by rfl) rfl rfl HB1.out Tryd.underlying29 rfl (infoE _) (zero_part _) ?_)
                | ((with_reducible refine at_build 38 ?_); refine wpList_build1 38 _ (.agg (stateC s)) (by rfl) rfl (fun w => by kernel_rfl) ?_))
              refine (HN.out _ HF2.out).mono ?_
              rintro q w4 ⟨rfl, hf4⟩
              have HF4 := Lib.hid (ff4 HF2.out hf4)
              have HE4 := Lib.hid (hf4.blk HB1.out (fun h => h))
              have HT4 := Lib.hid (hf4.blk HB2.out (fun h => h))
              have n5 := Fr.new w4 (.cells (locC loc0) 34) (fun _ => False)
              have HF5 := Lib.hid (ff4 HF4.out n5)
              have HS5 := Lib.hid (Blk.made w4 34 (locC loc0))
              have HE5 := Lib.hid (n5.blk HE4.out (fun h => h))
              have HT5 := Lib.hid (n5.blk HT4.out (fun h => h))
              clear hf4 n5 c0 c4 d0 d1 d2
              go_wp2_with (first
                | ((with_reducible refine at_store4 34 ?_); refine wpList_store_blk 34 _ _ w4.heap.size 0 34 (locC loc0) (locC x) (locC x) (by rfl) rfl rfl rfl rfl HS5.out (infoLo _) (locC_one _) (show 0 + 3 ≤ 3 by decide) (put_lo _ _) ?_
                   intro W6 hf6 hb6
                   have HF6 := Lib.hid (HF5.out.fresh hf6 (fun i e => by have e : i = w4.heap.size := e; have := HF4.out.size; omega))
                   have HE6 := Lib.hid (hf6.blk HE5.out (fun e => by have e : w.heap.size = w4.heap.size := e; have := HE4.out.lt; omega))
                   have HT6 := Lib.hid (hf6.blk HT5.out (fun e => by have e : w.heap.size + 1 = w4.heap.size := e; have := HT4.out.lt; omega))
                   have HS6 := Lib.hid hb6
                   clear hf6 hb6)
                | ((with_reducible refine at_load4 29 ?_); refine wpList_load_blk 29 _ w.heap.size 0 29 (eraC e) (eraC e) _ (by rfl) rfl rfl HE6.out Tryd.underlying29 rfl (infoE _) (zero_part _) ?_)
                | ((with_reducible refine at_load4 31 ?_); refine wpList_load_blk 31 _ (w.heap.size + 1) 0 31 (stateC s) (stateC s) _ (by rfl) rfl rfl HT6.out Tryd.underlying31 rfl (infoSt _) (zero_part _) ?_))
              refine (HZ.out _).mono ?_
              rintro q w7 ⟨rfl, hf7⟩
              have HF7 := Lib.hid (ff4 HF6.out hf7)
              have HS7 := Lib.hid (hf7.blk HS6.out (fun h => h))
              have n8 := Fr.new w7 (.cells (locC loc0) 34) (fun _ => False)
              have HF8 := Lib.hid (ff4 HF7.out n8)
              have HS8 := Lib.hid (n8.blk HS7.out (fun h => h))
              have HR8 := Lib.hid (Blk.made w7 34 (locC loc0))
              clear hf7 n8
              go_wp2_with (first
                | ((with_reducible refine at_store4 34 ?_); refine wpList_store_blk 34 _ _ w7.heap.size 0 34 (locC loc0) (locC x) (locC x) (by rfl) rfl rfl rfl rfl HR8.out (infoLo _) (locC_one _) (show 0 + 3 ≤ 3 by decide) (put_lo _ _) ?_
                   intro W9 hf9 hb9
                   have HF9 := Lib.hid (HF8.out.fresh hf9 (fun i e => by have e : i = w7.heap.size := e; have := HF7.out.size; omega))
                   have HS9 := Lib.hid (hf9.blk HS8.out (fun e => by have e : w4.heap.size = w7.heap.size := e; have := HS7.out.lt; omega))
                   have HR9 := Lib.hid hb9
                   clear hf9 hb9)
                | ((with_reducible refine at_load4 34 ?_); refine wpList_load_blk 34 _ w4.heap.size 0 34 (locC x) (locC x) _ (by rfl) rfl rfl HS9.out Tryd.underlying34 rfl (infoLo _) (zero_part _) ?_)
                | ((with_reducible refine at_load4 34 ?_); refine wpList_load_blk 34 _ w7.heap.size 0 34 (locC x) (locC x) _ (by rfl) rfl rfl HR9.out Tryd.underlying34 rfl (infoLo _) (zero_part _) ?_)
                | ((with_reducible refine at_eql6 34 ?_); refine wpList_eql6 (t := 34) (cs := locC x) (ds := locC x) (b := true) (by rfl) rfl rfl rfl (guard_loc _ _ _ _) (eql_loc x) ?_))
              refine (HAl.out _ HF9.out).mono ?_
              rintro q w10 ⟨rfl, hf10⟩
              go_wp2_with fail
              go_ret
              exact ⟨rfl, ff4 HF9.out hf10⟩
end Go.Proofs.YtghcfmoagkimaaaDoor
namespace Go.Proofs.YtghcfmoagkimaaaDoor
open Go.RowKit Go.Mem Go.Lin Go.Fmx Go.Den

theorem find_zs : findD [37, 122] [37, 115] = none := by decide +kernel
theorem find_zz : findD [37, 122] [37, 122] = some 0 := by decide +kernel
theorem abbr_z (off : Int) : abbrT [37, 122] [] off false = digD off := by
  rw [abbrT_z find_zs find_zz]
  simp
theorem chr_plain {n : Nat} (h : n < 10) : plainN (Go.Clk.chr n).toNat = true := by
  have : ∀ n : Fin 10, plainN (Go.Clk.chr n.1).toNat = true := by decide
  exact this ⟨n, h⟩
theorem chr_val {n : Nat} (h : n < 10) : (Go.Clk.chr n).toNat = 48 + n := by
  have : ∀ n : Fin 10, (Go.Clk.chr n.1).toNat = 48 + n.1 := by decide
  exact this ⟨n, h⟩
theorem two_plain {n : Nat} (h : n < 100) : (Go.Clk.twoL n).all (fun c => plainN c.toNat) = true := by
  unfold Go.Clk.twoL
  simp only [List.all_cons, List.all_nil, Bool.and_true]
  rw [chr_plain (by omega), chr_plain (by omega)]
  rfl
theorem dig_plain {off : Int} (h : -180000 ≤ off ∧ off ≤ 180000) : plainB (digD off) = decide (off.natAbs % 60 = 0) := by
  have l2 : ∀ x, (Go.Clk.twoL x).length = 2 := fun _ => rfl
  obtain ⟨a, ha⟩ : ∃ a, off.natAbs = a := ⟨_, rfl⟩
  have hh := two_plain (n := a / 3600) (by omega)
  have hm := two_plain (n := a / 60 % 60) (by omega)
  obtain ⟨c, hc, hcp⟩ : ∃ c : UInt8, digD off = c :: digN a ∧ plainN c.toNat = true := by
    by_cases hn : off < 0
    · exact ⟨45, by rw [digD_neg hn, ha], by decide⟩
    · exact ⟨43, by rw [digD_pos hn, ha], by decide⟩
  rw [ha, hc]
  by_cases h0 : a % 60 = 0
  · rw [decide_eq_true h0]
    by_cases hq : a % 3600 = 0
    · rw [digN_0 hq, plain_eq (by simp [l2])]
      rw [List.all_cons, hcp, hh]
      rfl
    · rw [digN_1 hq h0, plain_eq (by simp [l2])]
      rw [List.all_cons, List.all_append, hcp, hh, hm]
      rfl
  · rw [decide_eq_false h0]
    exact plain_len (by rw [digN_2 (by omega) h0]; simp [l2])
theorem tmod_neg {n : Int} (h : n < 0) : n.tmod 60 = -((-n) % 60) := by
  have h1 : n.tmod 60 = -((-n).tmod 60) := by rw [Int.neg_tmod, Int.neg_neg]
  rw [h1, Int.tmod_eq_emod_of_nonneg (by omega)]
set_option maxHeartbeats 6400000 in
set_option maxRecDepth 100000 in
theorem l16Digits_any (off : Int) (w : World) (hm : MOk w) (ho : -9223372036854775808 ≤ off ∧ off ≤ 9223372036854775807) : Calls Tryd.prog 4 #[intV off] w fun q w' => q = .returned (.bool true) ∧ Fr w w' (fun _ => False) := by
  have HA := fun W (g : Fr w W (fun _ => False)) => f16Abbr_any [37, 122] [] off false W (hm.fr g) (by decide) (by decide)
  have HAl := Lib.hid (fun W (g : Fr w W (fun _ => False)) => l16alive_any W (hm.fr g))
  clear hm
  by_cases hb : off < -180000 ∨ 180000 < off
  · rw [abbr_arg hb] at HA
    have HA := Lib.hid HA
    rcases hb with hb | hb
    · go_enter Tryd.func4, Tryd.ntmps4
      go_wp2_with fail
      refine (HA.out _ (Fr.refl _ _)).mono ?_
      rintro q w1 ⟨rfl, hf1⟩
      have HF1 := Lib.hid hf1
      clear hf1
      go_wp2_with fail
      refine (HAl.out _ HF1.out).mono ?_
      rintro q w9 ⟨rfl, hf9⟩
      go_wp2_with fail
      go_ret
      exact ⟨rfl, ff4 HF1.out hf9⟩
    · have hb2 : -180000 ≤ off := by omega
      go_enter Tryd.func4, Tryd.ntmps4
      go_wp2_with fail
      refine (HA.out _ (Fr.refl _ _)).mono ?_
      rintro q w1 ⟨rfl, hf1⟩
      have HF1 := Lib.hid hf1
      clear hf1
      go_wp2_with fail
      refine (HAl.out _ HF1.out).mono ?_
      rintro q w9 ⟨rfl, hf9⟩
      go_wp2_with fail
      go_ret
      exact ⟨rfl, ff4 HF1.out hf9⟩
  · have o1 : -180000 ≤ off := by omega
    have o2 : off ≤ 180000 := by omega
    have HP := dig_plain ⟨o1, o2⟩
    obtain ⟨a, ha⟩ : ∃ a, off.natAbs = a := ⟨_, rfl⟩
    rw [ha] at HP
    by_cases h0 : a % 60 = 0
    · rw [decide_eq_true h0] at HP
      rw [abbr_yes (f := [37, 122]) (letter := []) (dst := false) hb (by rw [abbr_z]; exact HP), abbr_z] at HA
      have HA : ∀ W (g : Fr w W (fun _ => False)), Calls Tryd.prog 8 #[strV [37, 122], strV [], intV off, .bool false] W fun e w' => e = .returned (.tuple #[strV (digD off), intV 0]) ∧ Fr W w' (fun _ => False) := HA
      clear HP hb ho
      obtain ⟨x, hx⟩ : ∃ x, a / 3600 / 10 = x := ⟨_, rfl⟩
      obtain ⟨y, hy⟩ : ∃ y, a / 3600 % 10 = y := ⟨_, rfl⟩
      have hh : Go.Clk.twoL (a / 3600) = [Go.Clk.chr x, Go.Clk.chr y] := by unfold Go.Clk.twoL; rw [hx, hy]
      have cx := chr_val (n := x) (by omega)
      have cy := chr_val (n := y) (by omega)
      have x9 : (x : Int) ≤ 9 := by omega
      have y9 : (y : Int) ≤ 9 := by omega
      have x0 : (0 : Int) ≤ (x : Int) := by omega
      have y0 : (0 : Int) ≤ (y : Int) := by omega
      by_cases hneg : off < 0
      · by_cases hq : a % 3600 = 0
        · have hl : digD off = [45, Go.Clk.chr x, Go.Clk.chr y] := by rw [digD_neg hneg, ha, digN_0 hq, hh]
          rw [hl] at HA
          have HA := Lib.hid HA
          have I0 : ∀ w, (Instr.index 9 (strV [45, Go.Clk.chr x, Go.Clk.chr y]) (.int .i64 0)).run Tryd.prog w = .ok (.int .u8 (45)) w := fun w => sl_idx w 9 Tryd.underlying9 [45, Go.Clk.chr x, Go.Clk.chr y] 0 (45 : UInt8) rfl
          have I1 : ∀ w, (Instr.index 9 (strV [45, Go.Clk.chr x, Go.Clk.chr y]) (.int .i64 1)).run Tryd.prog w = .ok (.int .u8 (48 + (x : Int))) w := fun w => by have h := sl_idx (P := Tryd.prog) w 9 Tryd.underlying9 [45, Go.Clk.chr x, Go.Clk.chr y] 1 (Go.Clk.chr x) rfl; rw [cx] at h; simpa using h
          have I2 : ∀ w, (Instr.index 9 (strV [45, Go.Clk.chr x, Go.Clk.chr y]) (.int .i64 2)).run Tryd.prog w = .ok (.int .u8 (48 + (y : Int))) w := fun w => by have h := sl_idx (P := Tryd.prog) w 9 Tryd.underlying9 [45, Go.Clk.chr x, Go.Clk.chr y] 2 (Go.Clk.chr y) rfl; rw [cy] at h; simpa using h
          have w0 : IntKind.u8.wrap (48 + (x : Int) - 48) = (x : Int) := by rw [IntKind.wrap_u8]; omega
          have w1 : IntKind.u8.wrap (48 + (y : Int) - 48) = (y : Int) := by rw [IntKind.wrap_u8]; omega
          have w2 : IntKind.i64.wrap ((x : Int) * 10) = (x : Int) * 10 := by rw [IntKind.wrap_i64]; omega
          have w3 : IntKind.i64.wrap ((x : Int) * 10 + (y : Int)) = (x : Int) * 10 + (y : Int) := by rw [IntKind.wrap_i64]; omega
          have w4 : IntKind.i64.wrap (((x : Int) * 10 + (y : Int)) * 3600) = ((x : Int) * 10 + (y : Int)) * 3600 := by rw [IntKind.wrap_i64]; omega
          have w5 : IntKind.i64.wrap (0 + ((x : Int) * 10 + (y : Int)) * 3600) = ((x : Int) * 10 + (y : Int)) * 3600 := by rw [IntKind.wrap_i64]; omega
          have hval : ((x : Int) * 10 + (y : Int)) * 3600 = (a : Int) := by omega
          have wn : IntKind.i64.wrap (-(((x : Int) * 10 + (y : Int)) * 3600)) = off := by rw [IntKind.wrap_i64]; omega
          clear hval
          clear hl hh cx cy hx hy hq h0 ha
          go_enter Tryd.func4, Tryd.ntmps4
          go_wp2_with fail
          refine (HA.out _ (Fr.refl _ _)).mono ?_
          rintro q w1 ⟨rfl, hf1⟩
          have HF1 := Lib.hid hf1
          clear hf1
          go_wp2_with fail
          refine wp_loop_rounds 2 ?_
          rw [rounds_succ]
          go_wp2_with fail
          go_quiet (fail)
          go_wp2_with fail
          rw [rounds_succ]
          go_wp2_with fail
          refine (HAl.out _ (ff4 HF1.out (Fr.drewN _ _ _))).mono ?_
          rintro q w9 ⟨rfl, hf9⟩
          go_wp2_with fail
          go_ret
          exact ⟨rfl, ff4 HF1.out (ff4 (Fr.drewN _ _ _) hf9)⟩
        · obtain ⟨u, hu⟩ : ∃ u, a / 60 % 60 / 10 = u := ⟨_, rfl⟩
          obtain ⟨v, hv⟩ : ∃ v, a / 60 % 60 % 10 = v := ⟨_, rfl⟩
          have hmm : Go.Clk.twoL (a / 60 % 60) = [Go.Clk.chr u, Go.Clk.chr v] := by unfold Go.Clk.twoL; rw [hu, hv]
          have cu := chr_val (n := u) (by omega)
          have cv := chr_val (n := v) (by omega)
          have u9 : (u : Int) ≤ 9 := by omega
          have v9 : (v : Int) ≤ 9 := by omega
          have u0 : (0 : Int) ≤ (u : Int) := by omega
          have v0 : (0 : Int) ≤ (v : Int) := by omega
          have hl : digD off = [45, Go.Clk.chr x, Go.Clk.chr y, Go.Clk.chr u, Go.Clk.chr v] := by rw [digD_neg hneg, ha, digN_1 hq h0, hh, hmm]; rfl
          rw [hl] at HA
          have HA := Lib.hid HA
          have I0 : ∀ w, (Instr.index 9 (strV [45, Go.Clk.chr x, Go.Clk.chr y, Go.Clk.chr u, Go.Clk.chr v]) (.int .i64 0)).run Tryd.prog w = .ok (.int .u8 (45)) w := fun w => sl_idx w 9 Tryd.underlying9 [45, Go.Clk.chr x, Go.Clk.chr y, Go.Clk.chr u, Go.Clk.chr v] 0 (45 : UInt8) rfl
          have I1 : ∀ w, (Instr.index 9 (strV [45, Go.Clk.chr x, Go.Clk.chr y, Go.Clk.chr u, Go.Clk.chr v]) (.int .i64 1)).run Tryd.prog w = .ok (.int .u8 (48 + (x : Int))) w := fun w => by have h := sl_idx (P := Tryd.prog) w 9 Tryd.underlying9 [45, Go.Clk.chr x, Go.Clk.chr y, Go.Clk.chr u, Go.Clk.chr v] 1 (Go.Clk.chr x) rfl; rw [cx] at h; simpa using h
          have I2 : ∀ w, (Instr.index 9 (strV [45, Go.Clk.chr x, Go.Clk.chr y, Go.Clk.chr u, Go.Clk.chr v]) (.int .i64 2)).run Tryd.prog w = .ok (.int .u8 (48 + (y : Int))) w := fun w => by have h := sl_idx (P := Tryd.prog) w 9 Tryd.underlying9 [45, Go.Clk.chr x, Go.Clk.chr y, Go.Clk.chr u, Go.Clk.chr v] 2 (Go.Clk.chr y) rfl; rw [cy] at h; simpa using h
          have I3 : ∀ w, (Instr.index 9 (strV [45, Go.Clk.chr x, Go.Clk.chr y, Go.Clk.chr u, Go.Clk.chr v]) (.int .i64 3)).run Tryd.prog w = .ok (.int .u8 (48 + (u : Int))) w := fun w => by have h := sl_idx (P := Tryd.prog) w 9 Tryd.underlying9 [45, Go.Clk.chr x, Go.Clk.chr y, Go.Clk.chr u, Go.Clk.chr v] 3 (Go.Clk.chr u) rfl; rw [cu] at h; simpa using h
          have I4 : ∀ w, (Instr.index 9 (strV [45, Go.Clk.chr x, Go.Clk.chr y, Go.Clk.chr u, Go.Clk.chr v]) (.int .i64 4)).run Tryd.prog w = .ok (.int .u8 (48 + (v : Int))) w := fun w => by have h := sl_idx (P := Tryd.prog) w 9 Tryd.underlying9 [45, Go.Clk.chr x, Go.Clk.chr y, Go.Clk.chr u, Go.Clk.chr v] 4 (Go.Clk.chr v) rfl; rw [cv] at h; simpa using h
          have w0 : IntKind.u8.wrap (48 + (x : Int) - 48) = (x : Int) := by rw [IntKind.wrap_u8]; omega
          have w1 : IntKind.u8.wrap (48 + (y : Int) - 48) = (y : Int) := by rw [IntKind.wrap_u8]; omega
          have w2 : IntKind.i64.wrap ((x : Int) * 10) = (x : Int) * 10 := by rw [IntKind.wrap_i64]; omega
          have w3 : IntKind.i64.wrap ((x : Int) * 10 + (y : Int)) = (x : Int) * 10 + (y : Int) := by rw [IntKind.wrap_i64]; omega
          have w4 : IntKind.i64.wrap (((x : Int) * 10 + (y : Int)) * 3600) = ((x : Int) * 10 + (y : Int)) * 3600 := by rw [IntKind.wrap_i64]; omega
          have w5 : IntKind.i64.wrap (0 + ((x : Int) * 10 + (y : Int)) * 3600) = ((x : Int) * 10 + (y : Int)) * 3600 := by rw [IntKind.wrap_i64]; omega
          have w6 : IntKind.u8.wrap (48 + (u : Int) - 48) = (u : Int) := by rw [IntKind.wrap_u8]; omega
          have w7 : IntKind.u8.wrap (48 + (v : Int) - 48) = (v : Int) := by rw [IntKind.wrap_u8]; omega
          have w8 : IntKind.i64.wrap ((u : Int) * 10) = (u : Int) * 10 := by rw [IntKind.wrap_i64]; omega
          have w9 : IntKind.i64.wrap ((u : Int) * 10 + (v : Int)) = (u : Int) * 10 + (v : Int) := by rw [IntKind.wrap_i64]; omega
          have w10 : IntKind.i64.wrap (((u : Int) * 10 + (v : Int)) * 60) = ((u : Int) * 10 + (v : Int)) * 60 := by rw [IntKind.wrap_i64]; omega
          have w11 : IntKind.i64.wrap (((x : Int) * 10 + (y : Int)) * 3600 + ((u : Int) * 10 + (v : Int)) * 60) = ((x : Int) * 10 + (y : Int)) * 3600 + ((u : Int) * 10 + (v : Int)) * 60 := by rw [IntKind.wrap_i64]; omega
          have hsum : a = 3600 * (a / 3600) + 60 * (a / 60 % 60) := by omega
          have hval : ((x : Int) * 10 + (y : Int)) * 3600 + ((u : Int) * 10 + (v : Int)) * 60 = (a : Int) := by omega
          have wn : IntKind.i64.wrap (-(((x : Int) * 10 + (y : Int)) * 3600 + ((u : Int) * 10 + (v : Int)) * 60)) = off := by rw [IntKind.wrap_i64]; omega
          clear hval hsum
          clear hl hh cx cy hx hy hq h0 ha hmm cu cv hu hv
          go_enter Tryd.func4, Tryd.ntmps4
          go_wp2_with fail
          refine (HA.out _ (Fr.refl _ _)).mono ?_
          rintro q w1 ⟨rfl, hf1⟩
          have HF1 := Lib.hid hf1
          clear hf1
          go_wp2_with fail
          refine wp_loop_rounds 3 ?_
          rw [rounds_succ]
          go_wp2_with fail
          go_quiet (fail)
          go_wp2_with fail
          rw [rounds_succ]
          go_wp2_with fail
          go_quiet (fail)
          go_wp2_with fail
          rw [rounds_succ]
          go_wp2_with fail
          refine (HAl.out _ (ff4 HF1.out (Fr.drewN _ _ _))).mono ?_
          rintro q w9 ⟨rfl, hf9⟩
          go_wp2_with fail
          go_ret
          exact ⟨rfl, ff4 HF1.out (ff4 (Fr.drewN _ _ _) hf9)⟩
      · by_cases hq : a % 3600 = 0
        · have hl : digD off = [43, Go.Clk.chr x, Go.Clk.chr y] := by rw [digD_pos hneg, ha, digN_0 hq, hh]
          rw [hl] at HA
          have HA := Lib.hid HA
          have I0 : ∀ w, (Instr.index 9 (strV [43, Go.Clk.chr x, Go.Clk.chr y]) (.int .i64 0)).run Tryd.prog w = .ok (.int .u8 (43)) w := fun w => sl_idx w 9 Tryd.underlying9 [43, Go.Clk.chr x, Go.Clk.chr y] 0 (43 : UInt8) rfl
          have I1 : ∀ w, (Instr.index 9 (strV [43, Go.Clk.chr x, Go.Clk.chr y]) (.int .i64 1)).run Tryd.prog w = .ok (.int .u8 (48 + (x : Int))) w := fun w => by have h := sl_idx (P := Tryd.prog) w 9 Tryd.underlying9 [43, Go.Clk.chr x, Go.Clk.chr y] 1 (Go.Clk.chr x) rfl; rw [cx] at h; simpa using h
          have I2 : ∀ w, (Instr.index 9 (strV [43, Go.Clk.chr x, Go.Clk.chr y]) (.int .i64 2)).run Tryd.prog w = .ok (.int .u8 (48 + (y : Int))) w := fun w => by have h := sl_idx (P := Tryd.prog) w 9 Tryd.underlying9 [43, Go.Clk.chr x, Go.Clk.chr y] 2 (Go.Clk.chr y) rfl; rw [cy] at h; simpa using h
          have w0 : IntKind.u8.wrap (48 + (x : Int) - 48) = (x : Int) := by rw [IntKind.wrap_u8]; omega
          have w1 : IntKind.u8.wrap (48 + (y : Int) - 48) = (y : Int) := by rw [IntKind.wrap_u8]; omega
          have w2 : IntKind.i64.wrap ((x : Int) * 10) = (x : Int) * 10 := by rw [IntKind.wrap_i64]; omega
          have w3 : IntKind.i64.wrap ((x : Int) * 10 + (y : Int)) = (x : Int) * 10 + (y : Int) := by rw [IntKind.wrap_i64]; omega
          have w4 : IntKind.i64.wrap (((x : Int) * 10 + (y : Int)) * 3600) = ((x : Int) * 10 + (y : Int)) * 3600 := by rw [IntKind.wrap_i64]; omega
          have w5 : IntKind.i64.wrap (0 + ((x : Int) * 10 + (y : Int)) * 3600) = ((x : Int) * 10 + (y : Int)) * 3600 := by rw [IntKind.wrap_i64]; omega
          have hval : ((x : Int) * 10 + (y : Int)) * 3600 = (a : Int) := by omega
          have wn : (((x : Int) * 10 + (y : Int)) * 3600 == off) = true := by rw [beq_iff_eq]; omega
          clear hval
          clear hl hh cx cy hx hy hq h0 ha
          go_enter Tryd.func4, Tryd.ntmps4
          go_wp2_with fail
          refine (HA.out _ (Fr.refl _ _)).mono ?_
          rintro q w1 ⟨rfl, hf1⟩
          have HF1 := Lib.hid hf1
          clear hf1
          go_wp2_with fail
          refine wp_loop_rounds 2 ?_
          rw [rounds_succ]
          go_wp2_with fail
          go_quiet (fail)
          go_wp2_with fail
          rw [rounds_succ]
          go_wp2_with fail
          refine (HAl.out _ (ff4 HF1.out (Fr.drewN _ _ _))).mono ?_
          rintro q w9 ⟨rfl, hf9⟩
          go_wp2_with fail
          go_ret
          exact ⟨rfl, ff4 HF1.out (ff4 (Fr.drewN _ _ _) hf9)⟩
        · obtain ⟨u, hu⟩ : ∃ u, a / 60 % 60 / 10 = u := ⟨_, rfl⟩
          obtain ⟨v, hv⟩ : ∃ v, a / 60 % 60 % 10 = v := ⟨_, rfl⟩
          have hmm : Go.Clk.twoL (a / 60 % 60) = [Go.Clk.chr u, Go.Clk.chr v] := by unfold Go.Clk.twoL; rw [hu, hv]
          have cu := chr_val (n := u) (by omega)
          have cv := chr_val (n := v) (by omega)
          have u9 : (u : Int) ≤ 9 := by omega
          have v9 : (v : Int) ≤ 9 := by omega
          have u0 : (0 : Int) ≤ (u : Int) := by omega
          have v0 : (0 : Int) ≤ (v : Int) := by omega
          have hl : digD off = [43, Go.Clk.chr x, Go.Clk.chr y, Go.Clk.chr u, Go.Clk.chr v] := by rw [digD_pos hneg, ha, digN_1 hq h0, hh, hmm]; rfl
          rw [hl] at HA
          have HA := Lib.hid HA
          have I0 : ∀ w, (Instr.index 9 (strV [43, Go.Clk.chr x, Go.Clk.chr y, Go.Clk.chr u, Go.Clk.chr v]) (.int .i64 0)).run Tryd.prog w = .ok (.int .u8 (43)) w := fun w => sl_idx w 9 Tryd.underlying9 [43, Go.Clk.chr x, Go.Clk.chr y, Go.Clk.chr u, Go.Clk.chr v] 0 (43 : UInt8) rfl
          have I1 : ∀ w, (Instr.index 9 (strV [43, Go.Clk.chr x, Go.Clk.chr y, Go.Clk.chr u, Go.Clk.chr v]) (.int .i64 1)).run Tryd.prog w = .ok (.int .u8 (48 + (x : Int))) w := fun w => by have h := sl_idx (P := Tryd.prog) w 9 Tryd.underlying9 [43, Go.Clk.chr x, Go.Clk.chr y, Go.Clk.chr u, Go.Clk.chr v] 1 (Go.Clk.chr x) rfl; rw [cx] at h; simpa using h
          have I2 : ∀ w, (Instr.index 9 (strV [43, Go.Clk.chr x, Go.Clk.chr y, Go.Clk.chr u, Go.Clk.chr v]) (.int .i64 2)).run Tryd.prog w = .ok (.int .u8 (48 + (y : Int))) w := fun w => by have h := sl_idx (P := Tryd.prog) w 9 Tryd.underlying9 [43, Go.Clk.chr x, Go.Clk.chr y, Go.Clk.chr u, Go.Clk.chr v] 2 (Go.Clk.chr y) rfl; rw [cy] at h; simpa using h
          have I3 : ∀ w, (Instr.index 9 (strV [43, Go.Clk.chr x, Go.Clk.chr y, Go.Clk.chr u, Go.Clk.chr v]) (.int .i64 3)).run Tryd.prog w = .ok (.int .u8 (48 + (u : Int))) w := fun w => by have h := sl_idx (P := Tryd.prog) w 9 Tryd.underlying9 [43, Go.Clk.chr x, Go.Clk.chr y, Go.Clk.chr u, Go.Clk.chr v] 3 (Go.Clk.chr u) rfl; rw [cu] at h; simpa using h
          have I4 : ∀ w, (Instr.index 9 (strV [43, Go.Clk.chr x, Go.Clk.chr y, Go.Clk.chr u, Go.Clk.chr v]) (.int .i64 4)).run Tryd.prog w = .ok (.int .u8 (48 + (v : Int))) w := fun w => by have h := sl_idx (P := Tryd.prog) w 9 Tryd.underlying9 [43, Go.Clk.chr x, Go.Clk.chr y, Go.Clk.chr u, Go.Clk.chr v] 4 (Go.Clk.chr v) rfl; rw [cv] at h; simpa using h
          have w0 : IntKind.u8.wrap (48 + (x : Int) - 48) = (x : Int) := by rw [IntKind.wrap_u8]; omega
          have w1 : IntKind.u8.wrap (48 + (y : Int) - 48) = (y : Int) := by rw [IntKind.wrap_u8]; omega
          have w2 : IntKind.i64.wrap ((x : Int) * 10) = (x : Int) * 10 := by rw [IntKind.wrap_i64]; omega
          have w3 : IntKind.i64.wrap ((x : Int) * 10 + (y : Int)) = (x : Int) * 10 + (y : Int) := by rw [IntKind.wrap_i64]; omega
          have w4 : IntKind.i64.wrap (((x : Int) * 10 + (y : Int)) * 3600) = ((x : Int) * 10 + (y : Int)) * 3600 := by rw [IntKind.wrap_i64]; omega
          have w5 : IntKind.i64.wrap (0 + ((x : Int) * 10 + (y : Int)) * 3600) = ((x : Int) * 10 + (y : Int)) * 3600 := by rw [IntKind.wrap_i64]; omega
          have w6 : IntKind.u8.wrap (48 + (u : Int) - 48) = (u : Int) := by rw [IntKind.wrap_u8]; omega
          have w7 : IntKind.u8.wrap (48 + (v : Int) - 48) = (v : Int) := by rw [IntKind.wrap_u8]; omega
          have w8 : IntKind.i64.wrap ((u : Int) * 10) = (u : Int) * 10 := by rw [IntKind.wrap_i64]; omega
          have w9 : IntKind.i64.wrap ((u : Int) * 10 + (v : Int)) = (u : Int) * 10 + (v : Int) := by rw [IntKind.wrap_i64]; omega
          have w10 : IntKind.i64.wrap (((u : Int) * 10 + (v : Int)) * 60) = ((u : Int) * 10 + (v : Int)) * 60 := by rw [IntKind.wrap_i64]; omega
          have w11 : IntKind.i64.wrap (((x : Int) * 10 + (y : Int)) * 3600 + ((u : Int) * 10 + (v : Int)) * 60) = ((x : Int) * 10 + (y : Int)) * 3600 + ((u : Int) * 10 + (v : Int)) * 60 := by rw [IntKind.wrap_i64]; omega
          have hsum : a = 3600 * (a / 3600) + 60 * (a / 60 % 60) := by omega
          have hval : ((x : Int) * 10 + (y : Int)) * 3600 + ((u : Int) * 10 + (v : Int)) * 60 = (a : Int) := by omega
          have wn : (((x : Int) * 10 + (y : Int)) * 3600 + ((u : Int) * 10 + (v : Int)) * 60 == off) = true := by rw [beq_iff_eq]; omega
          clear hval hsum
          clear hl hh cx cy hx hy hq h0 ha hmm cu cv hu hv
          go_enter Tryd.func4, Tryd.ntmps4
          go_wp2_with fail
          refine (HA.out _ (Fr.refl _ _)).mono ?_
          rintro q w1 ⟨rfl, hf1⟩
          have HF1 := Lib.hid hf1
          clear hf1
          go_wp2_with fail
          refine wp_loop_rounds 3 ?_
          rw [rounds_succ]
          go_wp2_with fail
          go_quiet (fail)
          go_wp2_with fail
          rw [rounds_succ]
          go_wp2_with fail
          go_quiet (fail)
          go_wp2_with fail
          rw [rounds_succ]
          go_wp2_with fail
          refine (HAl.out _ (ff4 HF1.out (Fr.drewN _ _ _))).mono ?_
          rintro q w9 ⟨rfl, hf9⟩
          go_wp2_with fail
          go_ret
          exact ⟨rfl, ff4 HF1.out (ff4 (Fr.drewN _ _ _) hf9)⟩
    · rw [decide_eq_false h0] at HP
      rw [abbr_no (f := [37, 122]) (letter := []) (dst := false) hb (by rw [abbr_z]; exact HP)] at HA
      have HA := Lib.hid HA
      clear HP ho
      by_cases hneg : off < 0
      · have t1 : (off.tmod 60 != 0) = true := by rw [bne_iff_ne, tmod_neg hneg]; omega
        clear hb ha h0
        go_enter Tryd.func4, Tryd.ntmps4
        go_wp2_with fail
        refine (HA.out _ (Fr.refl _ _)).mono ?_
        rintro q w1 ⟨rfl, hf1⟩
        have HF1 := Lib.hid hf1
        clear hf1
        go_wp2_with fail
        refine (HAl.out _ HF1.out).mono ?_
        rintro q w9 ⟨rfl, hf9⟩
        go_wp2_with fail
        go_ret
        exact ⟨rfl, ff4 HF1.out hf9⟩
      · have hneg : 0 ≤ off := by omega
        have t1 : (off % 60 != 0) = true := by rw [bne_iff_ne]; omega
        clear hb ha h0
        go_enter Tryd.func4, Tryd.ntmps4
        go_wp2_with fail
        refine (HA.out _ (Fr.refl _ _)).mono ?_
        rintro q w1 ⟨rfl, hf1⟩
        have HF1 := Lib.hid hf1
        clear hf1
        go_wp2_with fail
        refine (HAl.out _ HF1.out).mono ?_
        rintro q w9 ⟨rfl, hf9⟩
        go_wp2_with fail
        go_ret
        exact ⟨rfl, ff4 HF1.out hf9⟩
end Go.Proofs.YtghcfmoagkimaaaDoor
