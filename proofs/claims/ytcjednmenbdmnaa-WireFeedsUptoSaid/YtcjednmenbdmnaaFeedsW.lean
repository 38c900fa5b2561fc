import Derived.Test.YtcjednmenbdmnaaJ
namespace Go.Proofs.Ytcjednmenbdmnaa
open Go.RowKit Go.Mem Go.Wire

theorem ItemsT.moved {e : TypeId} {w w' : World} {base p : Nat} {hv hv' v : Value} {σ : St} {its : List It} (h : ItemsT e w base (Inert p hv) v its) (h5 : e ≠ 5) (h48 : e ≠ 48) (hs : Spl w p hv σ) (hm : Moved w w' p hv hv') :
    ItemsT e w' base (Inert p hv') v its := by
  obtain ⟨l, h1, h2, h3⟩ := h
  refine ItemsT.fr ⟨l, h1, h2, h3⟩ hm.fr (fun g hg => ?_) (fun g hg => ?_) (fun g hlt hg => ⟨hg.1, ?_⟩)
  · rintro (x | x)
    · exact own_apart h2 hs.1 h48 (x ▸ hg)
    · exact own_own_apart h2 hs.2 h5 g hg x.symm
  · rintro (x | x)
    · exact hg.1 x
    · exact hg.2 x
  · rcases hm.stays with x | x | ⟨g', x, hge⟩
    · rw [x]
      exact hg.2
    · rw [x]
      simp
    · rw [x]
      intro y
      injection y with y
      omega

structure Feeding (w1 wr : World) (p : Nat) (hv v : Value) (done : List Int) : Prop where
  spl : Spl wr p hv (runW st0 done).1
  moved : Moved w1 wr p (.slice none 0 0) hv
  items : ItemsT 43 wr w1.heap.size (Inert p hv) v (runW st0 done).2

theorem cells_one (l : List Pair) {w : World} {I : Nat → Prop} (h : ∀ x ∈ l, PairOk w I x) : ∀ u ∈ l.flatMap pairCells, u.oneCell' = true := by
  intro u hu
  obtain ⟨x, hx, hu⟩ := List.mem_flatMap.1 hu
  obtain ⟨A, n, c, e⟩ := (h x hx).slice
  simp only [pairCells, List.mem_cons, List.not_mem_nil, or_false] at hu
  rcases hu with rfl | rfl
  · rfl
  · rw [e]
    rfl

theorem Feeding.next {w1 wr w2 w3 w4 : World} {p : Nat} {hv hv2 v v4 : Value} {done x : List Int} (h : Feeding w1 wr p hv v done)
    (hs : Spl w2 p hv2 (runW (runW st0 done).1 x).1) (hm : Moved wr w2 p hv hv2) (hf : Fr w2 w3 (fun _ => False)) (l l2 : List Pair)
    (h1 : l.map (·.1) = (runW st0 done).2) (h2 : w3.ownsRow w1.heap.size 43 2 v (runW st0 done).2.length (l.flatMap pairCells)) (h3 : ∀ y ∈ l, PairOk w3 (Inert p hv2) y)
    (g1 : l2.map (·.1) = (runW (runW st0 done).1 x).2) (g3 : ∀ y ∈ l2, PairOk w3 (Inert p hv2) y)
    (ho : w4.ownsRow w1.heap.size 43 2 v4 ((runW st0 done).2.length + (runW (runW st0 done).1 x).2.length) (l.flatMap pairCells ++ l2.flatMap pairCells)) (hg : w3.grownBy w4 v.ownBlock) :
    Feeding w1 w4 p hv2 v4 (done ++ x) := by
  have f1 : Fr w3 w4 (fun k => some k = v.ownBlock) := Fr.ofGrown hg
  have hs3 := hs.fr hf (fun h => h) (fun _ _ h => h)
  have each : ∀ y, PairOk w3 (Inert p hv2) y → PairOk w4 (Inert p hv2) y := fun y hy => by
    unfold PairOk at hy ⊢
    split at hy
    · exact hy
    · exact ⟨f1.own hy.1 fun g hg' e => own_own_apart hy.1 h2 (by decide) g hg' e.symm, hy.2⟩
  refine ⟨?_, ?_, ?_⟩
  · rw [runW_append]
    exact hs3.fr f1 (fun e => own_apart h2 hs3.1 (by decide) e.symm) (fun g hg' e => own_own_apart h2 hs3.2 (by decide) g e.symm hg')
  · exact ((h.moved.trans hm).fresh hf (fun _ h => h.elim)).fresh f1 (fun k e => (h2.lt k e.symm).1)
  · rw [runW_append]
    refine ⟨l ++ l2, by simp [h1, g1], by simpa using ho, fun y hy => ?_⟩
    rcases List.mem_append.1 hy with hy | hy
    · exact each y (h3 y hy)
    · exact each y (g3 y hy)

theorem take_ok {A' : Option Addr} {n' c' t : Nat} {W : World} {rem : List Int} (hr : Rd W 1 A' n' (rem.map u8v)) (hc : n' ≤ c') (ht : t ≤ n') :
    Rd W 1 (cutA A' c' 0 1) t ((rem.take t).map u8v) := by
  have := hr.cutA (lo := 0) (hi := t) (Nat.zero_le _) ht hc
  simpa using this

theorem feeds_walk (A : Option Addr) (n cap : Nat) (bs : List Int) (Ac : Option Addr) (nc cc : Nat) (zs : List Int) (W : World) (hb : ∀ x ∈ bs, 0 ≤ x ∧ x ≤ 255) (hbn : bs.length = n) (hr : Rd W 1 A n (bs.map u8v)) (hnc : n ≤ cap)
    (hn : n ≤ 1048576) (hzn : zs.length = nc) (hrz : Rd W 1 Ac nc (zs.map (Value.int .i64))) (hz : ∀ z ∈ zs, -9223372036854775808 ≤ z ∧ z ≤ 9223372036854775807) :
    Calls Try.prog 4 #[.slice A n cap, .slice Ac nc cc] W fun e w' => e = .returned (.bool true) ∧ Fr W w' (fun _ => False) := by
  obtain ⟨i0, hi0, hz0, hz1, hz2⟩ := info_parts info43
  have HB := Lib.hid hb
  have HN := Lib.hid hbn
  have HR := Lib.hid hr
  have HZN := Lib.hid hzn
  have HRZ := Lib.hid hrz
  have HZ := Lib.hid hz
  clear hb hbn hr hzn hrz hz
  by_cases hc : 100 < nc
  · go_enter Try.func4, Try.ntmps4
    go_wp2_with fail
    refine (new_any W).mono ?_
    rintro e w1 ⟨p, rfl, hs1, hf1, hp⟩
    have HF1 := Lib.hid hf1
    clear hs1 hf1
    go_wp2_with fail
    refine (alive_true w1).mono ?_
    rintro e w2 ⟨rfl, hf2⟩
    have HF2 := Lib.hid hf2
    clear hf2
    go_wp2_with fail
    go_ret
    exact ⟨rfl, HF1.out.trans HF2.out (fun _ _ h => h) (fun _ _ h => h)⟩
  · go_enter Try.func4, Try.ntmps4
    go_wp2_with fail
    refine (new_any W).mono ?_
    rintro e w1 ⟨p, rfl, hs1, hf1, hp⟩
    have HS1 := Lib.hid hs1
    have HF1 := Lib.hid hf1
    clear hs1 hf1
    go_wp2_with fail
    go_loopw [6, 7, 8] (fun v6 v7 v8 wr => ∃ k hv A' n' c' done rem, k ≤ nc ∧ v8 = .int .i64 (k : Nat) ∧ v7 = .slice A' n' c' ∧ n' ≤ c' ∧ n' ≤ n ∧ bs = done ++ rem ∧ rem.length = n' ∧ Rd W 1 A' n' (rem.map u8v) ∧ Feeding w1 wr p hv v6 done) (fun _ _ v8 _ => nc - (intOf v8).toNat)
    case atStart => exact ⟨0, .slice none 0 0, A, n, cap, [], bs, Nat.zero_le _, rfl, rfl, hnc, Nat.le_refl _, rfl, HN.out, HR.out, HS1.out, Moved.refl _ _ _, [], rfl, World.ownsRow_nil _ _ _ _, fun x hx => by cases hx⟩
    case round =>
      obtain ⟨k, hv, A', n', c', done, rem, hk, rfl, rfl, hnc', hnn, hbs, hrl, hrd, hfe⟩ := hrel
      have HBS := Lib.hid hbs
      have HRL := Lib.hid hrl
      have HRD := Lib.hid hrd
      have HFE := Lib.hid hfe
      clear hbs hrl hrd hfe
      have hfr : Fr W wr (fun _ => False) := HF1.out.trans HFE.out.moved.fr (fun _ _ h => h) (fun i hi h => by
        rcases h with h | h
        · omega
        · simp [Value.ownBlock] at h)
      have HFR := Lib.hid hfr
      have hinert : Hid (∀ b, b < W.heap.size → Inert p hv b) := fun b hb => by
        refine ⟨by omega, ?_⟩
        rcases HFE.out.moved.stays with e | e | ⟨g, e, hg⟩
        · rw [e]; simp [Value.ownBlock]
        · rw [e]; simp
        · rw [e]
          intro x
          injection x with x
          have := HF1.out.size
          omega
      have hdone : done.length + n' = n := by
        rw [← HRL.out, ← HN.out, HBS.out, List.length_append]
      have hil := runW_len st0 done
      clear hfr
      by_cases hlt : k < nc
      · obtain ⟨bz, oz, rfl, hcz⟩ := HRZ.out.2 (by omega)
        have hkz : k < zs.length := by rw [HZN.out]; exact hlt
        obtain ⟨z, hzz⟩ : ∃ z, zs[k] = z := ⟨_, rfl⟩
        have hcell := hcz k (.int .i64 z) (by rw [List.getElem?_map, List.getElem?_eq_getElem hkz, hzz]; rfl)
        have hbw : bz < W.heap.size := World.block_lt_of_cell? W _ hcell
        have hcell : wr.cell? ⟨bz, oz + k, none⟩ = some (.int .i64 z) := (World.cell?_of_block (w := W) (HFR.out.block bz hbw (fun h => h))).trans hcell
        obtain ⟨z0, z1⟩ := HZ.out z (by rw [← hzz]; exact List.getElem_mem hkz)
        clear hcz hzz hbw hkz
        by_cases hbad : z < 0
        · skip
          have hsl : ∀ w, (Instr.slice 22 (.slice A' n' c') none (some (.int .i64 0)) none).run Try.prog w = .ok (.slice (cutA A' c' 0 1) 0 c') w := fun w => run_cut_hi w 22 5 1 Try.underlying22 size5 A' n' c' 0 (by omega)
          have hsl2 : ∀ w, (Instr.slice 22 (.slice A' n' c') (some (.int .i64 0)) none none).run Try.prog w = .ok (.slice (cutA A' c' 0 1) (n' - 0) (c' - 0)) w := fun w => run_cut_lo w 22 5 1 Try.underlying22 size5 A' n' c' 0 (by omega)
          have HX := Lib.hid (show Rd W 1 (cutA A' c' 0 1) 0 ((rem.take 0).map u8v) from take_ok HRD.out hnc' (by omega))
          have HXI : Hid (∀ b off, (cutA A' c' 0 1) = some ⟨b, off, none⟩ → 0 < 0 → Inert p hv b) := fun b off e h => hinert.out b (Rd.lt (by have := HX.out; rw [e] at this; exact this) h (by omega))
          have HXB : Hid (∀ y ∈ rem.take 0, 0 ≤ y ∧ y ≤ 255) := fun y hy => HB.out y (by rw [HBS.out]; exact List.mem_append_right _ (List.mem_of_mem_take hy))
          have HXL : Hid ((rem.take 0).length = 0) := by show _ = _; rw [List.length_take, HRL.out]; omega
          go_wp2_with fail
          refine (feed_spl HFE.out.spl (st0_inv.run done (fun y hy => HB.out y (by rw [HBS.out]; exact List.mem_append_left _ hy))) (cutA A' c' 0 1) 0 c' (rem.take 0) HXB.out HXL.out (HX.out.fr HFR.out (fun _ _ _ _ h => h)) HXI.out (by omega)).mono ?_
          rintro e w2 ⟨v2, hv2, rfl, hs2, hm2, hit2⟩
          have hil2 := runW_len (runW st0 done).1 (rem.take 0)
          rw [HXL.out] at hil2
          have HS2 := Lib.hid hs2
          have HM2 := Lib.hid hm2
          have HI2 := Lib.hid hit2
          clear hs2 hm2 hit2
          go_wp2_with fail
          refine (back_any HI2.out (by omega)).mono ?_
          rintro e w3 ⟨v3, rfl, hi3, hf3⟩
          obtain ⟨m, m1, m2, m3⟩ := hi3
          obtain ⟨l, l1, l2, l3⟩ := (ItemsT.moved HFE.out.items (by decide) (by decide) HFE.out.spl HM2.out).fr hf3 (I' := Inert p hv2) (fun _ _ h => h) (fun _ _ h => h) (fun _ _ h => h)
          obtain ⟨A3, c3, rfl, -, -, mrd, -, -⟩ := own_rd m2
          have M1 := Lib.hid m1
          have M2 := Lib.hid mrd
          have M3 := Lib.hid m3
          have L1 := Lib.hid l1
          have L2 := Lib.hid l2
          have L3 := Lib.hid l3
          have HF3 := Lib.hid hf3
          have HC1 := Lib.hid (cells_one m m3)
          have hq1 : (runW st0 done).2.length + (runW (runW st0 done).1 (rem.take 0)).2.length ≤ maxLen := by simp only [maxLen]; omega
          have hq2 : ((runW st0 done).2.length + (runW (runW st0 done).1 (rem.take 0)).2.length) * 32 ≤ 140737488355328 := by omega
          have hbs3 : w1.heap.size ≤ w3.heap.size := by have := HFE.out.moved.fr.size; have := HM2.out.fr.size; have := hf3.size; omega
          clear m1 m2 m3 mrd l1 l2 l3 hf3
          go_wp2_with (at_builtin; refine wpList_append_rd _ rfl (.tmp 40) (.tmp 46) 26 rfl w1.heap.size 43 i0 _ 2 32 Try.underlying26 hi0 hz0 hz1 hz2 rfl (by decide) u6 _ _ rfl L2.out A3 _ c3 _ rfl M2.out HC1.out hq1 hq2 hbs3 ?_; intro v4 w4 hown hg4 _)
          have hfe4 := Feeding.next HFE.out HS2.out HM2.out HF3.out l m L1.out L2.out L3.out M1.out M3.out hown hg4
          go_roundw
          case rel => exact ⟨k + 1, hv2, cutA A' c' 0 1, n' - 0, c' - 0, done ++ rem.take 0, rem.drop 0, by omega, by go_num, rfl, by omega, by omega, by rw [HBS.out, List.append_assoc, List.take_append_drop], by rw [List.length_drop, HRL.out], drop_ok HRD.out hnc' HRL.out (by omega), hfe4⟩
          case measure => simp [intOf]; omega
        · by_cases hbig : (n' : Int) < z
          · skip
            have hsl : ∀ w, (Instr.slice 22 (.slice A' n' c') none (some (.int .i64 0)) none).run Try.prog w = .ok (.slice (cutA A' c' 0 1) 0 c') w := fun w => run_cut_hi w 22 5 1 Try.underlying22 size5 A' n' c' 0 (by omega)
            have hsl2 : ∀ w, (Instr.slice 22 (.slice A' n' c') (some (.int .i64 0)) none none).run Try.prog w = .ok (.slice (cutA A' c' 0 1) (n' - 0) (c' - 0)) w := fun w => run_cut_lo w 22 5 1 Try.underlying22 size5 A' n' c' 0 (by omega)
            have HX := Lib.hid (show Rd W 1 (cutA A' c' 0 1) 0 ((rem.take 0).map u8v) from take_ok HRD.out hnc' (by omega))
            have HXI : Hid (∀ b off, (cutA A' c' 0 1) = some ⟨b, off, none⟩ → 0 < 0 → Inert p hv b) := fun b off e h => hinert.out b (Rd.lt (by have := HX.out; rw [e] at this; exact this) h (by omega))
            have HXB : Hid (∀ y ∈ rem.take 0, 0 ≤ y ∧ y ≤ 255) := fun y hy => HB.out y (by rw [HBS.out]; exact List.mem_append_right _ (List.mem_of_mem_take hy))
            have HXL : Hid ((rem.take 0).length = 0) := by show _ = _; rw [List.length_take, HRL.out]; omega
            go_wp2_with fail
            refine (feed_spl HFE.out.spl (st0_inv.run done (fun y hy => HB.out y (by rw [HBS.out]; exact List.mem_append_left _ hy))) (cutA A' c' 0 1) 0 c' (rem.take 0) HXB.out HXL.out (HX.out.fr HFR.out (fun _ _ _ _ h => h)) HXI.out (by omega)).mono ?_
            rintro e w2 ⟨v2, hv2, rfl, hs2, hm2, hit2⟩
            have hil2 := runW_len (runW st0 done).1 (rem.take 0)
            rw [HXL.out] at hil2
            have HS2 := Lib.hid hs2
            have HM2 := Lib.hid hm2
            have HI2 := Lib.hid hit2
            clear hs2 hm2 hit2
            go_wp2_with fail
            refine (back_any HI2.out (by omega)).mono ?_
            rintro e w3 ⟨v3, rfl, hi3, hf3⟩
            obtain ⟨m, m1, m2, m3⟩ := hi3
            obtain ⟨l, l1, l2, l3⟩ := (ItemsT.moved HFE.out.items (by decide) (by decide) HFE.out.spl HM2.out).fr hf3 (I' := Inert p hv2) (fun _ _ h => h) (fun _ _ h => h) (fun _ _ h => h)
            obtain ⟨A3, c3, rfl, -, -, mrd, -, -⟩ := own_rd m2
            have M1 := Lib.hid m1
            have M2 := Lib.hid mrd
            have M3 := Lib.hid m3
            have L1 := Lib.hid l1
            have L2 := Lib.hid l2
            have L3 := Lib.hid l3
            have HF3 := Lib.hid hf3
            have HC1 := Lib.hid (cells_one m m3)
            have hq1 : (runW st0 done).2.length + (runW (runW st0 done).1 (rem.take 0)).2.length ≤ maxLen := by simp only [maxLen]; omega
            have hq2 : ((runW st0 done).2.length + (runW (runW st0 done).1 (rem.take 0)).2.length) * 32 ≤ 140737488355328 := by omega
            have hbs3 : w1.heap.size ≤ w3.heap.size := by have := HFE.out.moved.fr.size; have := HM2.out.fr.size; have := hf3.size; omega
            clear m1 m2 m3 mrd l1 l2 l3 hf3
            go_wp2_with (at_builtin; refine wpList_append_rd _ rfl (.tmp 40) (.tmp 46) 26 rfl w1.heap.size 43 i0 _ 2 32 Try.underlying26 hi0 hz0 hz1 hz2 rfl (by decide) u6 _ _ rfl L2.out A3 _ c3 _ rfl M2.out HC1.out hq1 hq2 hbs3 ?_; intro v4 w4 hown hg4 _)
            have hfe4 := Feeding.next HFE.out HS2.out HM2.out HF3.out l m L1.out L2.out L3.out M1.out M3.out hown hg4
            go_roundw
            case rel => exact ⟨k + 1, hv2, cutA A' c' 0 1, n' - 0, c' - 0, done ++ rem.take 0, rem.drop 0, by omega, by go_num, rfl, by omega, by omega, by rw [HBS.out, List.append_assoc, List.take_append_drop], by rw [List.length_drop, HRL.out], drop_ok HRD.out hnc' HRL.out (by omega), hfe4⟩
            case measure => simp [intOf]; omega
          · obtain ⟨t, rfl⟩ : ∃ t : Nat, z = (t : Int) := ⟨z.toNat, by omega⟩
            have htn : t ≤ n' := by omega
            clear hbad hbig
            have hsl : ∀ w, (Instr.slice 22 (.slice A' n' c') none (some (.int .i64 (t : Int))) none).run Try.prog w = .ok (.slice (cutA A' c' 0 1) t c') w := fun w => run_cut_hi w 22 5 1 Try.underlying22 size5 A' n' c' t (by omega)
            have hsl2 : ∀ w, (Instr.slice 22 (.slice A' n' c') (some (.int .i64 (t : Int))) none none).run Try.prog w = .ok (.slice (cutA A' c' t 1) (n' - t) (c' - t)) w := fun w => run_cut_lo w 22 5 1 Try.underlying22 size5 A' n' c' t (by omega)
            have HX := Lib.hid (show Rd W 1 (cutA A' c' 0 1) t ((rem.take t).map u8v) from take_ok HRD.out hnc' (by omega))
            have HXI : Hid (∀ b off, (cutA A' c' 0 1) = some ⟨b, off, none⟩ → 0 < t → Inert p hv b) := fun b off e h => hinert.out b (Rd.lt (by have := HX.out; rw [e] at this; exact this) h (by omega))
            have HXB : Hid (∀ y ∈ rem.take t, 0 ≤ y ∧ y ≤ 255) := fun y hy => HB.out y (by rw [HBS.out]; exact List.mem_append_right _ (List.mem_of_mem_take hy))
            have HXL : Hid ((rem.take t).length = t) := by show _ = _; rw [List.length_take, HRL.out]; omega
            go_wp2_with fail
            refine (feed_spl HFE.out.spl (st0_inv.run done (fun y hy => HB.out y (by rw [HBS.out]; exact List.mem_append_left _ hy))) (cutA A' c' 0 1) t c' (rem.take t) HXB.out HXL.out (HX.out.fr HFR.out (fun _ _ _ _ h => h)) HXI.out (by omega)).mono ?_
            rintro e w2 ⟨v2, hv2, rfl, hs2, hm2, hit2⟩
            have hil2 := runW_len (runW st0 done).1 (rem.take t)
            rw [HXL.out] at hil2
            have HS2 := Lib.hid hs2
            have HM2 := Lib.hid hm2
            have HI2 := Lib.hid hit2
            clear hs2 hm2 hit2
            go_wp2_with fail
            refine (back_any HI2.out (by omega)).mono ?_
            rintro e w3 ⟨v3, rfl, hi3, hf3⟩
            obtain ⟨m, m1, m2, m3⟩ := hi3
            obtain ⟨l, l1, l2, l3⟩ := (ItemsT.moved HFE.out.items (by decide) (by decide) HFE.out.spl HM2.out).fr hf3 (I' := Inert p hv2) (fun _ _ h => h) (fun _ _ h => h) (fun _ _ h => h)
            obtain ⟨A3, c3, rfl, -, -, mrd, -, -⟩ := own_rd m2
            have M1 := Lib.hid m1
            have M2 := Lib.hid mrd
            have M3 := Lib.hid m3
            have L1 := Lib.hid l1
            have L2 := Lib.hid l2
            have L3 := Lib.hid l3
            have HF3 := Lib.hid hf3
            have HC1 := Lib.hid (cells_one m m3)
            have hq1 : (runW st0 done).2.length + (runW (runW st0 done).1 (rem.take t)).2.length ≤ maxLen := by simp only [maxLen]; omega
            have hq2 : ((runW st0 done).2.length + (runW (runW st0 done).1 (rem.take t)).2.length) * 32 ≤ 140737488355328 := by omega
            have hbs3 : w1.heap.size ≤ w3.heap.size := by have := HFE.out.moved.fr.size; have := HM2.out.fr.size; have := hf3.size; omega
            clear m1 m2 m3 mrd l1 l2 l3 hf3
            go_wp2_with (at_builtin; refine wpList_append_rd _ rfl (.tmp 40) (.tmp 46) 26 rfl w1.heap.size 43 i0 _ 2 32 Try.underlying26 hi0 hz0 hz1 hz2 rfl (by decide) u6 _ _ rfl L2.out A3 _ c3 _ rfl M2.out HC1.out hq1 hq2 hbs3 ?_; intro v4 w4 hown hg4 _)
            have hfe4 := Feeding.next HFE.out HS2.out HM2.out HF3.out l m L1.out L2.out L3.out M1.out M3.out hown hg4
            go_roundw
            case rel => exact ⟨k + 1, hv2, cutA A' c' t 1, n' - t, c' - t, done ++ rem.take t, rem.drop t, by omega, by go_num, rfl, by omega, by omega, by rw [HBS.out, List.append_assoc, List.take_append_drop], by rw [List.length_drop, HRL.out], drop_ok HRD.out hnc' HRL.out (by omega), hfe4⟩
            case measure => simp [intOf]; omega
      · have hkn : k = nc := by omega
        subst hkn
        have HX := Lib.hid (show Rd W 1 A' n' ((rem).map u8v) from HRD.out)
        have HXI : Hid (∀ b off, A' = some ⟨b, off, none⟩ → 0 < n' → Inert p hv b) := fun b off e h => hinert.out b (Rd.lt (by have := HX.out; rw [e] at this; exact this) h (by omega))
        have HXB : Hid (∀ y ∈ rem, 0 ≤ y ∧ y ≤ 255) := fun y hy => HB.out y (by rw [HBS.out]; exact List.mem_append_right _ (id hy))
        have HXL : Hid ((rem).length = n') := HRL.out
        go_wp2_with fail
        refine (feed_spl HFE.out.spl (st0_inv.run done (fun y hy => HB.out y (by rw [HBS.out]; exact List.mem_append_left _ hy))) A' n' c' (rem) HXB.out HXL.out (HX.out.fr HFR.out (fun _ _ _ _ h => h)) HXI.out (by omega)).mono ?_
        rintro e w2 ⟨v2, hv2, rfl, hs2, hm2, hit2⟩
        have hil2 := runW_len (runW st0 done).1 (rem)
        rw [HXL.out] at hil2
        have HS2 := Lib.hid hs2
        have HM2 := Lib.hid hm2
        have HI2 := Lib.hid hit2
        clear hs2 hm2 hit2
        go_wp2_with fail
        refine (back_any HI2.out (by omega)).mono ?_
        rintro e w3 ⟨v3, rfl, hi3, hf3⟩
        obtain ⟨m, m1, m2, m3⟩ := hi3
        obtain ⟨l, l1, l2, l3⟩ := (ItemsT.moved HFE.out.items (by decide) (by decide) HFE.out.spl HM2.out).fr hf3 (I' := Inert p hv2) (fun _ _ h => h) (fun _ _ h => h) (fun _ _ h => h)
        obtain ⟨A3, c3, rfl, -, -, mrd, -, -⟩ := own_rd m2
        have M1 := Lib.hid m1
        have M2 := Lib.hid mrd
        have M3 := Lib.hid m3
        have L1 := Lib.hid l1
        have L2 := Lib.hid l2
        have L3 := Lib.hid l3
        have HF3 := Lib.hid hf3
        have HC1 := Lib.hid (cells_one m m3)
        have hq1 : (runW st0 done).2.length + (runW (runW st0 done).1 (rem)).2.length ≤ maxLen := by simp only [maxLen]; omega
        have hq2 : ((runW st0 done).2.length + (runW (runW st0 done).1 (rem)).2.length) * 32 ≤ 140737488355328 := by omega
        have hbs3 : w1.heap.size ≤ w3.heap.size := by have := HFE.out.moved.fr.size; have := HM2.out.fr.size; have := hf3.size; omega
        clear m1 m2 m3 mrd l1 l2 l3 hf3
        go_wp2_with (at_builtin; refine wpList_append_rd _ rfl (.tmp 51) (.tmp 55) 26 rfl w1.heap.size 43 i0 _ 2 32 Try.underlying26 hi0 hz0 hz1 hz2 rfl (by decide) u6 _ _ rfl L2.out A3 _ c3 _ rfl M2.out HC1.out hq1 hq2 hbs3 ?_; intro v4 w4 hown hg4 _)
        have hfe4 := Feeding.next HFE.out HS2.out HM2.out HF3.out l m L1.out L2.out L3.out M1.out M3.out hown hg4
        rw [← HBS.out] at hfe4
        have HFE4 := Lib.hid hfe4
        clear hfe4 hown hg4
        have hfr4 : Fr W w4 (fun _ => False) := HF1.out.trans HFE4.out.moved.fr (fun _ _ h => h) (fun i hi h => by
          rcases h with h | h
          · omega
          · simp [Value.ownBlock] at h)
        have HFR4 := Lib.hid hfr4
        clear hfr4
        go_wp2_with fail
        refine (split_any A n cap bs w4 HB.out HN.out (HR.out.fr HFR4.out (fun _ _ _ _ h => h)) (by omega)).mono ?_
        rintro e w5 ⟨v5, r5, rfl, hi5, ho5, hf5⟩
        have HI5 := Lib.hid hi5
        have HF5 := Lib.hid hf5
        have HO5 := Lib.hid ho5
        clear hi5 ho5 hf5
        have hilb := runW_len st0 bs
        rw [HN.out] at hilb
        go_wp2_with fail
        refine (back_any HI5.out (by omega)).mono ?_
        rintro e w6 ⟨v6, rfl, hi6, hf6⟩
        obtain ⟨A6, c6, rfl, ht6, -⟩ := hi6.tells
        obtain ⟨A7, c7, rfl, ht7, -⟩ := HFE4.out.items.tells
        have HT6 := Lib.hid ht6
        have HT7 := Lib.hid ((ht7.fr HF5.out).fr hf6)
        have HF6 := Lib.hid hf6
        have HSP6 := Lib.hid ((HFE4.out.spl.fr HF5.out (fun h => h) (fun _ _ h => h)).fr hf6 (fun h => h) (fun _ _ h => h))
        clear hi6 hf6 ht6 ht7
        have HIL : Hid (∀ it ∈ (runW st0 bs).2, (bytesOf it).length ≤ 1099511627776) := fun it h => by
          have := run_item_len bs st0 st0_inv HB.out it h
          omega
        have hheld := (st0_inv.run bs HB.out).held
        go_wp2_with fail
        refine (items_true A7 A6 _ c7 c6 (runW st0 bs).2 w6 HT7.out HT6.out (by omega) HIL.out).mono ?_
        rintro e w7 ⟨rfl, m7, hw7⟩
        have HF7 := Lib.hid (show Fr w6 w7 (fun _ => False) by rw [hw7]; exact Fr.drewN _ _ _)
        have HSP7 := Lib.hid (HSP6.out.fr HF7.out (fun h => h) (fun _ _ h => h))
        clear hw7
        go_wp2_with fail
        refine (rest_spl HSP7.out (by omega)).mono ?_
        rintro e w8 ⟨r8, rfl, ho8, hf8⟩
        obtain ⟨A8, c8, rfl, -, -, hr8, -⟩ := own_rd ho8
        obtain ⟨A9, c9, rfl, -, -, hr9, -⟩ := own_rd HO5.out
        have HR8 := Lib.hid hr8
        have HR9 := Lib.hid (((hr9.fr HF6.out (fun _ _ _ _ h => h)).fr HF7.out (fun _ _ _ _ h => h)).fr hf8 (fun _ _ _ _ h => h))
        have HF8 := Lib.hid hf8
        clear ho8 hf8 hr8 hr9
        go_wp2_with fail
        refine (same_true A8 A9 _ c8 c9 (runW st0 bs).1.held w8 HR8.out HR9.out (by omega)).mono ?_
        rintro e w9 ⟨rfl, m9, hw9⟩
        have HF9 := Lib.hid (show Fr w8 w9 (fun _ => False) by rw [hw9]; exact Fr.drewN _ _ _)
        clear hw9
        go_wp2_with fail
        refine (alive_true w9).mono ?_
        rintro e w10 ⟨rfl, hf10⟩
        have HF10 := Lib.hid hf10
        clear hf10
        go_wp2_with fail
        go_ret
        have t : ∀ {a b c : World}, Fr a b (fun _ => False) → Fr b c (fun _ => False) → Fr a c (fun _ => False) := fun h k => h.trans k (fun _ _ h => h) (fun _ _ h => h)
        exact ⟨rfl, t (t (t (t (t (t HFR4.out HF5.out) HF6.out) HF7.out) HF8.out) HF9.out) HF10.out⟩
end Go.Proofs.Ytcjednmenbdmnaa
