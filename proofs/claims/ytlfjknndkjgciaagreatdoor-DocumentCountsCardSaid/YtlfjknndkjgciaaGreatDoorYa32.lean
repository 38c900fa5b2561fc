import Derived.Test.YtlfjknndkjgciaaGreatDoorYa31
import Derived.Test.YtlfjknndkjgciaaGreatDoorYa27
namespace Go.Proofs.YtlfjknndkjgciaaGreatDoor
open Go.RowKit Go.Mem Go.Lin Go.Dcm

/-- what stays through the loops -/
structure CK (w W : World) (A : Option Addr) (l : List LineL) (q : Nat) (d : DocL) (ar az al ad : Value) : Prop where
  L : LinesAt W A l
  v : DVar 72 71 78 37 W q d ar az al ad
  f : Fr w W (fun _ => False)
theorem CK.kept {w W W' : World} {A : Option Addr} {l : List LineL} {q : Nat} {d : DocL} {ar az al ad : Value} (h : CK w W A l q d ar az al ad) (hf : Fr W W' (fun _ => False)) : CK w W' A l q d ar az al ad := ⟨h.L.kept hf, h.v.kept hf, ff0 h.f hf⟩
/-- the first loop: kinds are counted -/
def C1 (W0 : World) (l : List LineL) (n : Nat) (k : Nat) (v : Value) (wr : World) : Prop := ∃ i : Nat, i + k = l.length ∧ v = intV (i : Int) ∧ Blk wr n 3 (cntC (l.take i)) ∧ Fr W0 wr (fun _ => False)
def C2 (W0 : World) (n : Nat) (C : Array Value) (zs : List ZoneL) (k : Nat) (v6 v8 v9 : Value) (wr : World) : Prop := ∃ (i : Nat) (last : Int), i + k = zs.length ∧ v6 = intV (eraN (zs.take i)) ∧ v8 = intV last ∧ v9 = intV (i : Int) ∧ rises last (flatZ (zs.drop i)) ∧ Blk wr n 3 C ∧ Fr W0 wr (fun _ => False)
def C3 (W0 : World) (ls : List Int) (es : List EraL) (r : List (Int × EraL)) (k : Nat) (v8 v11 : Value) (wr : World) : Prop := ∃ (j : Nat) (last : Int), j + k = es.length ∧ v8 = intV last ∧ v11 = intV (j : Int) ∧ rises last ((ls.zip es).drop j ++ r) ∧ Fr W0 wr (fun _ => False)
theorem cnt_put {w : World} {n : Nat} {l : List LineL} {i m : Nat} (hlt : i < l.length) (hb : Blk w n 3 (cntC (l.take i))) (hm : m < 6) (hk : l[i].kind = (m : Int)) : Blk (w.setCell ⟨n, m, none⟩ (intV ((kindN (m : Int) (l.take i) : Int) + 1))) n 3 (cntC (l.take (i + 1))) :=
  hb.put' m _ (by rw [List.take_succ_eq_append_getElem hlt]; exact cnt_snoc _ _ m hm hk)
theorem cnt_same {l : List LineL} {i : Nat} (hlt : i < l.length) (hk : l[i].kind < 0 ∨ 6 ≤ l[i].kind) : cntC (l.take (i + 1)) = cntC (l.take i) := by rw [List.take_succ_eq_append_getElem hlt]; exact cnt_other _ _ hk
theorem line_kind {w : World} {A : Option Addr} {l : List LineL} (h : LinesAt w A l) {i : Nat} (hi : i < l.length) : ∃ b off, A = some ⟨b, off, none⟩ ∧ w.cell? ⟨b, off + i * 29, none⟩ = some (intV l[i].kind) ∧ w.cell? ⟨b, off + i * 29 + 27, none⟩ = some (intV l[i].err) := by
  obtain ⟨b, off, e, hc⟩ := h.at_ hi
  exact ⟨b, off, e, hc 0 (show 0 < 29 by decide), hc 27 (show 27 < 29 by decide)⟩
theorem line_era {w : World} {A : Option Addr} {l : List LineL} (h : LinesAt w A l) {i : Nat} (hi : i < l.length) : ∃ b off, A = some ⟨b, off, none⟩ ∧ ∀ j, j < (eraC l[i].era).size → w.cell? ⟨b, off + i * 29 + 14 + j, none⟩ = (eraC l[i].era)[j]? := by
  obtain ⟨b, off, e, hc⟩ := h.at_ hi
  refine ⟨b, off, e, fun j hj => ?_⟩
  have hj : j < 13 := hj
  rw [Nat.add_assoc _ 14 j, hc (14 + j) (show 14 + j < 29 by omega)]
  exact part_era l[i] j hj
set_option maxRecDepth 100000 in
set_option maxHeartbeats 6400000 in
theorem counts_light (l : List LineL) (A : Option Addr) (c : Nat) (w : World) (hl : LinesAt w A l) (hm : l.length ≤ maxLen) (hw : LOk w) (hb : lightD l = true) : Calls Tryz.prog 6 #[.slice A l.length c] w (TrueR w) := by
  have HW := Lib.hid (fun (W : World) (f : Fr w W (fun _ => False)) => alive10_any W (hw.fr f))
  have hlen := light_len hb
  have HT := Lib.hid (light10_any l A c w hl hm true hb)
  have HL := Lib.hid hl
  have HZO := Lib.hid (zn_doc (l := l))
  have hcn := counts_of l
  have hri := rises_of l
  obtain ⟨d, hd⟩ : ∃ d, ofD l = d := ⟨_, rfl⟩
  have HD := Lib.hid (fun (W : World) (f : Fr w W (fun _ => False)) => dOf_any l A c W (hl.kept f) (by omega))
  have hszs := sizes_of l
  rw [hd] at HD HZO hszs hcn hri
  have hez := eraN_le d.zones HZO.out
  have hwz := wrongN_le d.diags
  have hfz := fiveN_le l
  obtain ⟨hcr, hcz, hcl, hce⟩ := hcn
  obtain ⟨hri, hrm⟩ := hri
  have HRI := Lib.hid hri
  have HRM := Lib.hid hrm
  have HCE := Lib.hid (And.intro hcr (And.intro hcz (And.intro hcl hce)))
  have hl6 : (l.length : Int) ≤ 60 := by omega
  clear hl hw hb hd hri hrm hcr hcz hcl hce
  go_enter Tryz.func6, Tryz.ntmps6
  go_wp2_with fail
  refine HT.out.mono ?_
  rintro e w2 ⟨rfl, hf2⟩
  have HD2 := Lib.hid (HD.out w2 hf2)
  have HF2 := Lib.hid hf2
  clear hf2
  go_wp2_with fail
  refine HD2.out.mono ?_
  rintro e w3 ⟨vr, vz, vl, vd, rfl, hd3, hf3⟩
  obtain ⟨Ar, cr, Az, cz, Al, cl, Ad, cd, rfl, rfl, rfl, rfl⟩ := doc_slices hd3
  have hv := dvar_new 37 hd3
  have hn := Fr.new w3 (.cells #[.slice Ar d.rules.length cr, .slice Az d.zones.length cz, .slice Al d.links.length cl, .slice Ad d.diags.length cd] 37) (fun _ => False)
  have HK4 := Lib.hid (show CK w (w3.alloc (.cells #[.slice Ar d.rules.length cr, .slice Az d.zones.length cz, .slice Al d.links.length cl, .slice Ad d.diags.length cd] 37)) A l w3.heap.size d _ _ _ _ from ⟨HL.out.kept (ff0 (ff0 HF2.out hf3) hn), hv, ff0 (ff0 HF2.out hf3) hn⟩)
  obtain ⟨i0, hi0, hz0, hz1, hz2⟩ := info_parts infoInt
  obtain ⟨wM, hrun, hownM, hgM⟩ := run_make_full (P := Tryz.prog) (w3.alloc (.cells #[.slice Ar d.rules.length cr, .slice Az d.zones.length cz, .slice Al d.links.length cl, .slice Ad d.diags.length cd] 37)) 0 66 3 i0 _ 1 Tryz.underlying66 hi0 hz0 hz1 .i64 .i64 6 (by rw [hz2]; omega) (by simp only [maxLen]; omega) (Nat.zero_le _)
  have hrun : (Instr.makeSlice 66 (.int .i64 6) (.int .i64 6)).run Tryz.prog _ = _ := hrun
  have hfM := Fr.ofGrown hgM
  have hs4 : (w3.alloc (.cells #[.slice Ar d.rules.length cr, .slice Az d.zones.length cz, .slice Al d.links.length cl, .slice Ad d.diags.length cd] 37)).heap.size = w3.heap.size + 1 := by simp
  have HI := Lib.hid (show C1 (w3.alloc (.cells #[.slice Ar d.rules.length cr, .slice Az d.zones.length cz, .slice Al d.links.length cl, .slice Ad d.diags.length cd] 37)) l (w3.heap.size + 1) l.length (intV 0) wM from ⟨0, by simp, rfl, by rw [← hs4]; exact made_ints (w := w3.alloc (.cells #[.slice Ar d.rules.length cr, .slice Az d.zones.length cz, .slice Al d.links.length cl, .slice Ad d.diags.length cd] 37)) hownM, hfM.mono (fun i _ h => by cases h)⟩)
  clear hd3 hf3 hv hn hfM hownM hgM
  go_wp2_with fail
  obtain ⟨W4, hW4⟩ : ∃ W, w3.alloc (.cells #[.slice Ar d.rules.length cr, .slice Az d.zones.length cz, .slice Al d.links.length cl, .slice Ad d.diags.length cd] 37) = W := ⟨_, rfl⟩
  rw [hW4] at HK4 HI hs4
  clear hW4 hrun
  go_loopg [5] l.length (fun k v5 wr => C1 W4 l (w3.heap.size + 1) k v5 wr)
  case atStart => exact HI.out
  case round =>
    obtain ⟨i, hik, rfl, hb, hf⟩ := hrel
    by_cases hlt : i < l.length
    · obtain ⟨b, off, rfl, ck, -⟩ := line_kind (HK4.out.L.kept hf) hlt
      have hi1 : (i : Int) < (l.length : Int) := by omega
      by_cases hk : 0 ≤ l[i].kind ∧ l[i].kind < 6
      · obtain ⟨m, hm⟩ : ∃ m : Nat, l[i].kind = (m : Int) := ⟨l[i].kind.toNat, by omega⟩
        have hm6 : m < 6 := by omega
        have HB := Lib.hid (cnt_put hlt hb hm6 hm)
        have c1 := blkc hb m _ (cnt_at _ m hm6)
        have f1 := free_at hb m
        have hkn := kindN_le (m : Int) (l.take i)
        rw [List.length_take] at hkn
        rw [hm] at ck
        obtain ⟨q, hq⟩ : ∃ q, kindN (m : Int) (l.take i) = q := ⟨_, rfl⟩
        rw [hq] at c1 HB hkn
        have hqi : (q : Int) ≤ 60 := by omega
        have hm0 : (0 : Int) ≤ (m : Int) := by omega
        have hm7 : (m : Int) < 6 := by omega
        have HF := Lib.hid hf
        clear hb hf hk hm hq
        go_wp2_with fail
        go_roundg (l.length - (i + 1))
        case measure => omega
        case rel => exact ⟨i + 1, by omega, by go_num, HB.out, HF.out.fresh (Fr.set (S := fun k => k = w3.heap.size + 1) rfl) (fun i e => by omega)⟩
      · have hk2 : l[i].kind < 0 ∨ 6 ≤ l[i].kind := by omega
        have HB := Lib.hid hb
        have HF := Lib.hid hf
        have HC := Lib.hid (cnt_same hlt hk2)
        obtain ⟨kk, hkk⟩ : ∃ k, l[i].kind = k := ⟨_, rfl⟩
        rw [hkk] at ck hk2
        clear hb hf hk hkk
        rcases hk2 with hk2 | hk2
        · go_wp2_with fail
          go_roundg (l.length - (i + 1))
          case measure => omega
          case rel => exact ⟨i + 1, by omega, by go_num, by rw [HC.out]; exact HB.out, HF.out⟩
        · go_wp2_with fail
          go_roundg (l.length - (i + 1))
          case measure => omega
          case rel => exact ⟨i + 1, by omega, by go_num, by rw [HC.out]; exact HB.out, HF.out⟩
    · obtain rfl : i = l.length := by omega
      rw [List.take_length] at hb
      have HI2 := Lib.hid (show C2 W4 (w3.heap.size + 1) (cntC l) d.zones d.zones.length (intV 0) (intV (-1)) (intV 0) wr from ⟨0, -1, by simp, by simp [eraN], rfl, rfl, HRI.out, hb, hf⟩)
      have a1 := blkc (HK4.out.v.kept hf).b 1 _ rfl
      have hi1 : (l.length : Int) ≤ (l.length : Int) := Int.le_refl _
      clear hb hf HI
      go_wp2_with fail
      clear a1
      go_loopg [6, 8, 9] d.zones.length (fun k v6 v8 v9 wr => C2 W4 (w3.heap.size + 1) (cntC l) d.zones k v6 v8 v9 wr)
      case atStart => exact HI2.out
      case round =>
        obtain ⟨i, last, hik, rfl, rfl, rfl, hri, hb, hf⟩ := hrel
        have hK := HK4.out.kept hf
        have a1 := blkc hK.v.b 1 _ rfl
        by_cases hlt : i < d.zones.length
        · obtain ⟨bz, off, Ae, ce, An, cn, rfl, k0, k1, k2, hre, hrn⟩ := doc_zone hK.v.d hlt
          have hzo := HZO.out d.zones[i] (List.getElem_mem hlt)
          have HMz := Lib.hid (show ∀ p ∈ d.zones[i].lines.zip d.zones[i].eras, ∃ k : Nat, ∃ h : k < l.length, p = ((k : Int), l[k].era) from fun p hp => HRM.out p (List.mem_flatMap.2 ⟨_, List.getElem_mem hlt, hp⟩))
          rw [List.drop_eq_getElem_cons hlt, flat_cons] at hri
          have HEs := Lib.hid (show eraN (d.zones.take (i + 1)) = eraN (d.zones.take i) + ((d.zones[i].eras.length : Int) - 1) by rw [List.take_succ_eq_append_getElem hlt, eraN_snoc])
          have hel := eraN_le (d.zones.take i) (fun z hz => HZO.out z (List.mem_of_mem_take hz))
          rw [List.length_take] at hel
          obtain ⟨z, hz⟩ : ∃ z, d.zones[i] = z := ⟨_, rfl⟩
          obtain ⟨E, hE⟩ : ∃ E, eraN (d.zones.take i) = E := ⟨_, rfl⟩
          rw [hz] at k0 k1 k2 hre hrn hri HMz hzo HEs
          rw [hE] at HEs hel ⊢
          obtain ⟨hzl, hz1, hz8⟩ := hzo
          rw [← hzl] at k2 hrn
          have hz1i : (1 : Int) ≤ (z.eras.length : Int) := by omega
          have hz8i : (z.eras.length : Int) ≤ 8 := by omega
          have hE0 : 0 ≤ E := by omega
          have hE1 : E ≤ 840 := by omega
          have hi1 : (i : Int) < (d.zones.length : Int) := by omega
          have hn5 := Fr.new wr (.cells #[strV z.name, .slice Ae z.eras.length ce, .slice An z.eras.length cn] 71) (fun _ => False)
          have HZB := Lib.hid (Blk.made wr 71 #[strV z.name, .slice Ae z.eras.length ce, .slice An z.eras.length cn])
          have HRE := Lib.hid (Rd.fr hre hn5 (fun _ _ _ _ h => h))
          have HRN := Lib.hid (Rd.fr hrn hn5 (fun _ _ _ _ h => h))
          have HK5 := Lib.hid (hK.kept hn5)
          have HB5 := Lib.hid (hn5.blk hb (fun h => h))
          have HF5 := Lib.hid (ff0 hf hn5)
          have HRI3 := Lib.hid hri
          have hzle : z.lines.length = z.eras.length := hzl.symm
          clear hK hre hrn hb hf hri hel hn5 hz hE hzl
          go_wp2_with fail
          obtain ⟨W5, hW5⟩ : ∃ W, wr.alloc (.cells #[strV z.name, .slice Ae z.eras.length ce, .slice An z.eras.length cn] 71) = W := ⟨_, rfl⟩
          rw [hW5] at HZB HRE HRN HK5 HB5 HF5 ⊢
          clear hW5 a1 k0 k1 k2
          go_loopg [8, 11] z.eras.length (fun k v8 v11 wq => C3 W5 z.lines z.eras (flatZ (d.zones.drop (i + 1))) k v8 v11 wq)
          case atStart => exact ⟨0, last, by simp, rfl, rfl, HRI3.out, Fr.refl _ _⟩
          case round =>
            obtain ⟨j, lastj, hjk, rfl, rfl, hrj, hfj⟩ := hrel
            have z1 := blkc (hfj.blk HZB.out (fun h => h)) 1 _ rfl
            have z2 := blkc (hfj.blk HZB.out (fun h => h)) 2 _ rfl
            by_cases hjl : j < z.eras.length
            · obtain ⟨hlj, hrn⟩ := rises_next j hrj (by omega) hjl
              obtain ⟨kk, hkk, hpe⟩ := HMz.out (z.lines[j], z.eras[j]) (by
                have h : j < (z.lines.zip z.eras).length := by rw [List.length_zip]; omega
                have := List.getElem_mem h
                rwa [List.getElem_zip] at this)
              obtain ⟨he1, he2⟩ := Prod.mk.inj hpe
              obtain ⟨be, oe, rfl, hce⟩ := era_cells HRE.out hjl
              have hRN := HRN.out
              rw [← hzle] at hRN
              obtain ⟨bn, on, rfl, hcn⟩ := int_cell hRN (show j < z.lines.length by omega)
              obtain ⟨b, off2, rfl, hcl⟩ := line_era HK5.out.L hkk
              rw [he1] at hcn hlj hrn
              rw [he2] at hce
              obtain ⟨y, hy⟩ : ∃ y, l[kk].era = y := ⟨_, rfl⟩
              rw [hy] at hce hcl
              have hle1 : ((kk : Int) ≤ lastj) = False := by simp; omega
              have hle2 : ((l.length : Int) ≤ (kk : Int)) = False := by simp; omega
              have hd1 : decide ((kk : Int) ≤ lastj) = false := by simp; omega
              have hd2 : decide (l.length ≤ kk) = false := by simp; omega
              have hk0 : (0 : Int) ≤ (kk : Int) := by omega
              have hk1 : (kk : Int) < (l.length : Int) := by omega
              have hj0 : (0 : Int) ≤ (j : Int) := by omega
              have hj1 : (j : Int) < (z.eras.length : Int) := by omega
              have HCE := Lib.hid (cells_far hfj hce (Nat.le_refl _) (fun h => h))
              have HCL := Lib.hid (cells_far hfj hcl (Nat.le_refl _) (fun h => h))
              have cn0 := cell_far hfj hcn (fun h => h)
              have HRJ := Lib.hid hrn
              have HFJ := Lib.hid hfj
              clear hce hcl hcn hrj hrn hpe he1 he2 hy hRN hfj hle1 hle2
              go_wp2_with fail
              refine wp_region_held_drew (S := fun w' => Fr wr w' (fun _ => False)) (by kernel_rfl) (Fr.drew wr _) (fun hHeld => ?_)
              refine wpAnyH_take (i := 0) (v := ?_) rfl (by kernel_rfl) (by kernel_rfl) (by kernel_rfl) (fun _ _ _ h => h) (Or.inl ⟨by rfl, ?_⟩) (by assumption) ?_
              rotate_left
              · intro w' hSw
                have kz1 := cell_far hSw z1 (fun h => h); have kz2 := cell_far hSw z2 (fun h => h); have kn0 := cell_far hSw cn0 (fun h => h)
                go_simp
                try with_reducible rfl
              try simp only [Act.put, List.setIfInBounds_toArray, List.set_cons_zero, List.set_cons_succ, List.getElem_toArray, List.getElem_cons_zero]
              refine wpAnyH_take (i := 1) (v := ?_) rfl (by kernel_rfl) (by kernel_rfl) (by kernel_rfl) (fun _ _ _ h => h) (Or.inl ⟨by rfl, ?_⟩) (by assumption) ?_
              rotate_left
              · intro w' hSw
                have kz1 := cell_far hSw z1 (fun h => h); have kz2 := cell_far hSw z2 (fun h => h); have kn0 := cell_far hSw cn0 (fun h => h)
                go_simp
                try with_reducible rfl
              try simp only [Act.put, List.setIfInBounds_toArray, List.set_cons_zero, List.set_cons_succ, List.getElem_toArray, List.getElem_cons_succ, List.getElem_cons_zero]
              refine wpAnyH_take (i := 2) (v := ?_) rfl (by kernel_rfl) (by kernel_rfl) (by kernel_rfl) (fun _ _ _ h => h) (Or.inl ⟨by rfl, ?_⟩) (by assumption) ?_
              rotate_left
              · intro w' hSw
                have kz1 := cell_far hSw z1 (fun h => h); have kz2 := cell_far hSw z2 (fun h => h); have kn0 := cell_far hSw cn0 (fun h => h)
                go_simp
                try with_reducible rfl
              try simp only [Act.put, List.setIfInBounds_toArray, List.set_cons_zero, List.set_cons_succ, List.getElem_toArray, List.getElem_cons_succ, List.getElem_cons_zero]
              refine wpAnyH_take (i := 3) (v := ?_) rfl (by kernel_rfl) (by kernel_rfl) (by kernel_rfl) (fun _ _ _ h => h) (Or.inl ⟨by rfl, ?_⟩) (by assumption) ?_
              rotate_left
              · intro w' hSw
                have kz1 := cell_far hSw z1 (fun h => h); have kz2 := cell_far hSw z2 (fun h => h); have kn0 := cell_far hSw cn0 (fun h => h)
                go_simp
                try with_reducible rfl
              try simp only [Act.put, List.setIfInBounds_toArray, List.set_cons_zero, List.set_cons_succ, List.getElem_toArray, List.getElem_cons_succ, List.getElem_cons_zero]
              refine wpAnyH_take (i := 4) (v := ?_) rfl (by kernel_rfl) (by kernel_rfl) (by kernel_rfl) (fun _ _ _ h => h) (Or.inl ⟨by rfl, ?_⟩) (by assumption) ?_
              rotate_left
              · intro w' hSw
                have kz1 := cell_far hSw z1 (fun h => h); have kz2 := cell_far hSw z2 (fun h => h); have kn0 := cell_far hSw cn0 (fun h => h)
                go_simp
                try with_reducible rfl
              try simp only [Act.put, List.setIfInBounds_toArray, List.set_cons_zero, List.set_cons_succ, List.getElem_toArray, List.getElem_cons_succ, List.getElem_cons_zero]
              refine wpAnyH_take (i := 5) (v := ?_) rfl (by kernel_rfl) (by kernel_rfl) (by kernel_rfl) (fun _ _ _ h => h) (Or.inl ⟨by rfl, ?_⟩) (by assumption) ?_
              rotate_left
              · intro w' hSw
                have kz1 := cell_far hSw z1 (fun h => h); have kz2 := cell_far hSw z2 (fun h => h); have kn0 := cell_far hSw cn0 (fun h => h)
                go_simp
                try with_reducible rfl
              try simp only [Act.put, List.setIfInBounds_toArray, List.set_cons_zero, List.set_cons_succ, List.getElem_toArray, List.getElem_cons_succ, List.getElem_cons_zero]
              refine wpAnyH_take (i := 6) (v := ?_) rfl (by kernel_rfl) (by kernel_rfl) (by kernel_rfl) (fun _ _ _ h => h) (Or.inl ⟨by rfl, ?_⟩) (by assumption) ?_
              rotate_left
              · intro w' hSw
                have kz1 := cell_far hSw z1 (fun h => h); have kz2 := cell_far hSw z2 (fun h => h); have kn0 := cell_far hSw cn0 (fun h => h)
                go_simp
                try with_reducible rfl
              try simp only [Act.put, List.setIfInBounds_toArray, List.set_cons_zero, List.set_cons_succ, List.getElem_toArray, List.getElem_cons_succ, List.getElem_cons_zero]
              refine wpAnyH_take (i := 7) (v := ?_) rfl (by kernel_rfl) (by kernel_rfl) (by kernel_rfl) (fun _ _ _ h => h) (Or.inl ⟨by rfl, ?_⟩) (by assumption) ?_
              rotate_left
              · intro w' hSw
                have kz1 := cell_far hSw z1 (fun h => h); have kz2 := cell_far hSw z2 (fun h => h); have kn0 := cell_far hSw cn0 (fun h => h)
                go_simp
                try with_reducible rfl
              try simp only [Act.put, List.setIfInBounds_toArray, List.set_cons_zero, List.set_cons_succ, List.getElem_toArray, List.getElem_cons_succ, List.getElem_cons_zero]
              refine wpAnyH_take (i := 8) (v := ?_) rfl (by kernel_rfl) (by kernel_rfl) (by kernel_rfl) (fun _ _ _ h => h) (Or.inl ⟨by rfl, ?_⟩) (by assumption) ?_
              rotate_left
              · intro w' hSw
                have kz1 := cell_far hSw z1 (fun h => h); have kz2 := cell_far hSw z2 (fun h => h); have kn0 := cell_far hSw cn0 (fun h => h)
                go_simp
                try with_reducible rfl
              try simp only [Act.put, List.setIfInBounds_toArray, List.set_cons_zero, List.set_cons_succ, List.getElem_toArray, List.getElem_cons_succ, List.getElem_cons_zero]
              refine wpAnyH_take (i := 9) (v := ?_) rfl (by kernel_rfl) (by kernel_rfl) (by kernel_rfl) (fun _ _ _ h => h) (Or.inl ⟨by rfl, ?_⟩) (by assumption) ?_
              rotate_left
              · intro w' hSw
                have kz1 := cell_far hSw z1 (fun h => h); have kz2 := cell_far hSw z2 (fun h => h); have kn0 := cell_far hSw cn0 (fun h => h)
                go_simp
                try with_reducible rfl
              try simp only [Act.put, List.setIfInBounds_toArray, List.set_cons_zero, List.set_cons_succ, List.getElem_toArray, List.getElem_cons_succ, List.getElem_cons_zero]
              refine wpAnyH_take (i := 10) (v := ?_) rfl (by kernel_rfl) (by kernel_rfl) (by kernel_rfl) (fun _ _ _ h => h) (Or.inl ⟨by rfl, ?_⟩) (by assumption) ?_
              rotate_left
              · intro w' hSw
                have kz1 := cell_far hSw z1 (fun h => h); have kz2 := cell_far hSw z2 (fun h => h); have kn0 := cell_far hSw cn0 (fun h => h)
                go_simp
                try with_reducible rfl
              try simp only [Act.put, List.setIfInBounds_toArray, List.set_cons_zero, List.set_cons_succ, List.getElem_toArray, List.getElem_cons_succ, List.getElem_cons_zero]
              refine wpAnyH_take (i := 11) (v := ?_) rfl (by kernel_rfl) (by kernel_rfl) (by kernel_rfl) (fun _ _ _ h => h) (Or.inl ⟨by rfl, ?_⟩) (by assumption) ?_
              rotate_left
              · intro w' hSw
                have kz1 := cell_far hSw z1 (fun h => h); have kz2 := cell_far hSw z2 (fun h => h); have kn0 := cell_far hSw cn0 (fun h => h)
                go_simp
                try with_reducible rfl
              try simp only [Act.put, List.setIfInBounds_toArray, List.set_cons_zero, List.set_cons_succ, List.getElem_toArray, List.getElem_cons_succ, List.getElem_cons_zero]
              refine wpAnyH_take (i := 12) (v := ?_) rfl (by kernel_rfl) (by kernel_rfl) (by kernel_rfl) (fun _ _ _ h => h) (Or.inl ⟨by rfl, ?_⟩) (by assumption) ?_
              rotate_left
              · intro w' hSw
                have kz1 := cell_far hSw z1 (fun h => h); have kz2 := cell_far hSw z2 (fun h => h); have kn0 := cell_far hSw cn0 (fun h => h)
                go_simp
                try with_reducible rfl
              try simp only [Act.put, List.setIfInBounds_toArray, List.set_cons_zero, List.set_cons_succ, List.getElem_toArray, List.getElem_cons_succ, List.getElem_cons_zero]
              refine wpAnyH_take (i := 13) (v := ?_) rfl (by kernel_rfl) (by kernel_rfl) (by kernel_rfl) (fun _ _ _ h => h) (Or.inl ⟨by rfl, ?_⟩) (by assumption) ?_
              rotate_left
              · intro w' hSw
                have kz1 := cell_far hSw z1 (fun h => h); have kz2 := cell_far hSw z2 (fun h => h); have kn0 := cell_far hSw cn0 (fun h => h)
                go_simp
                try with_reducible rfl
              try simp only [Act.put, List.setIfInBounds_toArray, List.set_cons_zero, List.set_cons_succ, List.getElem_toArray, List.getElem_cons_succ, List.getElem_cons_zero]
              refine wpAnyH_take (i := 14) (v := ?_) rfl (by kernel_rfl) (by kernel_rfl) (by kernel_rfl) (fun _ _ _ h => h) (Or.inl ⟨by rfl, ?_⟩) (by assumption) ?_
              rotate_left
              · intro w' hSw
                have kz1 := cell_far hSw z1 (fun h => h); have kz2 := cell_far hSw z2 (fun h => h); have kn0 := cell_far hSw cn0 (fun h => h)
                go_simp
                try with_reducible rfl
              try simp only [Act.put, List.setIfInBounds_toArray, List.set_cons_zero, List.set_cons_succ, List.getElem_toArray, List.getElem_cons_succ, List.getElem_cons_zero]
              refine wpAnyH_take (i := 15) (v := ?_) rfl (by kernel_rfl) (by kernel_rfl) (by kernel_rfl) (fun _ _ _ h => h) (Or.inl ⟨by rfl, ?_⟩) (by assumption) ?_
              rotate_left
              · intro w' hSw
                have kz1 := cell_far hSw z1 (fun h => h); have kz2 := cell_far hSw z2 (fun h => h); have kn0 := cell_far hSw cn0 (fun h => h)
                go_simp
                try with_reducible rfl
              try simp only [Act.put, List.setIfInBounds_toArray, List.set_cons_zero, List.set_cons_succ, List.getElem_toArray, List.getElem_cons_succ, List.getElem_cons_zero]
              refine wpAnyH_take (i := 16) (v := ?_) rfl (by kernel_rfl) (by kernel_rfl) (by kernel_rfl) (fun _ _ _ h => h) (Or.inl ⟨by rfl, ?_⟩) (by assumption) ?_
              rotate_left
              · intro w' hSw
                have kz1 := cell_far hSw z1 (fun h => h); have kz2 := cell_far hSw z2 (fun h => h); have kn0 := cell_far hSw cn0 (fun h => h)
                go_simp
                try with_reducible rfl
              try simp only [Act.put, List.setIfInBounds_toArray, List.set_cons_zero, List.set_cons_succ, List.getElem_toArray, List.getElem_cons_succ, List.getElem_cons_zero]
              refine wpAnyH_take (i := 17) (v := ?_) rfl (by kernel_rfl) (by kernel_rfl) (by kernel_rfl) (fun _ _ _ h => h) (Or.inl ⟨by rfl, ?_⟩) (by assumption) ?_
              rotate_left
              · intro w' hSw
                have kz1 := cell_far hSw z1 (fun h => h); have kz2 := cell_far hSw z2 (fun h => h); have kn0 := cell_far hSw cn0 (fun h => h)
                go_simp
                try with_reducible rfl
              try simp only [Act.put, List.setIfInBounds_toArray, List.set_cons_zero, List.set_cons_succ, List.getElem_toArray, List.getElem_cons_succ, List.getElem_cons_zero]
              refine wpAnyH_take (i := 18) (v := ?_) rfl (by kernel_rfl) (by kernel_rfl) (by kernel_rfl) (fun _ _ _ h => h) (Or.inl ⟨by rfl, ?_⟩) (by assumption) ?_
              rotate_left
              · intro w' hSw
                have kz1 := cell_far hSw z1 (fun h => h); have kz2 := cell_far hSw z2 (fun h => h); have kn0 := cell_far hSw cn0 (fun h => h)
                go_simp
                try with_reducible rfl
              try simp only [Act.put, List.setIfInBounds_toArray, List.set_cons_zero, List.set_cons_succ, List.getElem_toArray, List.getElem_cons_succ, List.getElem_cons_zero]
              refine wpAnyH_take (i := 19) (v := ?_) rfl (by kernel_rfl) (by kernel_rfl) (by kernel_rfl) (fun _ _ _ h => h) (Or.inl ⟨by rfl, ?_⟩) (by assumption) ?_
              rotate_left
              · intro w' hSw
                have kz1 := cell_far hSw z1 (fun h => h); have kz2 := cell_far hSw z2 (fun h => h); have kn0 := cell_far hSw cn0 (fun h => h)
                go_simp
                try with_reducible rfl
              try simp only [Act.put, List.setIfInBounds_toArray, List.set_cons_zero, List.set_cons_succ, List.getElem_toArray, List.getElem_cons_succ, List.getElem_cons_zero]
              refine wpAnyH_take (i := 20) (v := ?_) rfl (by kernel_rfl) (by kernel_rfl) (by kernel_rfl) (fun _ _ _ h => h) (Or.inl ⟨by rfl, ?_⟩) (by assumption) ?_
              rotate_left
              · intro w' hSw
                have kz1 := cell_far hSw z1 (fun h => h); have kz2 := cell_far hSw z2 (fun h => h); have kn0 := cell_far hSw cn0 (fun h => h)
                go_simp
                try with_reducible rfl
              try simp only [Act.put, List.setIfInBounds_toArray, List.set_cons_zero, List.set_cons_succ, List.getElem_toArray, List.getElem_cons_succ, List.getElem_cons_zero]
              refine wpAnyH_take (i := 21) (v := ?_) rfl (by kernel_rfl) (by kernel_rfl) (by kernel_rfl) (fun _ _ _ h => h) (Or.inl ⟨by rfl, ?_⟩) (by assumption) ?_
              rotate_left
              · intro w' hSw
                have kz1 := cell_far hSw z1 (fun h => h); have kz2 := cell_far hSw z2 (fun h => h); have kn0 := cell_far hSw cn0 (fun h => h)
                go_simp
                try with_reducible rfl
              try simp only [Act.put, List.setIfInBounds_toArray, List.set_cons_zero, List.set_cons_succ, List.getElem_toArray, List.getElem_cons_succ, List.getElem_cons_zero]
              refine wpAnyH_take (i := 22) (v := ?_) rfl (by kernel_rfl) (by kernel_rfl) (by kernel_rfl) (fun _ _ _ h => h) (Or.inl ⟨by rfl, ?_⟩) (by assumption) ?_
              rotate_left
              · intro w' hSw
                have kz1 := cell_far hSw z1 (fun h => h); have kz2 := cell_far hSw z2 (fun h => h); have kn0 := cell_far hSw cn0 (fun h => h)
                go_simp
                try with_reducible rfl
              try simp only [Act.put, List.setIfInBounds_toArray, List.set_cons_zero, List.set_cons_succ, List.getElem_toArray, List.getElem_cons_succ, List.getElem_cons_zero]
              refine wpAnyH_take (i := 23) (v := ?_) rfl (by kernel_rfl) (by kernel_rfl) (by kernel_rfl) (fun _ _ _ h => h) (Or.inl ⟨by rfl, ?_⟩) (by assumption) ?_
              rotate_left
              · intro w' hSw
                have kz1 := cell_far hSw z1 (fun h => h); have kz2 := cell_far hSw z2 (fun h => h); have kn0 := cell_far hSw cn0 (fun h => h)
                go_simp
                try with_reducible rfl
              try simp only [Act.put, List.setIfInBounds_toArray, List.set_cons_zero, List.set_cons_succ, List.getElem_toArray, List.getElem_cons_succ, List.getElem_cons_zero]
              refine wpAnyH_take (i := 24) (v := ?_) rfl (by kernel_rfl) (by kernel_rfl) (by kernel_rfl) (fun _ _ _ h => h) (Or.inl ⟨by rfl, ?_⟩) (by assumption) ?_
              rotate_left
              · intro w' hSw
                have kz1 := cell_far hSw z1 (fun h => h); have kz2 := cell_far hSw z2 (fun h => h); have kn0 := cell_far hSw cn0 (fun h => h)
                go_simp
                try with_reducible rfl
              try simp only [Act.put, List.setIfInBounds_toArray, List.set_cons_zero, List.set_cons_succ, List.getElem_toArray, List.getElem_cons_succ, List.getElem_cons_zero]
              refine wpAnyH_take (i := 25) (v := ?_) rfl (by kernel_rfl) (by kernel_rfl) (by kernel_rfl) (fun _ _ _ h => h) (Or.inl ⟨by rfl, ?_⟩) (by assumption) ?_
              rotate_left
              · intro w' hSw
                have kz1 := cell_far hSw z1 (fun h => h); have kz2 := cell_far hSw z2 (fun h => h); have kn0 := cell_far hSw cn0 (fun h => h)
                go_simp
                try with_reducible rfl
              try simp only [Act.put, List.setIfInBounds_toArray, List.set_cons_zero, List.set_cons_succ, List.getElem_toArray, List.getElem_cons_succ, List.getElem_cons_zero]
              refine wpAnyH_take (i := 26) (v := _) rfl (by kernel_rfl) (by kernel_rfl) (by kernel_rfl) (fun _ _ _ h => h) (yields_at 55 _ b (off2 + kk * 29 + 14) (eraC y) _ (by rfl) rfl (by rfl) (fun w' h => cells_far h HCL.out (Nat.le_refl _) (fun h => h)) Tryz.underlying55 rfl (infoE _)) (by assumption) ?_
              try simp only [Act.put, List.setIfInBounds_toArray, List.set_cons_zero, List.set_cons_succ, List.getElem_toArray, List.getElem_cons_succ, List.getElem_cons_zero]
              refine wpAnyH_take (i := 27) (v := ?_) rfl (by kernel_rfl) (by kernel_rfl) (by kernel_rfl) (fun _ _ _ h => h) (Or.inl ⟨by rfl, ?_⟩) (by assumption) ?_
              rotate_left
              · intro w' hSw
                have kz1 := cell_far hSw z1 (fun h => h); have kz2 := cell_far hSw z2 (fun h => h); have kn0 := cell_far hSw cn0 (fun h => h)
                go_simp
                try with_reducible rfl
              try simp only [Act.put, List.setIfInBounds_toArray, List.set_cons_zero, List.set_cons_succ, List.getElem_toArray, List.getElem_cons_succ, List.getElem_cons_zero]
              refine wpAnyH_take (i := 28) (v := ?_) rfl (by kernel_rfl) (by kernel_rfl) (by kernel_rfl) (fun _ _ _ h => h) (Or.inl ⟨by rfl, ?_⟩) (by assumption) ?_
              rotate_left
              · intro w' hSw
                have kz1 := cell_far hSw z1 (fun h => h); have kz2 := cell_far hSw z2 (fun h => h); have kn0 := cell_far hSw cn0 (fun h => h)
                go_simp
                try with_reducible rfl
              try simp only [Act.put, List.setIfInBounds_toArray, List.set_cons_zero, List.set_cons_succ, List.getElem_toArray, List.getElem_cons_succ, List.getElem_cons_zero]
              refine wpAnyH_take (i := 29) (v := ?_) rfl (by kernel_rfl) (by kernel_rfl) (by kernel_rfl) (fun _ _ _ h => h) (Or.inl ⟨by rfl, ?_⟩) (by assumption) ?_
              rotate_left
              · intro w' hSw
                have kz1 := cell_far hSw z1 (fun h => h); have kz2 := cell_far hSw z2 (fun h => h); have kn0 := cell_far hSw cn0 (fun h => h)
                go_simp
                try with_reducible rfl
              try simp only [Act.put, List.setIfInBounds_toArray, List.set_cons_zero, List.set_cons_succ, List.getElem_toArray, List.getElem_cons_succ, List.getElem_cons_zero]
              refine wpAnyH_take (i := 30) (v := ?_) rfl (by kernel_rfl) (by kernel_rfl) (by kernel_rfl) (fun _ _ _ h => h) (Or.inl ⟨by rfl, ?_⟩) (by assumption) ?_
              rotate_left
              · intro w' hSw
                have kz1 := cell_far hSw z1 (fun h => h); have kz2 := cell_far hSw z2 (fun h => h); have kn0 := cell_far hSw cn0 (fun h => h)
                go_simp
                try with_reducible rfl
              try simp only [Act.put, List.setIfInBounds_toArray, List.set_cons_zero, List.set_cons_succ, List.getElem_toArray, List.getElem_cons_succ, List.getElem_cons_zero]
              refine wpAnyH_take (i := 31) (v := _) rfl (by kernel_rfl) (by kernel_rfl) (by kernel_rfl) (fun _ _ _ h => h) (yields_at 55 _ be (oe + j * 13) (eraC y) _ (by rfl) rfl (by rfl) (fun w' h => cells_far h HCE.out (Nat.le_refl _) (fun h => h)) Tryz.underlying55 rfl (infoE _)) (by assumption) ?_
              try simp only [Act.put, List.setIfInBounds_toArray, List.set_cons_zero, List.set_cons_succ, List.getElem_toArray, List.getElem_cons_succ, List.getElem_cons_zero]
              refine wpAnyH_take (i := 32) (v := _) rfl (by kernel_rfl) (by kernel_rfl) (by kernel_rfl) (fun _ _ _ h => h) (yields_neq (by rfl) rfl (by rfl) (by rfl) (guard_era _ _ _ _) (same_era y)) (by assumption) ?_
              try simp only [Act.put, List.setIfInBounds_toArray, List.set_cons_zero, List.set_cons_succ, List.getElem_toArray, List.getElem_cons_succ, List.getElem_cons_zero]
              refine wpAnyH_take (i := 33) (v := ?_) rfl (by kernel_rfl) (by kernel_rfl) (by kernel_rfl) (fun _ _ _ h => h) (Or.inl ⟨by rfl, ?_⟩) (by assumption) ?_
              rotate_left
              · intro w' hSw
                have kz1 := cell_far hSw z1 (fun h => h); have kz2 := cell_far hSw z2 (fun h => h); have kn0 := cell_far hSw cn0 (fun h => h)
                go_simp
                try with_reducible rfl
              try simp only [Act.put, List.setIfInBounds_toArray, List.set_cons_zero, List.set_cons_succ, List.getElem_toArray, List.getElem_cons_succ, List.getElem_cons_zero]
              refine wpAnyH_done (by kernel_rfl) ?_ _
              clear hHeld
              have hdr := Fr.drew wr (fun _ => False)
              have z1 := cell_far hdr z1 (fun h => h)
              have z2 := cell_far hdr z2 (fun h => h)
              have cn0 := cell_far hdr cn0 (fun h => h)
              have HFD := Lib.hid (ff0 HFJ.out hdr)
              clear hdr
              go_wp2_with fail
              go_roundg (z.eras.length - (j + 1))
              case measure => omega
              case rel => exact ⟨j + 1, (kk : Int), by omega, rfl, by go_num, HRJ.out, HFD.out⟩
            · obtain rfl : j = z.eras.length := by omega
              have hj1 : (z.eras.length : Int) ≤ (z.eras.length : Int) := Int.le_refl _
              rw [show (z.lines.zip z.eras).drop z.eras.length = [] from List.drop_eq_nil_of_le (by rw [List.length_zip]; omega), List.nil_append] at hrj
              have HRJ := Lib.hid hrj
              have HB6 := Lib.hid (hfj.blk HB5.out (fun h => h))
              have HF6 := Lib.hid (ff0 HF5.out hfj)
              clear hrj hfj
              go_wp2_with fail
              go_roundg (d.zones.length - (i + 1))
              case measure => omega
              case rel => exact ⟨i + 1, lastj, by omega, by rw [HEs.out]; go_num, rfl, by go_num, HRJ.out, HB6.out, HF6.out⟩
        · obtain rfl : i = d.zones.length := by omega
          rw [List.take_length]
          have hi1 : (d.zones.length : Int) ≤ (d.zones.length : Int) := Int.le_refl _
          have HK6 := Lib.hid hK
          have HB6 := Lib.hid hb
          have a3 := blkc hK.v.b 3 _ rfl
          obtain ⟨E, hE⟩ : ∃ E, eraN d.zones = E := ⟨_, rfl⟩
          rw [hE] at HCE hez ⊢
          clear hK hb hf hri HK4 HI2 hE
          obtain ⟨W7, hW7⟩ : ∃ W, W = wr := ⟨_, rfl⟩
          subst hW7
          go_wp2_with fail
          go_loopg [7, 12] d.diags.length (fun k v7 v12 wq => ∃ i : Nat, i + k = d.diags.length ∧ v7 = intV (wrongN (d.diags.take i) : Int) ∧ v12 = intV (i : Int) ∧ W7 = wq)
          case atStart => exact ⟨0, by simp, by simp [wrongN], rfl, rfl⟩
          case round =>
            obtain ⟨i, hik, rfl, rfl, rfl⟩ := hrel
            by_cases hlt : i < d.diags.length
            · obtain ⟨bd, od, rfl, cd⟩ := diag_cells (doc_d HK6.out.v.d) hlt
              have HN := Lib.hid (show wrongN (d.diags.take (i + 1)) = wrongN (d.diags.take i) + if wrongK d.diags[i].k = true then 1 else 0 by rw [List.take_succ_eq_append_getElem hlt, wrongN_snoc])
              have hle := wrongN_le (d.diags.take i)
              rw [List.length_take] at hle
              obtain ⟨Q, hQ⟩ : ∃ Q, wrongN (d.diags.take i) = Q := ⟨_, rfl⟩
              rw [hQ] at HN hle ⊢
              have hQi : (Q : Int) ≤ 121 := by omega
              have hi1 : (i : Int) < (d.diags.length : Int) := by omega
              obtain ⟨kk, hkk⟩ : ∃ k, d.diags[i].k = k := ⟨_, rfl⟩
              rw [hkk] at cd HN
              clear hQ hkk hle
              by_cases h10 : kk = 10
              · subst h10
                have HP := Lib.hid (HN.out.trans (show Q + (if wrongK 10 = true then 1 else 0) = Q + 1 from rfl))
                go_wp2_with fail
                go_roundg (d.diags.length - (i + 1))
                case measure => omega
                case rel => exact ⟨i + 1, by omega, by rw [HP.out]; go_num, by go_num, rfl⟩
              · by_cases h17 : kk = 17
                · subst h17
                  have HP := Lib.hid (HN.out.trans (show Q + (if wrongK 17 = true then 1 else 0) = Q + 1 from rfl))
                  go_wp2_with fail
                  go_roundg (d.diags.length - (i + 1))
                  case measure => omega
                  case rel => exact ⟨i + 1, by omega, by rw [HP.out]; go_num, by go_num, rfl⟩
                · have e10 : (kk == 10) = false := by simpa using h10
                  have e17 : (kk == 17) = false := by simpa using h17
                  have HK0 := Lib.hid (show ¬ wrongK kk = true by simp [wrongK, h10, h17])
                  clear h10 h17
                  go_wp2_with fail
                  go_roundg (d.diags.length - (i + 1))
                  case measure => omega
                  case rel => exact ⟨i + 1, by omega, by rw [HN.out, if_neg HK0.out]; rfl, by go_num, rfl⟩
            · obtain rfl : i = d.diags.length := by omega
              rw [List.take_length]
              have hi1 : (d.diags.length : Int) ≤ (d.diags.length : Int) := Int.le_refl _
              obtain ⟨Q, hQ⟩ : ∃ Q, wrongN d.diags = Q := ⟨_, rfl⟩
              rw [hQ] at HCE hwz ⊢
              clear hQ
              go_wp2_with fail
              clear a3
              go_loopg [7, 13] l.length (fun k v7 v13 wq => ∃ i : Nat, i + k = l.length ∧ v7 = intV ((Q : Int) - (fiveN (l.take i) : Int)) ∧ v13 = intV (i : Int) ∧ W7 = wq)
              case atStart => exact ⟨0, by simp, by simp [fiveN], rfl, rfl⟩
              case round =>
                obtain ⟨i, hik, rfl, rfl, rfl⟩ := hrel
                by_cases hlt : i < l.length
                · obtain ⟨b, off, rfl, ck, ce⟩ := line_kind HK6.out.L hlt
                  have HN := Lib.hid (show fiveN (l.take (i + 1)) = fiveN (l.take i) + if (decide (l[i].kind = 5) && wrongK l[i].err) = true then 1 else 0 by rw [List.take_succ_eq_append_getElem hlt, fiveN_snoc])
                  have hle := fiveN_le (l.take i)
                  rw [List.length_take] at hle
                  obtain ⟨F, hF⟩ : ∃ F, fiveN (l.take i) = F := ⟨_, rfl⟩
                  rw [hF] at HN hle ⊢
                  have hFi : (F : Int) ≤ 60 := by omega
                  have hQi : (Q : Int) ≤ 121 := by omega
                  have hi1 : (i : Int) < (l.length : Int) := by omega
                  obtain ⟨kk, hkk⟩ : ∃ k, l[i].kind = k := ⟨_, rfl⟩
                  obtain ⟨ee, hee⟩ : ∃ k, l[i].err = k := ⟨_, rfl⟩
                  rw [hkk] at ck HN
                  rw [hee] at ce HN
                  clear hF hkk hee hle
                  by_cases h5 : kk = 5
                  · subst h5
                    by_cases h10 : ee = 10
                    · subst h10
                      have HP := Lib.hid (HN.out.trans (show F + (if (decide ((5 : Int) = 5) && wrongK 10) = true then 1 else 0) = F + 1 from rfl))
                      go_wp2_with fail
                      go_roundg (l.length - (i + 1))
                      case measure => omega
                      case rel => exact ⟨i + 1, by omega, by rw [HP.out]; go_num, by go_num, rfl⟩
                    · by_cases h17 : ee = 17
                      · subst h17
                        have HP := Lib.hid (HN.out.trans (show F + (if (decide ((5 : Int) = 5) && wrongK 17) = true then 1 else 0) = F + 1 from rfl))
                        go_wp2_with fail
                        go_roundg (l.length - (i + 1))
                        case measure => omega
                        case rel => exact ⟨i + 1, by omega, by rw [HP.out]; go_num, by go_num, rfl⟩
                      · have e10 : (ee == 10) = false := by simpa using h10
                        have e17 : (ee == 17) = false := by simpa using h17
                        have HK0 := Lib.hid (show ¬ (decide ((5 : Int) = 5) && wrongK ee) = true by simp [wrongK, h10, h17])
                        clear h10 h17
                        go_wp2_with fail
                        go_roundg (l.length - (i + 1))
                        case measure => omega
                        case rel => exact ⟨i + 1, by omega, by rw [HN.out, if_neg HK0.out]; rfl, by go_num, rfl⟩
                  · have e5 : (kk == 5) = false := by simpa using h5
                    have HK0 := Lib.hid (show ¬ (decide (kk = 5) && wrongK ee) = true by simp [h5])
                    clear h5
                    go_wp2_with fail
                    go_roundg (l.length - (i + 1))
                    case measure => omega
                    case rel => exact ⟨i + 1, by omega, by rw [HN.out, if_neg HK0.out]; rfl, by go_num, rfl⟩
                · obtain rfl : i = l.length := by omega
                  rw [List.take_length]
                  have hi1 : (l.length : Int) ≤ (l.length : Int) := Int.le_refl _
                  obtain ⟨F, hF⟩ : ∃ F, fiveN l = F := ⟨_, rfl⟩
                  obtain ⟨hcr, hcz, hcl, hce⟩ := HCE.out
                  rw [hF] at hce hfz ⊢
                  have a0 := blkc HK6.out.v.b 0 _ rfl
                  have a1 := blkc HK6.out.v.b 1 _ rfl
                  have a2 := blkc HK6.out.v.b 2 _ rfl
                  have n1 := blkc HB6.out 1 _ (cnt_at l 1 (by decide))
                  have n2 := blkc HB6.out 2 _ (cnt_at l 2 (by decide))
                  have n3 := blkc HB6.out 3 _ (cnt_at l 3 (by decide))
                  have n4 := blkc HB6.out 4 _ (cnt_at l 4 (by decide))
                  rw [show (kindN ((1 : Nat) : Int) l : Int) = (d.rules.length : Int) from congrArg Int.ofNat hcr.symm] at n1
                  rw [show (kindN ((2 : Nat) : Int) l : Int) = (d.zones.length : Int) from congrArg Int.ofNat hcz.symm] at n2
                  rw [show (kindN ((4 : Nat) : Int) l : Int) = (d.links.length : Int) from congrArg Int.ofNat hcl.symm] at n4
                  rw [show (kindN ((3 : Nat) : Int) l : Int) = E + ((Q : Int) - (F : Int)) by show (kindN 3 l : Int) = _; omega] at n3
                  have hFi : (F : Int) ≤ 60 := by omega
                  have hQi : (Q : Int) ≤ 121 := by omega
                  have hE0 : 0 ≤ E := hez.1
                  have hE1 : E ≤ 840 := by omega
                  have hw64 := Lib.hid ((IntWalk.i64_left _).trans (IntWalk.wrap64_in (E + ((Q : Int) - (F : Int))) (by omega)))
                  have HA := Lib.hid (fun W (f : Fr W7 W (fun _ => False)) => HW.out W (ff0 HK6.out.f f))
                  have HF6 := Lib.hid HK6.out.f
                  clear HCE hcr hcz hcl hce hF HT HD HL HRI HRM HZO
                  go_wp2_with fail
                  refine wp_region_held_drew (S := fun w' => Fr W7 w' (fun _ => False)) (by kernel_rfl) (Fr.drew W7 _) (fun hHeld => ?_)
                  refine wpAnyH_take (i := 0) (v := ?_) rfl (by kernel_rfl) (by kernel_rfl) (by kernel_rfl) (fun _ _ _ h => h) (Or.inl ⟨by rfl, ?_⟩) (by assumption) ?_
                  rotate_left
                  · intro w' hSw
                    have ka0 := cell_far hSw a0 (fun h => h); have ka1 := cell_far hSw a1 (fun h => h); have ka2 := cell_far hSw a2 (fun h => h); have kn1 := cell_far hSw n1 (fun h => h); have kn2 := cell_far hSw n2 (fun h => h); have kn3 := cell_far hSw n3 (fun h => h); have kn4 := cell_far hSw n4 (fun h => h); have kw := hw64.out
                    go_simp
                    try with_reducible rfl
                  try simp only [Act.put, List.setIfInBounds_toArray, List.set_cons_zero, List.set_cons_succ, List.getElem_toArray, List.getElem_cons_zero]
                  refine wpAnyH_take (i := 1) (v := ?_) rfl (by kernel_rfl) (by kernel_rfl) (by kernel_rfl) (fun _ _ _ h => h) (Or.inl ⟨by rfl, ?_⟩) (by assumption) ?_
                  rotate_left
                  · intro w' hSw
                    have ka0 := cell_far hSw a0 (fun h => h); have ka1 := cell_far hSw a1 (fun h => h); have ka2 := cell_far hSw a2 (fun h => h); have kn1 := cell_far hSw n1 (fun h => h); have kn2 := cell_far hSw n2 (fun h => h); have kn3 := cell_far hSw n3 (fun h => h); have kn4 := cell_far hSw n4 (fun h => h); have kw := hw64.out
                    go_simp
                    try with_reducible rfl
                  try simp only [Act.put, List.setIfInBounds_toArray, List.set_cons_zero, List.set_cons_succ, List.getElem_toArray, List.getElem_cons_succ, List.getElem_cons_zero]
                  refine wpAnyH_take (i := 2) (v := ?_) rfl (by kernel_rfl) (by kernel_rfl) (by kernel_rfl) (fun _ _ _ h => h) (Or.inl ⟨by rfl, ?_⟩) (by assumption) ?_
                  rotate_left
                  · intro w' hSw
                    have ka0 := cell_far hSw a0 (fun h => h); have ka1 := cell_far hSw a1 (fun h => h); have ka2 := cell_far hSw a2 (fun h => h); have kn1 := cell_far hSw n1 (fun h => h); have kn2 := cell_far hSw n2 (fun h => h); have kn3 := cell_far hSw n3 (fun h => h); have kn4 := cell_far hSw n4 (fun h => h); have kw := hw64.out
                    go_simp
                    try with_reducible rfl
                  try simp only [Act.put, List.setIfInBounds_toArray, List.set_cons_zero, List.set_cons_succ, List.getElem_toArray, List.getElem_cons_succ, List.getElem_cons_zero]
                  refine wpAnyH_take (i := 3) (v := ?_) rfl (by kernel_rfl) (by kernel_rfl) (by kernel_rfl) (fun _ _ _ h => h) (Or.inl ⟨by rfl, ?_⟩) (by assumption) ?_
                  rotate_left
                  · intro w' hSw
                    have ka0 := cell_far hSw a0 (fun h => h); have ka1 := cell_far hSw a1 (fun h => h); have ka2 := cell_far hSw a2 (fun h => h); have kn1 := cell_far hSw n1 (fun h => h); have kn2 := cell_far hSw n2 (fun h => h); have kn3 := cell_far hSw n3 (fun h => h); have kn4 := cell_far hSw n4 (fun h => h); have kw := hw64.out
                    go_simp
                    try with_reducible rfl
                  try simp only [Act.put, List.setIfInBounds_toArray, List.set_cons_zero, List.set_cons_succ, List.getElem_toArray, List.getElem_cons_succ, List.getElem_cons_zero]
                  refine wpAnyH_take (i := 4) (v := ?_) rfl (by kernel_rfl) (by kernel_rfl) (by kernel_rfl) (fun _ _ _ h => h) (Or.inl ⟨by rfl, ?_⟩) (by assumption) ?_
                  rotate_left
                  · intro w' hSw
                    have ka0 := cell_far hSw a0 (fun h => h); have ka1 := cell_far hSw a1 (fun h => h); have ka2 := cell_far hSw a2 (fun h => h); have kn1 := cell_far hSw n1 (fun h => h); have kn2 := cell_far hSw n2 (fun h => h); have kn3 := cell_far hSw n3 (fun h => h); have kn4 := cell_far hSw n4 (fun h => h); have kw := hw64.out
                    go_simp
                    try with_reducible rfl
                  try simp only [Act.put, List.setIfInBounds_toArray, List.set_cons_zero, List.set_cons_succ, List.getElem_toArray, List.getElem_cons_succ, List.getElem_cons_zero]
                  refine wpAnyH_take (i := 5) (v := ?_) rfl (by kernel_rfl) (by kernel_rfl) (by kernel_rfl) (fun _ _ _ h => h) (Or.inl ⟨by rfl, ?_⟩) (by assumption) ?_
                  rotate_left
                  · intro w' hSw
                    have ka0 := cell_far hSw a0 (fun h => h); have ka1 := cell_far hSw a1 (fun h => h); have ka2 := cell_far hSw a2 (fun h => h); have kn1 := cell_far hSw n1 (fun h => h); have kn2 := cell_far hSw n2 (fun h => h); have kn3 := cell_far hSw n3 (fun h => h); have kn4 := cell_far hSw n4 (fun h => h); have kw := hw64.out
                    go_simp
                    try with_reducible rfl
                  try simp only [Act.put, List.setIfInBounds_toArray, List.set_cons_zero, List.set_cons_succ, List.getElem_toArray, List.getElem_cons_succ, List.getElem_cons_zero]
                  refine wpAnyH_take (i := 6) (v := ?_) rfl (by kernel_rfl) (by kernel_rfl) (by kernel_rfl) (fun _ _ _ h => h) (Or.inl ⟨by rfl, ?_⟩) (by assumption) ?_
                  rotate_left
                  · intro w' hSw
                    have ka0 := cell_far hSw a0 (fun h => h); have ka1 := cell_far hSw a1 (fun h => h); have ka2 := cell_far hSw a2 (fun h => h); have kn1 := cell_far hSw n1 (fun h => h); have kn2 := cell_far hSw n2 (fun h => h); have kn3 := cell_far hSw n3 (fun h => h); have kn4 := cell_far hSw n4 (fun h => h); have kw := hw64.out
                    go_simp
                    try with_reducible rfl
                  try simp only [Act.put, List.setIfInBounds_toArray, List.set_cons_zero, List.set_cons_succ, List.getElem_toArray, List.getElem_cons_succ, List.getElem_cons_zero]
                  refine wpAnyH_take (i := 7) (v := ?_) rfl (by kernel_rfl) (by kernel_rfl) (by kernel_rfl) (fun _ _ _ h => h) (Or.inl ⟨by rfl, ?_⟩) (by assumption) ?_
                  rotate_left
                  · intro w' hSw
                    have ka0 := cell_far hSw a0 (fun h => h); have ka1 := cell_far hSw a1 (fun h => h); have ka2 := cell_far hSw a2 (fun h => h); have kn1 := cell_far hSw n1 (fun h => h); have kn2 := cell_far hSw n2 (fun h => h); have kn3 := cell_far hSw n3 (fun h => h); have kn4 := cell_far hSw n4 (fun h => h); have kw := hw64.out
                    go_simp
                    try with_reducible rfl
                  try simp only [Act.put, List.setIfInBounds_toArray, List.set_cons_zero, List.set_cons_succ, List.getElem_toArray, List.getElem_cons_succ, List.getElem_cons_zero]
                  refine wpAnyH_take (i := 8) (v := ?_) rfl (by kernel_rfl) (by kernel_rfl) (by kernel_rfl) (fun _ _ _ h => h) (Or.inl ⟨by rfl, ?_⟩) (by assumption) ?_
                  rotate_left
                  · intro w' hSw
                    have ka0 := cell_far hSw a0 (fun h => h); have ka1 := cell_far hSw a1 (fun h => h); have ka2 := cell_far hSw a2 (fun h => h); have kn1 := cell_far hSw n1 (fun h => h); have kn2 := cell_far hSw n2 (fun h => h); have kn3 := cell_far hSw n3 (fun h => h); have kn4 := cell_far hSw n4 (fun h => h); have kw := hw64.out
                    go_simp
                    try with_reducible rfl
                  try simp only [Act.put, List.setIfInBounds_toArray, List.set_cons_zero, List.set_cons_succ, List.getElem_toArray, List.getElem_cons_succ, List.getElem_cons_zero]
                  refine wpAnyH_take (i := 9) (v := ?_) rfl (by kernel_rfl) (by kernel_rfl) (by kernel_rfl) (fun _ _ _ h => h) (Or.inl ⟨by rfl, ?_⟩) (by assumption) ?_
                  rotate_left
                  · intro w' hSw
                    have ka0 := cell_far hSw a0 (fun h => h); have ka1 := cell_far hSw a1 (fun h => h); have ka2 := cell_far hSw a2 (fun h => h); have kn1 := cell_far hSw n1 (fun h => h); have kn2 := cell_far hSw n2 (fun h => h); have kn3 := cell_far hSw n3 (fun h => h); have kn4 := cell_far hSw n4 (fun h => h); have kw := hw64.out
                    go_simp
                    try with_reducible rfl
                  try simp only [Act.put, List.setIfInBounds_toArray, List.set_cons_zero, List.set_cons_succ, List.getElem_toArray, List.getElem_cons_succ, List.getElem_cons_zero]
                  refine wpAnyH_take (i := 10) (v := ?_) rfl (by kernel_rfl) (by kernel_rfl) (by kernel_rfl) (fun _ _ _ h => h) (Or.inl ⟨by rfl, ?_⟩) (by assumption) ?_
                  rotate_left
                  · intro w' hSw
                    have ka0 := cell_far hSw a0 (fun h => h); have ka1 := cell_far hSw a1 (fun h => h); have ka2 := cell_far hSw a2 (fun h => h); have kn1 := cell_far hSw n1 (fun h => h); have kn2 := cell_far hSw n2 (fun h => h); have kn3 := cell_far hSw n3 (fun h => h); have kn4 := cell_far hSw n4 (fun h => h); have kw := hw64.out
                    go_simp
                    try with_reducible rfl
                  try simp only [Act.put, List.setIfInBounds_toArray, List.set_cons_zero, List.set_cons_succ, List.getElem_toArray, List.getElem_cons_succ, List.getElem_cons_zero]
                  refine wpAnyH_take (i := 11) (v := ?_) rfl (by kernel_rfl) (by kernel_rfl) (by kernel_rfl) (fun _ _ _ h => h) (Or.inl ⟨by rfl, ?_⟩) (by assumption) ?_
                  rotate_left
                  · intro w' hSw
                    have ka0 := cell_far hSw a0 (fun h => h); have ka1 := cell_far hSw a1 (fun h => h); have ka2 := cell_far hSw a2 (fun h => h); have kn1 := cell_far hSw n1 (fun h => h); have kn2 := cell_far hSw n2 (fun h => h); have kn3 := cell_far hSw n3 (fun h => h); have kn4 := cell_far hSw n4 (fun h => h); have kw := hw64.out
                    go_simp
                    try with_reducible rfl
                  try simp only [Act.put, List.setIfInBounds_toArray, List.set_cons_zero, List.set_cons_succ, List.getElem_toArray, List.getElem_cons_succ, List.getElem_cons_zero]
                  refine wpAnyH_take (i := 12) (v := ?_) rfl (by kernel_rfl) (by kernel_rfl) (by kernel_rfl) (fun _ _ _ h => h) (Or.inl ⟨by rfl, ?_⟩) (by assumption) ?_
                  rotate_left
                  · intro w' hSw
                    have ka0 := cell_far hSw a0 (fun h => h); have ka1 := cell_far hSw a1 (fun h => h); have ka2 := cell_far hSw a2 (fun h => h); have kn1 := cell_far hSw n1 (fun h => h); have kn2 := cell_far hSw n2 (fun h => h); have kn3 := cell_far hSw n3 (fun h => h); have kn4 := cell_far hSw n4 (fun h => h); have kw := hw64.out
                    go_simp
                    try with_reducible rfl
                  try simp only [Act.put, List.setIfInBounds_toArray, List.set_cons_zero, List.set_cons_succ, List.getElem_toArray, List.getElem_cons_succ, List.getElem_cons_zero]
                  refine wpAnyH_take (i := 13) (v := ?_) rfl (by kernel_rfl) (by kernel_rfl) (by kernel_rfl) (fun _ _ _ h => h) (Or.inl ⟨by rfl, ?_⟩) (by assumption) ?_
                  rotate_left
                  · intro w' hSw
                    have ka0 := cell_far hSw a0 (fun h => h); have ka1 := cell_far hSw a1 (fun h => h); have ka2 := cell_far hSw a2 (fun h => h); have kn1 := cell_far hSw n1 (fun h => h); have kn2 := cell_far hSw n2 (fun h => h); have kn3 := cell_far hSw n3 (fun h => h); have kn4 := cell_far hSw n4 (fun h => h); have kw := hw64.out
                    go_simp
                    try with_reducible rfl
                  try simp only [Act.put, List.setIfInBounds_toArray, List.set_cons_zero, List.set_cons_succ, List.getElem_toArray, List.getElem_cons_succ, List.getElem_cons_zero]
                  refine wpAnyH_take (i := 14) (v := ?_) rfl (by kernel_rfl) (by kernel_rfl) (by kernel_rfl) (fun _ _ _ h => h) (Or.inl ⟨by rfl, ?_⟩) (by assumption) ?_
                  rotate_left
                  · intro w' hSw
                    have ka0 := cell_far hSw a0 (fun h => h); have ka1 := cell_far hSw a1 (fun h => h); have ka2 := cell_far hSw a2 (fun h => h); have kn1 := cell_far hSw n1 (fun h => h); have kn2 := cell_far hSw n2 (fun h => h); have kn3 := cell_far hSw n3 (fun h => h); have kn4 := cell_far hSw n4 (fun h => h); have kw := hw64.out
                    go_simp
                    try with_reducible rfl
                  try simp only [Act.put, List.setIfInBounds_toArray, List.set_cons_zero, List.set_cons_succ, List.getElem_toArray, List.getElem_cons_succ, List.getElem_cons_zero]
                  refine wpAnyH_take (i := 15) (v := ?_) rfl (by kernel_rfl) (by kernel_rfl) (by kernel_rfl) (fun _ _ _ h => h) (Or.inl ⟨by rfl, ?_⟩) (by assumption) ?_
                  rotate_left
                  · intro w' hSw
                    have ka0 := cell_far hSw a0 (fun h => h); have ka1 := cell_far hSw a1 (fun h => h); have ka2 := cell_far hSw a2 (fun h => h); have kn1 := cell_far hSw n1 (fun h => h); have kn2 := cell_far hSw n2 (fun h => h); have kn3 := cell_far hSw n3 (fun h => h); have kn4 := cell_far hSw n4 (fun h => h); have kw := hw64.out
                    go_simp
                    try with_reducible rfl
                  try simp only [Act.put, List.setIfInBounds_toArray, List.set_cons_zero, List.set_cons_succ, List.getElem_toArray, List.getElem_cons_succ, List.getElem_cons_zero]
                  refine wpAnyH_take (i := 16) (v := ?_) rfl (by kernel_rfl) (by kernel_rfl) (by kernel_rfl) (fun _ _ _ h => h) (Or.inl ⟨by rfl, ?_⟩) (by assumption) ?_
                  rotate_left
                  · intro w' hSw
                    have ka0 := cell_far hSw a0 (fun h => h); have ka1 := cell_far hSw a1 (fun h => h); have ka2 := cell_far hSw a2 (fun h => h); have kn1 := cell_far hSw n1 (fun h => h); have kn2 := cell_far hSw n2 (fun h => h); have kn3 := cell_far hSw n3 (fun h => h); have kn4 := cell_far hSw n4 (fun h => h); have kw := hw64.out
                    go_simp
                    try with_reducible rfl
                  try simp only [Act.put, List.setIfInBounds_toArray, List.set_cons_zero, List.set_cons_succ, List.getElem_toArray, List.getElem_cons_succ, List.getElem_cons_zero]
                  refine wpAnyH_take (i := 17) (v := ?_) rfl (by kernel_rfl) (by kernel_rfl) (by kernel_rfl) (fun _ _ _ h => h) (Or.inl ⟨by rfl, ?_⟩) (by assumption) ?_
                  rotate_left
                  · intro w' hSw
                    have ka0 := cell_far hSw a0 (fun h => h); have ka1 := cell_far hSw a1 (fun h => h); have ka2 := cell_far hSw a2 (fun h => h); have kn1 := cell_far hSw n1 (fun h => h); have kn2 := cell_far hSw n2 (fun h => h); have kn3 := cell_far hSw n3 (fun h => h); have kn4 := cell_far hSw n4 (fun h => h); have kw := hw64.out
                    go_simp
                    try with_reducible rfl
                  try simp only [Act.put, List.setIfInBounds_toArray, List.set_cons_zero, List.set_cons_succ, List.getElem_toArray, List.getElem_cons_succ, List.getElem_cons_zero]
                  refine wpAnyH_take (i := 18) (v := ?_) rfl (by kernel_rfl) (by kernel_rfl) (by kernel_rfl) (fun _ _ _ h => h) (Or.inl ⟨by rfl, ?_⟩) (by assumption) ?_
                  rotate_left
                  · intro w' hSw
                    have ka0 := cell_far hSw a0 (fun h => h); have ka1 := cell_far hSw a1 (fun h => h); have ka2 := cell_far hSw a2 (fun h => h); have kn1 := cell_far hSw n1 (fun h => h); have kn2 := cell_far hSw n2 (fun h => h); have kn3 := cell_far hSw n3 (fun h => h); have kn4 := cell_far hSw n4 (fun h => h); have kw := hw64.out
                    go_simp
                    try with_reducible rfl
                  try simp only [Act.put, List.setIfInBounds_toArray, List.set_cons_zero, List.set_cons_succ, List.getElem_toArray, List.getElem_cons_succ, List.getElem_cons_zero]
                  refine wpAnyH_take (i := 19) (v := ?_) rfl (by kernel_rfl) (by kernel_rfl) (by kernel_rfl) (fun _ _ _ h => h) (Or.inl ⟨by rfl, ?_⟩) (by assumption) ?_
                  rotate_left
                  · intro w' hSw
                    have ka0 := cell_far hSw a0 (fun h => h); have ka1 := cell_far hSw a1 (fun h => h); have ka2 := cell_far hSw a2 (fun h => h); have kn1 := cell_far hSw n1 (fun h => h); have kn2 := cell_far hSw n2 (fun h => h); have kn3 := cell_far hSw n3 (fun h => h); have kn4 := cell_far hSw n4 (fun h => h); have kw := hw64.out
                    go_simp
                    try with_reducible rfl
                  try simp only [Act.put, List.setIfInBounds_toArray, List.set_cons_zero, List.set_cons_succ, List.getElem_toArray, List.getElem_cons_succ, List.getElem_cons_zero]
                  refine wpAnyH_take (i := 20) (v := ?_) rfl (by kernel_rfl) (by kernel_rfl) (by kernel_rfl) (fun _ _ _ h => h) (Or.inl ⟨by rfl, ?_⟩) (by assumption) ?_
                  rotate_left
                  · intro w' hSw
                    have ka0 := cell_far hSw a0 (fun h => h); have ka1 := cell_far hSw a1 (fun h => h); have ka2 := cell_far hSw a2 (fun h => h); have kn1 := cell_far hSw n1 (fun h => h); have kn2 := cell_far hSw n2 (fun h => h); have kn3 := cell_far hSw n3 (fun h => h); have kn4 := cell_far hSw n4 (fun h => h); have kw := hw64.out
                    go_simp
                    try with_reducible rfl
                  try simp only [Act.put, List.setIfInBounds_toArray, List.set_cons_zero, List.set_cons_succ, List.getElem_toArray, List.getElem_cons_succ, List.getElem_cons_zero]
                  refine wpAnyH_take (i := 21) (v := ?_) rfl (by kernel_rfl) (by kernel_rfl) (by kernel_rfl) (fun _ _ _ h => h) (Or.inl ⟨by rfl, ?_⟩) (by assumption) ?_
                  rotate_left
                  · intro w' hSw
                    have ka0 := cell_far hSw a0 (fun h => h); have ka1 := cell_far hSw a1 (fun h => h); have ka2 := cell_far hSw a2 (fun h => h); have kn1 := cell_far hSw n1 (fun h => h); have kn2 := cell_far hSw n2 (fun h => h); have kn3 := cell_far hSw n3 (fun h => h); have kn4 := cell_far hSw n4 (fun h => h); have kw := hw64.out
                    go_simp
                    try with_reducible rfl
                  try simp only [Act.put, List.setIfInBounds_toArray, List.set_cons_zero, List.set_cons_succ, List.getElem_toArray, List.getElem_cons_succ, List.getElem_cons_zero]
                  refine wpAnyH_take (i := 22) (v := ?_) rfl (by kernel_rfl) (by kernel_rfl) (by kernel_rfl) (fun _ _ _ h => h) (Or.inl ⟨by rfl, ?_⟩) (by assumption) ?_
                  rotate_left
                  · intro w' hSw
                    have ka0 := cell_far hSw a0 (fun h => h); have ka1 := cell_far hSw a1 (fun h => h); have ka2 := cell_far hSw a2 (fun h => h); have kn1 := cell_far hSw n1 (fun h => h); have kn2 := cell_far hSw n2 (fun h => h); have kn3 := cell_far hSw n3 (fun h => h); have kn4 := cell_far hSw n4 (fun h => h); have kw := hw64.out
                    go_simp
                    try with_reducible rfl
                  try simp only [Act.put, List.setIfInBounds_toArray, List.set_cons_zero, List.set_cons_succ, List.getElem_toArray, List.getElem_cons_succ, List.getElem_cons_zero]
                  refine wpAnyH_take (i := 23) (v := ?_) rfl (by kernel_rfl) (by kernel_rfl) (by kernel_rfl) (fun _ _ _ h => h) (Or.inl ⟨by rfl, ?_⟩) (by assumption) ?_
                  rotate_left
                  · intro w' hSw
                    have ka0 := cell_far hSw a0 (fun h => h); have ka1 := cell_far hSw a1 (fun h => h); have ka2 := cell_far hSw a2 (fun h => h); have kn1 := cell_far hSw n1 (fun h => h); have kn2 := cell_far hSw n2 (fun h => h); have kn3 := cell_far hSw n3 (fun h => h); have kn4 := cell_far hSw n4 (fun h => h); have kw := hw64.out
                    go_simp
                    try with_reducible rfl
                  try simp only [Act.put, List.setIfInBounds_toArray, List.set_cons_zero, List.set_cons_succ, List.getElem_toArray, List.getElem_cons_succ, List.getElem_cons_zero]
                  refine wpAnyH_take (i := 24) (v := ?_) rfl (by kernel_rfl) (by kernel_rfl) (by kernel_rfl) (fun _ _ _ h => h) (Or.inl ⟨by rfl, ?_⟩) (by assumption) ?_
                  rotate_left
                  · intro w' hSw
                    have ka0 := cell_far hSw a0 (fun h => h); have ka1 := cell_far hSw a1 (fun h => h); have ka2 := cell_far hSw a2 (fun h => h); have kn1 := cell_far hSw n1 (fun h => h); have kn2 := cell_far hSw n2 (fun h => h); have kn3 := cell_far hSw n3 (fun h => h); have kn4 := cell_far hSw n4 (fun h => h); have kw := hw64.out
                    go_simp
                    try with_reducible rfl
                  try simp only [Act.put, List.setIfInBounds_toArray, List.set_cons_zero, List.set_cons_succ, List.getElem_toArray, List.getElem_cons_succ, List.getElem_cons_zero]
                  refine wpAnyH_take (i := 25) (v := ?_) rfl (by kernel_rfl) (by kernel_rfl) (by kernel_rfl) (fun _ _ _ h => h) (Or.inl ⟨by rfl, ?_⟩) (by assumption) ?_
                  rotate_left
                  · intro w' hSw
                    have ka0 := cell_far hSw a0 (fun h => h); have ka1 := cell_far hSw a1 (fun h => h); have ka2 := cell_far hSw a2 (fun h => h); have kn1 := cell_far hSw n1 (fun h => h); have kn2 := cell_far hSw n2 (fun h => h); have kn3 := cell_far hSw n3 (fun h => h); have kn4 := cell_far hSw n4 (fun h => h); have kw := hw64.out
                    go_simp
                    try with_reducible rfl
                  try simp only [Act.put, List.setIfInBounds_toArray, List.set_cons_zero, List.set_cons_succ, List.getElem_toArray, List.getElem_cons_succ, List.getElem_cons_zero]
                  refine wpAnyH_take (i := 26) (v := ?_) rfl (by kernel_rfl) (by kernel_rfl) (by kernel_rfl) (fun _ _ _ h => h) (Or.inl ⟨by rfl, ?_⟩) (by assumption) ?_
                  rotate_left
                  · intro w' hSw
                    have ka0 := cell_far hSw a0 (fun h => h); have ka1 := cell_far hSw a1 (fun h => h); have ka2 := cell_far hSw a2 (fun h => h); have kn1 := cell_far hSw n1 (fun h => h); have kn2 := cell_far hSw n2 (fun h => h); have kn3 := cell_far hSw n3 (fun h => h); have kn4 := cell_far hSw n4 (fun h => h); have kw := hw64.out
                    go_simp
                    try with_reducible rfl
                  try simp only [Act.put, List.setIfInBounds_toArray, List.set_cons_zero, List.set_cons_succ, List.getElem_toArray, List.getElem_cons_succ, List.getElem_cons_zero]
                  refine wpAnyH_take (i := 27) (v := ?_) rfl (by kernel_rfl) (by kernel_rfl) (by kernel_rfl) (fun _ _ _ h => h) (Or.inl ⟨by rfl, ?_⟩) (by assumption) ?_
                  rotate_left
                  · intro w' hSw
                    have ka0 := cell_far hSw a0 (fun h => h); have ka1 := cell_far hSw a1 (fun h => h); have ka2 := cell_far hSw a2 (fun h => h); have kn1 := cell_far hSw n1 (fun h => h); have kn2 := cell_far hSw n2 (fun h => h); have kn3 := cell_far hSw n3 (fun h => h); have kn4 := cell_far hSw n4 (fun h => h); have kw := hw64.out
                    go_simp
                    try with_reducible rfl
                  try simp only [Act.put, List.setIfInBounds_toArray, List.set_cons_zero, List.set_cons_succ, List.getElem_toArray, List.getElem_cons_succ, List.getElem_cons_zero]
                  refine wpAnyH_take (i := 28) (v := ?_) rfl (by kernel_rfl) (by kernel_rfl) (by kernel_rfl) (fun _ _ _ h => h) (Or.inl ⟨by rfl, ?_⟩) (by assumption) ?_
                  rotate_left
                  · intro w' hSw
                    have ka0 := cell_far hSw a0 (fun h => h); have ka1 := cell_far hSw a1 (fun h => h); have ka2 := cell_far hSw a2 (fun h => h); have kn1 := cell_far hSw n1 (fun h => h); have kn2 := cell_far hSw n2 (fun h => h); have kn3 := cell_far hSw n3 (fun h => h); have kn4 := cell_far hSw n4 (fun h => h); have kw := hw64.out
                    go_simp
                    try with_reducible rfl
                  try simp only [Act.put, List.setIfInBounds_toArray, List.set_cons_zero, List.set_cons_succ, List.getElem_toArray, List.getElem_cons_succ, List.getElem_cons_zero]
                  refine wpAnyH_take (i := 29) (v := ?_) rfl (by kernel_rfl) (by kernel_rfl) (by kernel_rfl) (fun _ _ _ h => h) (Or.inl ⟨by rfl, ?_⟩) (by assumption) ?_
                  rotate_left
                  · intro w' hSw
                    have ka0 := cell_far hSw a0 (fun h => h); have ka1 := cell_far hSw a1 (fun h => h); have ka2 := cell_far hSw a2 (fun h => h); have kn1 := cell_far hSw n1 (fun h => h); have kn2 := cell_far hSw n2 (fun h => h); have kn3 := cell_far hSw n3 (fun h => h); have kn4 := cell_far hSw n4 (fun h => h); have kw := hw64.out
                    go_simp
                    try with_reducible rfl
                  try simp only [Act.put, List.setIfInBounds_toArray, List.set_cons_zero, List.set_cons_succ, List.getElem_toArray, List.getElem_cons_succ, List.getElem_cons_zero]
                  refine wpAnyH_take (i := 30) (v := ?_) rfl (by kernel_rfl) (by kernel_rfl) (by kernel_rfl) (fun _ _ _ h => h) (Or.inl ⟨by rfl, ?_⟩) (by assumption) ?_
                  rotate_left
                  · intro w' hSw
                    have ka0 := cell_far hSw a0 (fun h => h); have ka1 := cell_far hSw a1 (fun h => h); have ka2 := cell_far hSw a2 (fun h => h); have kn1 := cell_far hSw n1 (fun h => h); have kn2 := cell_far hSw n2 (fun h => h); have kn3 := cell_far hSw n3 (fun h => h); have kn4 := cell_far hSw n4 (fun h => h); have kw := hw64.out
                    go_simp
                    try with_reducible rfl
                  try simp only [Act.put, List.setIfInBounds_toArray, List.set_cons_zero, List.set_cons_succ, List.getElem_toArray, List.getElem_cons_succ, List.getElem_cons_zero]
                  refine wpAnyH_take (i := 31) (v := ?_) rfl (by kernel_rfl) (by kernel_rfl) (by kernel_rfl) (fun _ _ _ h => h) (Or.inl ⟨by rfl, ?_⟩) (by assumption) ?_
                  rotate_left
                  · intro w' hSw
                    have ka0 := cell_far hSw a0 (fun h => h); have ka1 := cell_far hSw a1 (fun h => h); have ka2 := cell_far hSw a2 (fun h => h); have kn1 := cell_far hSw n1 (fun h => h); have kn2 := cell_far hSw n2 (fun h => h); have kn3 := cell_far hSw n3 (fun h => h); have kn4 := cell_far hSw n4 (fun h => h); have kw := hw64.out
                    go_simp
                    try with_reducible rfl
                  try simp only [Act.put, List.setIfInBounds_toArray, List.set_cons_zero, List.set_cons_succ, List.getElem_toArray, List.getElem_cons_succ, List.getElem_cons_zero]
                  refine wpAnyH_take (i := 32) (v := ?_) rfl (by kernel_rfl) (by kernel_rfl) (by kernel_rfl) (fun _ _ _ h => h) (Or.inl ⟨by rfl, ?_⟩) (by assumption) ?_
                  rotate_left
                  · intro w' hSw
                    have ka0 := cell_far hSw a0 (fun h => h); have ka1 := cell_far hSw a1 (fun h => h); have ka2 := cell_far hSw a2 (fun h => h); have kn1 := cell_far hSw n1 (fun h => h); have kn2 := cell_far hSw n2 (fun h => h); have kn3 := cell_far hSw n3 (fun h => h); have kn4 := cell_far hSw n4 (fun h => h); have kw := hw64.out
                    go_simp
                    try with_reducible rfl
                  try simp only [Act.put, List.setIfInBounds_toArray, List.set_cons_zero, List.set_cons_succ, List.getElem_toArray, List.getElem_cons_succ, List.getElem_cons_zero]
                  refine wpAnyH_take (i := 33) (v := ?_) rfl (by kernel_rfl) (by kernel_rfl) (by kernel_rfl) (fun _ _ _ h => h) (Or.inl ⟨by rfl, ?_⟩) (by assumption) ?_
                  rotate_left
                  · intro w' hSw
                    have ka0 := cell_far hSw a0 (fun h => h); have ka1 := cell_far hSw a1 (fun h => h); have ka2 := cell_far hSw a2 (fun h => h); have kn1 := cell_far hSw n1 (fun h => h); have kn2 := cell_far hSw n2 (fun h => h); have kn3 := cell_far hSw n3 (fun h => h); have kn4 := cell_far hSw n4 (fun h => h); have kw := hw64.out
                    go_simp
                    try with_reducible rfl
                  try simp only [Act.put, List.setIfInBounds_toArray, List.set_cons_zero, List.set_cons_succ, List.getElem_toArray, List.getElem_cons_succ, List.getElem_cons_zero]
                  refine wpAnyH_take (i := 34) (v := ?_) rfl (by kernel_rfl) (by kernel_rfl) (by kernel_rfl) (fun _ _ _ h => h) (Or.inl ⟨by rfl, ?_⟩) (by assumption) ?_
                  rotate_left
                  · intro w' hSw
                    have ka0 := cell_far hSw a0 (fun h => h); have ka1 := cell_far hSw a1 (fun h => h); have ka2 := cell_far hSw a2 (fun h => h); have kn1 := cell_far hSw n1 (fun h => h); have kn2 := cell_far hSw n2 (fun h => h); have kn3 := cell_far hSw n3 (fun h => h); have kn4 := cell_far hSw n4 (fun h => h); have kw := hw64.out
                    go_simp
                    try with_reducible rfl
                  try simp only [Act.put, List.setIfInBounds_toArray, List.set_cons_zero, List.set_cons_succ, List.getElem_toArray, List.getElem_cons_succ, List.getElem_cons_zero]
                  refine wpAnyH_ready (rs := [35]) (by kernel_rfl) (by simp) ?_
                  refine AllReadyH.cons rfl (fun K hK => ?_) AllReadyH.nil
                  go_simp
                  refine (HA.out _ hHeld).mono ?_
                  rintro e w9 ⟨rfl, hf9⟩
                  refine hK.out _ _ (ff0 hHeld hf9) (fun hHeld2 => ?_)
                  clear hK K hHeld hf9
                  rename_i hHeld2
                  try simp only [Act.put, List.setIfInBounds_toArray, List.set_cons_zero, List.set_cons_succ, List.getElem_toArray, List.getElem_cons_succ, List.getElem_cons_zero]
                  refine wpAnyH_take (i := 36) (v := ?_) rfl (by kernel_rfl) (by kernel_rfl) (by kernel_rfl) (fun _ _ _ h => h) (Or.inl ⟨by rfl, ?_⟩) (by exact hHeld2) ?_
                  rotate_left
                  · intro w' hSw
                    skip
                    go_simp
                    try with_reducible rfl
                  try simp only [Act.put, List.setIfInBounds_toArray, List.set_cons_zero, List.set_cons_succ, List.getElem_toArray, List.getElem_cons_succ, List.getElem_cons_zero]
                  refine wpAnyH_take (i := 37) (v := ?_) rfl (by kernel_rfl) (by kernel_rfl) (by kernel_rfl) (fun _ _ _ h => h) (Or.inl ⟨by rfl, ?_⟩) (by exact hHeld2) ?_
                  rotate_left
                  · intro w' hSw
                    skip
                    go_simp
                    try with_reducible rfl
                  try simp only [Act.put, List.setIfInBounds_toArray, List.set_cons_zero, List.set_cons_succ, List.getElem_toArray, List.getElem_cons_succ, List.getElem_cons_zero]
                  refine wpAnyH_done (by kernel_rfl) ?_ _
                  go_wp2_with fail
                  go_ret
                  exact ⟨rfl, ff0 HF6.out hHeld2⟩
set_option maxRecDepth 100000 in
theorem counts_any (l : List LineL) (A : Option Addr) (c : Nat) (w : World) (hl : LinesAt w A l) (hm : l.length ≤ maxLen) (hw : LOk w) : Calls Tryz.prog 6 #[.slice A l.length c] w (TrueR w) := by
  cases hb : lightD l with
  | true => exact counts_light l A c w hl hm hw hb
  | false =>
    have HT := Lib.hid (light10_any l A c w hl hm false hb)
    have HW := Lib.hid (fun (W : World) (f : Fr w W (fun _ => False)) => alive10_any W (hw.fr f))
    clear hl hw hb
    go_enter Tryz.func6, Tryz.ntmps6
    go_wp2_with fail
    refine HT.out.mono ?_
    rintro e w2 ⟨rfl, hf2⟩
    have HA := Lib.hid (HW.out w2 hf2)
    have HF2 := Lib.hid hf2
    clear hf2
    go_wp2_with fail
    refine HA.out.mono ?_
    rintro e w3 ⟨rfl, hf3⟩
    have HF3 := Lib.hid (ff0 HF2.out hf3)
    clear hf3
    go_wp2_with fail
    go_ret
    exact ⟨rfl, HF3.out⟩
end Go.Proofs.YtlfjknndkjgciaaGreatDoor
