import Derived.Test.YtghcfmoagkimaaaGreatDoorYa19
import Derived.Test.YtghcfmoagkimaaaGreatDoorYa17
import Derived.Test.YtghcfmoagkimaaaGreatDoorYa07
import Derived.Test.YtghcfmoagkimaaaGreatDoorYa13
import Derived.Test.YtghcfmoagkimaaaGreatDoorYa14
import Derived.Deep.LoopGhost
namespace Go.Proofs.YtghcfmoagkimaaaGreatDoor
open Go.RowKit Go.Mem Go.Lin Go.Xpd Go.Den

/-- what is known of a zone that comes in -/
structure ZnR (v : ZnV) : Prop where
  z : ∀ x ∈ v.Z, x.l.length ≤ maxLen ∧ ∀ r ∈ x.l, RuR r
  e : ∀ e ∈ v.eras, EraR e
  ne : v.eras.length ≤ maxLen
  nz : v.Z.length ≤ maxLen
set_option maxHeartbeats 6400000 in
set_option maxRecDepth 100000 in
theorem zLight_any (v : ZnV) (w : World) (hv : ZnAt w v) (hR : ZnR v) : Calls Tryz.prog 5 #[.agg (zoneC v)] w fun e w' => e = .returned (.bool (decide (LightZ v))) ∧ Fr w w' (fun _ => False) := by
  have HF1 := Lib.hid (Fr.new w (.cells (zoneC v) 25) (fun _ => False))
  have HB1 := Lib.hid (Blk.made w 25 (zoneC v))
  have c0 : (w.alloc (.cells (zoneC v) 25)).cell? ⟨w.heap.size, 0, none⟩ = some (.slice v.Ae v.eras.length v.ce) := blkc HB1.out 0 _ rfl
  have c1 : (w.alloc (.cells (zoneC v) 25)).cell? ⟨w.heap.size, 1, none⟩ = some (.slice v.Ar v.Z.length v.cr) := blkc HB1.out 1 _ rfl
  have HV := Lib.hid (hv.kept HF1.out)
  have HRz := Lib.hid hR
  have hne := hR.ne
  have hnz := hR.nz
  clear hv hR
  have h3 : 10 < v.eras.length ∨ (v.eras.length ≤ 10 ∧ 10 < v.Z.length) ∨ (v.eras.length ≤ 10 ∧ v.Z.length ≤ 10) := by omega
  rcases h3 with q | ⟨q, q2⟩ | ⟨q, q2⟩
  · have HN := Lib.hid (show ¬ LightZ v from fun h => by have := h.1; omega)
    have q : (10 : Int) < (v.eras.length : Int) := by omega
    go_enter Tryz.func5, Tryz.ntmps5
    go_wp2_with fail
    go_ret
    exact ⟨by rw [decide_eq_false HN.out]; rfl, HF1.out⟩
  · have HN := Lib.hid (show ¬ LightZ v from fun h => by have := h.2.1; omega)
    have q : (v.eras.length : Int) ≤ 10 := by omega
    have q2 : (10 : Int) < (v.Z.length : Int) := by omega
    go_enter Tryz.func5, Tryz.ntmps5
    go_wp2_with fail
    go_ret
    exact ⟨by rw [decide_eq_false HN.out]; rfl, HF1.out⟩
  · have HQ := Lib.hid (And.intro q q2)
    have q : (v.eras.length : Int) ≤ 10 := by omega
    have q2 : (v.Z.length : Int) ≤ 10 := by omega
    have q3 : decide ((10 : Int) < (v.eras.length : Int)) = false := decide_eq_false (by omega)
    have q4 : decide ((10 : Int) < (v.Z.length : Int)) = false := decide_eq_false (by omega)
    go_enter Tryz.func5, Tryz.ntmps5
    go_wp2_with fail
    clear q q2 q3 q4
    generalize w.alloc (.cells (zoneC v) 25) = W1 at *
    have HC0 := Lib.hid c0
    have HC1 := Lib.hid c1
    clear c0 c1
    go_loopg [3] v.Z.length (fun g v3 wr => ∃ i : Nat, v3 = intV i ∧ i + g = v.Z.length ∧ (∀ j x, j < i → v.Z[j]? = some x → LightP x.l 6) ∧ Fr W1 wr (fun _ => False))
    case atStart => exact ⟨0, rfl, by simp, (fun j x hj => absurd hj (Nat.not_lt_zero j)), Fr.refl _ _⟩
    case round =>
      obtain ⟨i, rfl, hig, hok, hf⟩ := hrel
      have HF := Lib.hid hf
      have HOk := Lib.hid hok
      have g1 : wr.cell? ⟨w.heap.size, 1, none⟩ = some (.slice v.Ar v.Z.length v.cr) := cell_far hf HC1.out (fun h => h)
      by_cases hlt : i < v.Z.length
      · obtain ⟨x, hx⟩ : ∃ x, v.Z[i]? = some x := ⟨v.Z[i], List.getElem?_eq_getElem hlt⟩
        obtain ⟨b5, o5, hA5, hc5, hr5⟩ := (HV.out.kept hf).r.at_ hx
        rw [hA5] at g1
        clear hA5
        have z0 : (i : Int) < (v.Z.length : Int) := by omega
        obtain ⟨r1, r2⟩ := HRz.out.z x (List.mem_of_getElem? hx)
        have HL := Lib.hid (Light_any x.l x.A x.c 6 wr hr5 (by decide) r1 r2)
        have HX := Lib.hid hx
        clear hr5 hok hf hx r1 r2
        by_cases hP : LightP x.l 6
        · rw [decide_eq_true hP] at HL
          have HSt := Lib.hid (show ∀ j y, j < i + 1 → v.Z[j]? = some y → LightP y.l 6 from fun j y hj hy => by
            by_cases c : j = i
            · subst c; rw [HX.out] at hy; cases hy; exact hP
            · exact HOk.out j y (by omega) hy)
          clear hP
          go_wp2_with fail
          refine HL.out.mono ?_
          rintro e w2 ⟨rfl, hf2⟩
          have HF2 := Lib.hid (ff4 HF.out hf2)
          clear hf2
          go_wp2_with fail
          go_roundg (v.Z.length - (i + 1))
          case measure => omega
          case rel => exact ⟨i + 1, by go_num, by omega, HSt.out, HF2.out⟩
        · rw [decide_eq_false hP] at HL
          have HN := Lib.hid (show ¬ LightZ v from fun h => hP (h.2.2.1 x (List.mem_of_getElem? HX.out)))
          clear hP
          go_wp2_with fail
          refine HL.out.mono ?_
          rintro e w2 ⟨rfl, hf2⟩
          have HF2 := Lib.hid (ff4 HF1.out (ff4 HF.out hf2))
          clear hf2
          go_wp2_with fail
          go_ret
          exact ⟨by rw [decide_eq_false HN.out]; rfl, HF2.out⟩
      · obtain rfl : i = v.Z.length := by omega
        have HZa := Lib.hid (show ∀ x ∈ v.Z, LightP x.l 6 from fun x hx => by
          obtain ⟨k, hk⟩ := List.mem_iff_getElem?.1 hx
          exact hok k x (List.getElem?_eq_some_iff.1 hk).1 hk)
        clear hok hf
        go_wp2_with fail
        go_loopg [4, 5] v.eras.length (fun g v4 _ wr => ∃ i : Nat, v4 = intV i ∧ i + g = v.eras.length ∧ (∀ j e, j < i → v.eras[j]? = some e → OkE e) ∧ Fr W1 wr (fun _ => False))
        case atStart => exact ⟨0, rfl, by simp, (fun j e hj => absurd hj (Nat.not_lt_zero j)), HF.out⟩
        case round =>
          obtain ⟨i, rfl, hig, hok, hf⟩ := hrel
          have HFe := Lib.hid hf
          have HOk := Lib.hid hok
          have g0 : wr.cell? ⟨w.heap.size, 0, none⟩ = some (.slice v.Ae v.eras.length v.ce) := cell_far hf HC0.out (fun h => h)
          by_cases hlt : i < v.eras.length
          · obtain ⟨e, he⟩ : ∃ e, v.eras[i]? = some e := ⟨v.eras[i], List.getElem?_eq_getElem hlt⟩
            obtain ⟨b, off, hA, hc⟩ := (HV.out.kept hf).e.at_ he
            rw [hA] at g0
            clear hA
            have i0 : (i : Int) < (v.eras.length : Int) := by omega
            have HCx := Lib.hid hc
            have HE := Lib.hid he
            have her := HRz.out.e e (List.mem_of_getElem? he)
            have hr1 := her.rules
            have hr2 := her.format
            have n2 := Fr.new wr (.cells (eraC eraZ) 48) (fun _ => False)
            have HF2 := Lib.hid n2
            have HBz := Lib.hid (Blk.made wr 48 (eraC eraZ))
            have hz1 := S6.str_size e.rules
            have hz2 := S6.str_size e.format
            clear hc hok hf n2 he
            by_cases hP : OkE e
            · have HSt := Lib.hid (show ∀ j y, j < i + 1 → v.eras[j]? = some y → OkE y from fun j y hj hy => by
                by_cases c : j = i
                · subst c; rw [HE.out] at hy; cases hy; exact hP
                · exact HOk.out j y (by omega) hy)
              obtain ⟨k1, k2, k3, k4, k5, k6, k7, k8⟩ := hP
              have k7 : (e.rules.length : Int) ≤ 100 := by omega
              have k8 : (e.format.length : Int) ≤ 100 := by omega
              go_wp2_with (first
                | ((with_reducible refine at_load4 48 ?_); refine wpList_load_at 48 _ b (off + i * 13) (eraC e) _ (by rfl) rfl rfl HCx.out Tryz.underlying48 rfl (infoE _) ?_)
                | ((with_reducible refine at_store4 48 ?_); refine wpList_store_blk 48 _ _ wr.heap.size 0 48 (eraC eraZ) (eraC e) (eraC e) (by rfl) rfl rfl rfl rfl HBz.out (infoE _) (eraC_one _) (show 0 + 13 ≤ 13 by decide) (put_er _ _) ?_
                   intro W4 hf4 hb4
                   have HF4 := Lib.hid (ff4 HFe.out (HF2.out.fresh hf4 (fun i e => by have e : i = wr.heap.size := e; omega)))
                   have d0 : W4.cell? ⟨wr.heap.size, 0, none⟩ = some (.int .i64 e.off) := blkc hb4 0 _ rfl
                   have d2 : W4.cell? ⟨wr.heap.size, 2, none⟩ = some (.int .i64 e.save) := blkc hb4 2 _ rfl
                   have d3 : W4.cell? ⟨wr.heap.size, 3, none⟩ = some (strV e.rules) := blkc hb4 3 _ rfl
                   have d4 : W4.cell? ⟨wr.heap.size, 4, none⟩ = some (strV e.format) := blkc hb4 4 _ rfl
                   have d11 : W4.cell? ⟨wr.heap.size, 11, none⟩ = some (.int .i64 e.til.at_.s) := blkc hb4 11 _ rfl
                   clear hf4 hb4 HF2 HBz))
              go_roundg (v.eras.length - (i + 1))
              case measure => omega
              case rel => exact ⟨i + 1, by go_num, by omega, HSt.out, HF4.out⟩
            · have HN := Lib.hid (show ¬ LightZ v from fun h => hP (h.2.2.2 e (List.mem_of_getElem? HE.out)))
              have h9 : e.off < -100000 ∨ (-100000 ≤ e.off ∧ 100000 < e.off) ∨ (-100000 ≤ e.off ∧ e.off ≤ 100000 ∧ e.save < -100000) ∨ (-100000 ≤ e.off ∧ e.off ≤ 100000 ∧ -100000 ≤ e.save ∧ 100000 < e.save) ∨
                  (-100000 ≤ e.off ∧ e.off ≤ 100000 ∧ -100000 ≤ e.save ∧ e.save ≤ 100000 ∧ (e.til.at_.s < -700000 ∨ (-700000 ≤ e.til.at_.s ∧ (700000 < e.til.at_.s ∨ (e.til.at_.s ≤ 700000 ∧ (100 < (e.rules.length : Int) ∨ ((e.rules.length : Int) ≤ 100 ∧ 100 < (e.format.length : Int)))))))) := by
                unfold OkE at hP; omega
              clear hP
              rcases h9 with k1 | ⟨k1, k2⟩ | ⟨k1, k2, k3⟩ | ⟨k1, k2, k3, k4⟩ | ⟨k1, k2, k3, k4, k5 | ⟨k5, k6 | ⟨k6, k7 | ⟨k7, k8⟩⟩⟩⟩
              all_goals
                go_wp2_with (first
                  | ((with_reducible refine at_load4 48 ?_); refine wpList_load_at 48 _ b (off + i * 13) (eraC e) _ (by rfl) rfl rfl HCx.out Tryz.underlying48 rfl (infoE _) ?_)
                  | ((with_reducible refine at_store4 48 ?_); refine wpList_store_blk 48 _ _ wr.heap.size 0 48 (eraC eraZ) (eraC e) (eraC e) (by rfl) rfl rfl rfl rfl HBz.out (infoE _) (eraC_one _) (show 0 + 13 ≤ 13 by decide) (put_er _ _) ?_
                     intro W4 hf4 hb4
                     have HF4 := Lib.hid (ff4 HFe.out (HF2.out.fresh hf4 (fun i e => by have e : i = wr.heap.size := e; omega)))
                     have d0 : W4.cell? ⟨wr.heap.size, 0, none⟩ = some (.int .i64 e.off) := blkc hb4 0 _ rfl
                     have d2 : W4.cell? ⟨wr.heap.size, 2, none⟩ = some (.int .i64 e.save) := blkc hb4 2 _ rfl
                     have d3 : W4.cell? ⟨wr.heap.size, 3, none⟩ = some (strV e.rules) := blkc hb4 3 _ rfl
                     have d4 : W4.cell? ⟨wr.heap.size, 4, none⟩ = some (strV e.format) := blkc hb4 4 _ rfl
                     have d11 : W4.cell? ⟨wr.heap.size, 11, none⟩ = some (.int .i64 e.til.at_.s) := blkc hb4 11 _ rfl
                     clear hf4 hb4 HF2 HBz))
                go_ret
                exact ⟨by rw [decide_eq_false HN.out]; rfl, ff4 HF1.out HF4.out⟩
          · obtain rfl : i = v.eras.length := by omega
            have HY := Lib.hid (show LightZ v from ⟨HQ.out.1, HQ.out.2, HZa.out, fun e he => by
              obtain ⟨k, hk⟩ := List.mem_iff_getElem?.1 he
              exact hok k e (List.getElem?_eq_some_iff.1 hk).1 hk⟩)
            clear hok hf
            go_wp2_with fail
            go_ret
            exact ⟨by rw [decide_eq_true HY.out]; rfl, ff4 HF1.out HFe.out⟩
end Go.Proofs.YtghcfmoagkimaaaGreatDoor
namespace Go.Proofs.YtghcfmoagkimaaaGreatDoor
open Go.RowKit Go.Mem Go.Lin Go.WideShapes Go.Xpd Go.Den

theorem cells_eras : Tryz.prog.cellsOf 22 = 1 := by kernel_rfl
theorem cells_russ : Tryz.prog.cellsOf 23 = 1 := by kernel_rfl
theorem cells_zn : Tryz.prog.cellsOf 25 = 2 := by kernel_rfl
theorem array2 {α : Type} {cs : Array α} (h : cs.size = 2) : ∃ c0 c1, cs = #[c0, c1] := by
  obtain ⟨l⟩ := cs
  match l, h with
  | [c0, c1], _ => exact ⟨c0, c1, rfl⟩
section
variable {H : Type} {enc : TypeId × Value → H} {w : World} {base : Nat} {spare : Nat → Bool} {held : Bool}
set_option maxRecDepth 100000 in
/-- a zone that came in -/
theorem open_zn {r : Reach} {b0 : Nat} {v : Value} {d : DataW H} {p : List MemPlace} (hv : Value.okWide Tryz.prog w r b0 25 v) (h : DataW.Trod enc Tryz.prog w base spare held 25 v d p) :
    ∃ x : ZnV, v = .agg (zoneC x) ∧ ZnAt w x ∧ ZnR x := by
  obtain ⟨cs, rfl, hsz⟩ := okWide_struct Tryz.underlying25 hv
  obtain ⟨c0, c1, rfl⟩ := array2 (hsz.trans cells_zn)
  obtain ⟨fuel, hf⟩ := h
  have hf : DataW.trod enc Tryz.prog w base spare held fuel 25 [c0, c1] = some (d, p) := by simpa [Value.cells] using hf
  obtain ⟨xs, m, -, -, -, hlen, hf⟩ := DataW.trod_struct Tryz.underlying25 hf
  obtain ⟨y0, g0⟩ := fld hlen hf 0 _ rfl
  simp only [List.getElem_toArray, List.getElem_cons_zero, cells_eras, List.drop_zero, List.take_succ_cons, List.take_zero] at g0
  obtain ⟨y1, g1⟩ := fld hlen hf 1 _ rfl
  simp only [List.getElem_toArray, List.getElem_cons_zero, List.getElem_cons_succ, cells_russ, List.drop_succ_cons, List.drop_zero, List.take_succ_cons, List.take_zero] at g1
  have e0 : ∃ a n c, c0 = .slice a n c := by
    rcases Go.Deep.open_slice Tryz.underlying22 g0 with ⟨hcs, -⟩ | ⟨ad', l', c', m', n', D', Pl', hcs, -⟩
    · simp at hcs; exact ⟨_, _, _, hcs⟩
    · simp at hcs; exact ⟨_, _, _, hcs⟩
  have e1 : ∃ a n c, c1 = .slice a n c := by
    rcases Go.Deep.open_slice Tryz.underlying23 g1 with ⟨hcs, -⟩ | ⟨ad', l', c', m', n', D', Pl', hcs, -⟩
    · simp at hcs; exact ⟨_, _, _, hcs⟩
    · simp at hcs; exact ⟨_, _, _, hcs⟩
  obtain ⟨Ae, ne, ce, rfl⟩ := e0
  obtain ⟨Ar, nr, cr, rfl⟩ := e1
  obtain ⟨l, h1, rfl, h3, h4⟩ := eras_in g0
  obtain ⟨Z, k1, rfl, k3, k4⟩ := russ_in g1
  exact ⟨⟨Ae, ce, l, Ar, cr, Z⟩, rfl, ⟨h1, k1⟩, ⟨fun x hx => ⟨(k4 x hx).2.1, (k4 x hx).2.2⟩, h4, h3, k3⟩⟩
end
end Go.Proofs.YtghcfmoagkimaaaGreatDoor
namespace Go.Proofs.YtghcfmoagkimaaaGreatDoor
open Go.RowKit Go.Mem Go.Lin Go.Fmx

theorem text_two16 (n : Int) (a : Nat) (hn : n = (a : Int)) (ha : a < 100) : text [48 + n / 10 % 10, 48 + n % 10] = ⟨(Go.Clk.twoL a).toArray⟩ := by
  have e1 : (48 + n / 10 % 10).toNat = 48 + a / 10 := by omega
  have e2 : (48 + n % 10).toNat = 48 + a % 10 := by omega
  simp [text, e1, e2, Go.Clk.twoL, Go.Clk.chr]
  rfl
theorem r16two_any (n : Int) (a : Nat) (hn : n = (a : Int)) (ha : a < 100) (w : World) : Calls Tryz.prog 78 #[.int .i64 n] w fun e w' => e = .returned (strV (Go.Clk.twoL a)) ∧ Fr w w' (fun _ => False) := by
  have hcv := fun (w : World) => run_text (P := Tryz.prog) (w.alloc (.cells #[.int .u8 (48 + n / 10 % 10), .int .u8 (48 + n % 10)] 5)) 107 9 5 Tryz.underlying107 Tryz.underlying5 Tryz.underlying9 ⟨w.heap.size, 0, none⟩ 2 2 [48 + n / 10 % 10, 48 + n % 10] (rd_new w 5 (0, 0) [.int .u8 (48 + n / 10 % 10), .int .u8 (48 + n % 10)])
  rw [text_two16 n a hn ha] at hcv
  generalize Go.Clk.twoL a = T at hcv ⊢
  have b1 : 0 ≤ n := by omega
  have b2 : n < 100 := by omega
  clear hn ha
  go_enter Tryz.func78, Tryz.ntmps78
  go_wp2_with fail
  go_ret
  exact ⟨rfl, Fr.new _ _ _⟩
end Go.Proofs.YtghcfmoagkimaaaGreatDoor
namespace Go.Proofs.YtghcfmoagkimaaaGreatDoor
open Go.RowKit Go.Mem Go.Lin Go.Fmx

theorem digN_0 {a : Nat} (h1 : a % 3600 = 0) : digN a = Go.Clk.twoL (a / 3600) := by
  unfold digN
  rw [if_pos h1, if_pos (by omega), List.append_nil, List.append_nil]
theorem digN_1 {a : Nat} (h1 : a % 3600 ≠ 0) (h2 : a % 60 = 0) : digN a = Go.Clk.twoL (a / 3600) ++ Go.Clk.twoL (a / 60 % 60) := by
  unfold digN
  rw [if_neg h1, if_pos h2, List.append_nil]
theorem digN_2 {a : Nat} (h1 : a % 3600 ≠ 0) (h2 : a % 60 ≠ 0) : digN a = Go.Clk.twoL (a / 3600) ++ (Go.Clk.twoL (a / 60 % 60) ++ Go.Clk.twoL (a % 60)) := by
  unfold digN
  rw [if_neg h1, if_neg h2]
theorem digD_neg {n : Int} (h : n < 0) : digD n = 45 :: digN n.natAbs := by unfold digD; rw [if_pos h]
theorem digD_pos {n : Int} (h : ¬ n < 0) : digD n = 43 :: digN n.natAbs := by unfold digD; rw [if_neg h]
set_option maxHeartbeats 3200000 in
theorem r16dig_any (n : Int) (h1 : -180000 ≤ n) (h2 : n ≤ 180000) (w : World) : Calls Tryz.prog 49 #[.int .i64 n] w fun e w' => e = .returned (strV (digD n)) ∧ Fr w w' (fun _ => False) := by
  obtain ⟨a, ha⟩ : ∃ a, n.natAbs = a := ⟨_, rfl⟩
  have l1 : ∀ x, (Go.Clk.twoL x).length = 2 := fun _ => rfl
  by_cases hneg : n < 0
  · by_cases hq : a % 3600 = 0
    · obtain ⟨m, hm⟩ : ∃ m, -n = m := ⟨_, rfl⟩
      have b1 : 0 ≤ m := by omega
      have b2 : m ≤ 180000 := by omega
      have H1 := Lib.hid (fun w => r16two_any (m / 3600) (a / 3600) (by omega) (by omega) w)
      have hD := digD_neg hneg
      rw [ha, digN_0 hq] at hD
      rw [hD]
      have t1 : (m % 3600 != 0) = false := by rw [bne_eq_false_iff_eq]; omega
      have t2 : (m % 60 != 0) = false := by rw [bne_eq_false_iff_eq]; omega
      have t3 : (m % 3600 == 0) = true := by rw [beq_iff_eq]; omega
      have t4 : (m % 60 == 0) = true := by rw [beq_iff_eq]; omega
      have x1 := l1 (a / 3600)
      clear hD hq l1
      generalize Go.Clk.twoL (a / 3600) = T1 at *
      have a1 := fun w => S6.run_add_str (P := Tryz.prog) w [45] T1 (by simp; omega)
      simp only [List.cons_append, List.nil_append] at a1 ⊢
      have HM := Lib.hid hm
      clear h1 h2 ha x1
      go_enter Tryz.func49, Tryz.ntmps49
      go_wp2_with fail
      refine (H1.out _).mono ?_
      rintro e w1 ⟨rfl, hf1⟩
      go_wp2_with fail
      go_ret
      exact ⟨rfl, hf1⟩
    · by_cases hs : a % 60 = 0
      · obtain ⟨m, hm⟩ : ∃ m, -n = m := ⟨_, rfl⟩
        have b1 : 0 ≤ m := by omega
        have b2 : m ≤ 180000 := by omega
        have H1 := Lib.hid (fun w => r16two_any (m / 3600) (a / 3600) (by omega) (by omega) w)
        have H2 := Lib.hid (fun w => r16two_any (m / 60 % 60) (a / 60 % 60) (by omega) (by omega) w)
        have hD := digD_neg hneg
        rw [ha, digN_1 hq hs] at hD
        rw [hD]
        have t1 : (m % 3600 != 0) = true := by rw [bne_iff_ne]; omega
        have t2 : (m % 60 != 0) = false := by rw [bne_eq_false_iff_eq]; omega
        have t3 : (m % 3600 == 0) = false := by rw [beq_eq_false_iff_ne]; omega
        have t4 : (m % 60 == 0) = true := by rw [beq_iff_eq]; omega
        have x1 := l1 (a / 3600)
        have x2 := l1 (a / 60 % 60)
        clear hD hq l1 hs
        generalize Go.Clk.twoL (a / 3600) = T1 at *
        generalize Go.Clk.twoL (a / 60 % 60) = T2 at *
        have a1 := fun w => S6.run_add_str (P := Tryz.prog) w [45] T1 (by simp; omega)
        have a2 := fun w => S6.run_add_str (P := Tryz.prog) w (45 :: T1) T2 (by simp; omega)
        simp only [List.cons_append, List.nil_append] at a1 a2 ⊢
        have HM := Lib.hid hm
        clear h1 h2 ha x1 x2
        go_enter Tryz.func49, Tryz.ntmps49
        go_wp2_with fail
        refine (H1.out _).mono ?_
        rintro e w1 ⟨rfl, hf1⟩
        go_wp2_with fail
        refine (H2.out _).mono ?_
        rintro e w2 ⟨rfl, hf2⟩
        go_wp2_with fail
        go_ret
        exact ⟨rfl, ff4 hf1 hf2⟩
      · obtain ⟨m, hm⟩ : ∃ m, -n = m := ⟨_, rfl⟩
        have b1 : 0 ≤ m := by omega
        have b2 : m ≤ 180000 := by omega
        have H1 := Lib.hid (fun w => r16two_any (m / 3600) (a / 3600) (by omega) (by omega) w)
        have H2 := Lib.hid (fun w => r16two_any (m / 60 % 60) (a / 60 % 60) (by omega) (by omega) w)
        have H3 := Lib.hid (fun w => r16two_any (m % 60) (a % 60) (by omega) (by omega) w)
        have hD := digD_neg hneg
        rw [ha, digN_2 hq hs] at hD
        rw [hD]
        have t1 : (m % 3600 != 0) = true := by rw [bne_iff_ne]; omega
        have t2 : (m % 60 != 0) = true := by rw [bne_iff_ne]; omega
        have t3 : (m % 3600 == 0) = false := by rw [beq_eq_false_iff_ne]; omega
        have t4 : (m % 60 == 0) = false := by rw [beq_eq_false_iff_ne]; omega
        have x1 := l1 (a / 3600)
        have x2 := l1 (a / 60 % 60)
        have x3 := l1 (a % 60)
        clear hD hq l1 hs
        generalize Go.Clk.twoL (a / 3600) = T1 at *
        generalize Go.Clk.twoL (a / 60 % 60) = T2 at *
        generalize Go.Clk.twoL (a % 60) = T3 at *
        have a1 := fun w => S6.run_add_str (P := Tryz.prog) w [45] T1 (by simp; omega)
        have a2 := fun w => S6.run_add_str (P := Tryz.prog) w (45 :: T1) T2 (by simp; omega)
        have a3 := fun w => S6.run_add_str (P := Tryz.prog) w (45 :: (T1 ++ T2)) T3 (by simp; omega)
        simp only [List.cons_append, List.nil_append, List.append_assoc] at a1 a2 a3 ⊢
        have HM := Lib.hid hm
        clear h1 h2 ha x1 x2 x3
        go_enter Tryz.func49, Tryz.ntmps49
        go_wp2_with fail
        refine (H1.out _).mono ?_
        rintro e w1 ⟨rfl, hf1⟩
        go_wp2_with fail
        refine (H2.out _).mono ?_
        rintro e w2 ⟨rfl, hf2⟩
        go_wp2_with fail
        refine (H3.out _).mono ?_
        rintro e w3 ⟨rfl, hf3⟩
        go_wp2_with fail
        go_ret
        exact ⟨rfl, ff4 hf1 (ff4 hf2 hf3)⟩
  · by_cases hq : a % 3600 = 0
    · obtain ⟨m, hm⟩ : ∃ m, n = m := ⟨_, rfl⟩
      rw [hm] at h1 h2 hneg ha ⊢
      clear hm
      have b1 : 0 ≤ m := by omega
      have b2 : m ≤ 180000 := by omega
      have H1 := Lib.hid (fun w => r16two_any (m / 3600) (a / 3600) (by omega) (by omega) w)
      have hD := digD_pos hneg
      rw [ha, digN_0 hq] at hD
      rw [hD]
      have t1 : (m % 3600 != 0) = false := by rw [bne_eq_false_iff_eq]; omega
      have t2 : (m % 60 != 0) = false := by rw [bne_eq_false_iff_eq]; omega
      have t3 : (m % 3600 == 0) = true := by rw [beq_iff_eq]; omega
      have t4 : (m % 60 == 0) = true := by rw [beq_iff_eq]; omega
      have x1 := l1 (a / 3600)
      clear hD hq l1
      generalize Go.Clk.twoL (a / 3600) = T1 at *
      have a1 := fun w => S6.run_add_str (P := Tryz.prog) w [43] T1 (by simp; omega)
      simp only [List.cons_append, List.nil_append] at a1 ⊢
      clear h1 h2 ha x1
      go_enter Tryz.func49, Tryz.ntmps49
      go_wp2_with fail
      refine (H1.out _).mono ?_
      rintro e w1 ⟨rfl, hf1⟩
      go_wp2_with fail
      go_ret
      exact ⟨rfl, hf1⟩
    · by_cases hs : a % 60 = 0
      · obtain ⟨m, hm⟩ : ∃ m, n = m := ⟨_, rfl⟩
        rw [hm] at h1 h2 hneg ha ⊢
        clear hm
        have b1 : 0 ≤ m := by omega
        have b2 : m ≤ 180000 := by omega
        have H1 := Lib.hid (fun w => r16two_any (m / 3600) (a / 3600) (by omega) (by omega) w)
        have H2 := Lib.hid (fun w => r16two_any (m / 60 % 60) (a / 60 % 60) (by omega) (by omega) w)
        have hD := digD_pos hneg
        rw [ha, digN_1 hq hs] at hD
        rw [hD]
        have t1 : (m % 3600 != 0) = true := by rw [bne_iff_ne]; omega
        have t2 : (m % 60 != 0) = false := by rw [bne_eq_false_iff_eq]; omega
        have t3 : (m % 3600 == 0) = false := by rw [beq_eq_false_iff_ne]; omega
        have t4 : (m % 60 == 0) = true := by rw [beq_iff_eq]; omega
        have x1 := l1 (a / 3600)
        have x2 := l1 (a / 60 % 60)
        clear hD hq l1 hs
        generalize Go.Clk.twoL (a / 3600) = T1 at *
        generalize Go.Clk.twoL (a / 60 % 60) = T2 at *
        have a1 := fun w => S6.run_add_str (P := Tryz.prog) w [43] T1 (by simp; omega)
        have a2 := fun w => S6.run_add_str (P := Tryz.prog) w (43 :: T1) T2 (by simp; omega)
        simp only [List.cons_append, List.nil_append] at a1 a2 ⊢
        clear h1 h2 ha x1 x2
        go_enter Tryz.func49, Tryz.ntmps49
        go_wp2_with fail
        refine (H1.out _).mono ?_
        rintro e w1 ⟨rfl, hf1⟩
        go_wp2_with fail
        refine (H2.out _).mono ?_
        rintro e w2 ⟨rfl, hf2⟩
        go_wp2_with fail
        go_ret
        exact ⟨rfl, ff4 hf1 hf2⟩
      · obtain ⟨m, hm⟩ : ∃ m, n = m := ⟨_, rfl⟩
        rw [hm] at h1 h2 hneg ha ⊢
        clear hm
        have b1 : 0 ≤ m := by omega
        have b2 : m ≤ 180000 := by omega
        have H1 := Lib.hid (fun w => r16two_any (m / 3600) (a / 3600) (by omega) (by omega) w)
        have H2 := Lib.hid (fun w => r16two_any (m / 60 % 60) (a / 60 % 60) (by omega) (by omega) w)
        have H3 := Lib.hid (fun w => r16two_any (m % 60) (a % 60) (by omega) (by omega) w)
        have hD := digD_pos hneg
        rw [ha, digN_2 hq hs] at hD
        rw [hD]
        have t1 : (m % 3600 != 0) = true := by rw [bne_iff_ne]; omega
        have t2 : (m % 60 != 0) = true := by rw [bne_iff_ne]; omega
        have t3 : (m % 3600 == 0) = false := by rw [beq_eq_false_iff_ne]; omega
        have t4 : (m % 60 == 0) = false := by rw [beq_eq_false_iff_ne]; omega
        have x1 := l1 (a / 3600)
        have x2 := l1 (a / 60 % 60)
        have x3 := l1 (a % 60)
        clear hD hq l1 hs
        generalize Go.Clk.twoL (a / 3600) = T1 at *
        generalize Go.Clk.twoL (a / 60 % 60) = T2 at *
        generalize Go.Clk.twoL (a % 60) = T3 at *
        have a1 := fun w => S6.run_add_str (P := Tryz.prog) w [43] T1 (by simp; omega)
        have a2 := fun w => S6.run_add_str (P := Tryz.prog) w (43 :: T1) T2 (by simp; omega)
        have a3 := fun w => S6.run_add_str (P := Tryz.prog) w (43 :: (T1 ++ T2)) T3 (by simp; omega)
        simp only [List.cons_append, List.nil_append, List.append_assoc] at a1 a2 a3 ⊢
        clear h1 h2 ha x1 x2 x3
        go_enter Tryz.func49, Tryz.ntmps49
        go_wp2_with fail
        refine (H1.out _).mono ?_
        rintro e w1 ⟨rfl, hf1⟩
        go_wp2_with fail
        refine (H2.out _).mono ?_
        rintro e w2 ⟨rfl, hf2⟩
        go_wp2_with fail
        refine (H3.out _).mono ?_
        rintro e w3 ⟨rfl, hf3⟩
        go_wp2_with fail
        go_ret
        exact ⟨rfl, ff4 hf1 (ff4 hf2 hf3)⟩
end Go.Proofs.YtghcfmoagkimaaaGreatDoor
/- strings that are cut, as lists of bytes -/
namespace Go.Proofs.YtghcfmoagkimaaaGreatDoor
open Go.RowKit Go.Mem Go.Lin

theorem ext_lst (s : Bs) (a e : Nat) (_h : a ≤ e) : (⟨s.toArray⟩ : ByteArray).extract a e = ⟨((s.drop a).take (e - a)).toArray⟩ := by
  apply ByteArray.ext
  apply Array.toList_inj.1
  simp [List.extract]
theorem sl_mid {P : Program} (w : World) (t : TypeId) (ht : P.underlying t = some .string) (s l : Bs) (x y : Int) (a e : Nat) (hx : x = (a : Int)) (hy : y = (e : Int)) (hae : a ≤ e) (he : e ≤ s.length) (hl : (s.drop a).take (e - a) = l) :
    (Instr.slice t (strV s) (some (.int .i64 x)) (some (.int .i64 y)) none).run P w = .ok (strV l) w := by
  subst hx hy
  have hz : (⟨s.toArray⟩ : ByteArray).size = s.length := S6.str_size s
  show (Instr.slice t (.string ⟨s.toArray⟩) _ _ none).run P w = _
  rw [run_slice_string (P := P) w t _ .i64 .i64 (a : Int) (e : Int) ht (by omega) (by omega) (by omega)]
  simp only [Int.toNat_natCast]
  rw [ext_lst s a e hae, hl]
theorem sl_hi {P : Program} (w : World) (t : TypeId) (ht : P.underlying t = some .string) (s l : Bs) (y : Int) (e : Nat) (hy : y = (e : Int)) (he : e ≤ s.length) (hl : s.take e = l) :
    (Instr.slice t (strV s) none (some (.int .i64 y)) none).run P w = .ok (strV l) w := by
  subst hy
  have hz : (⟨s.toArray⟩ : ByteArray).size = s.length := S6.str_size s
  show (Instr.slice t (.string ⟨s.toArray⟩) none _ none).run P w = _
  rw [run_slice_string_h (P := P) w t _ ht .i64 (e : Int) (by omega) (by omega)]
  simp only [Int.toNat_natCast]
  rw [ext_lst s 0 e (Nat.zero_le _), ← hl]
  simp
theorem sl_lo {P : Program} (w : World) (t : TypeId) (ht : P.underlying t = some .string) (s l : Bs) (x : Int) (a : Nat) (hx : x = (a : Int)) (ha : a ≤ s.length) (hl : s.drop a = l) :
    (Instr.slice t (strV s) (some (.int .i64 x)) none none).run P w = .ok (strV l) w := by
  subst hx
  have hz : (⟨s.toArray⟩ : ByteArray).size = s.length := S6.str_size s
  show (Instr.slice t (.string ⟨s.toArray⟩) _ none none).run P w = _
  rw [run_slice_string_l (P := P) w t _ ht .i64 (a : Int) (by omega) (by omega)]
  simp only [Int.toNat_natCast]
  rw [hz, ext_lst s a s.length ha, ← hl, List.take_of_length_le (by simp)]
end Go.Proofs.YtghcfmoagkimaaaGreatDoor
namespace Go.Proofs.YtghcfmoagkimaaaGreatDoor
open Go.RowKit Go.Mem Go.Lin Go.Fmx

def findV : Option Nat → Int
  | some i => i
  | none => -1
set_option maxHeartbeats 1600000 in
theorem r16find_any (s t : Bs) (w : World) (hs : s.length ≤ 1000000) (ht : 1 ≤ t.length ∧ t.length ≤ 10) : Calls Tryz.prog 48 #[strV s, strV t] w fun e w' => e = .returned (intV (findV (findD s t))) ∧ w' = w := by
  go_enter Tryz.func48, Tryz.ntmps48
  go_wp2_with fail
  go_loopg [5] (s.length + 1) (fun g v5 wr => ∃ i : Nat, v5 = intV i ∧ i + g = s.length + 1 ∧ (∀ k, k < i → ¬ hereD s t k) ∧ wr = w)
  case atStart => exact ⟨0, rfl, by omega, fun k hk => by omega, rfl⟩
  case round =>
    obtain ⟨i, rfl, hg, hno, rfl⟩ := hrel
    have HNo := Lib.hid hno
    clear hno
    by_cases hlt : i + t.length ≤ s.length
    · obtain ⟨l, hl⟩ : ∃ l, (s.drop i).take t.length = l := ⟨_, rfl⟩
      have hS := fun w => sl_mid (P := Tryz.prog) w 9 Tryz.underlying9 s l (i : Int) ((i : Int) + (t.length : Int)) i (i + t.length) rfl (by omega) (by omega) hlt (by rw [← hl, Nat.add_sub_cancel_left])
      have HL := Lib.hid hl
      clear hl
      by_cases hq : l = t
      · have HH := Lib.hid (find_eq ⟨hlt, HL.out.trans hq⟩ HNo.out)
        have hb : (l == t) = true := by rw [beq_iff_eq]; exact hq
        clear hq
        go_wp2_with fail
        go_ret
        exact ⟨by rw [HH.out]; rfl, rfl⟩
      · have HN := Lib.hid (show ∀ k, k < i + 1 → ¬ hereD s t k from fun k hk => by
          by_cases e : k = i
          · subst e
            exact fun c => hq (HL.out.symm.trans c.2)
          · exact HNo.out k (by omega))
        have hb : (l == t) = false := by rw [beq_eq_false_iff_ne]; exact hq
        clear hq
        go_wp2_with fail
        clear hS
        go_roundg (s.length - i)
        case measure => omega
        case rel => exact ⟨i + 1, by go_num, by omega, HN.out, rfl⟩
    · have HH := Lib.hid (show findD s t = none from find_eq_none fun k c => by
        by_cases e : k < i
        · exact HNo.out k e c
        · have := c.1
          omega)
      have hlt : ¬ (i : Int) + (t.length : Int) ≤ (s.length : Int) := by omega
      go_wp2_with fail
      go_ret
      exact ⟨by rw [HH.out]; rfl, rfl⟩
end Go.Proofs.YtghcfmoagkimaaaGreatDoor
namespace Go.Proofs.YtghcfmoagkimaaaGreatDoor
open Go.RowKit Go.Mem Go.Lin Go.Fmx

theorem sl_idx {P : Program} (w : World) (t : TypeId) (ht : P.underlying t = some .string) (s : Bs) (i : Nat) (c : UInt8) (hc : s[i]? = some c) : (Instr.index t (strV s) (.int .i64 (i : Int))).run P w = .ok (.int .u8 (c.toNat : Int)) w := by
  obtain ⟨hi, e⟩ := List.getElem?_eq_some_iff.1 hc
  have hz : (⟨s.toArray⟩ : ByteArray).size = s.length := S6.str_size s
  have h0 : (0 : Int) ≤ (i : Int) := by omega
  have h1 : (i : Int) < ((⟨s.toArray⟩ : ByteArray).size : Int) := by omega
  have hg : (⟨s.toArray⟩ : ByteArray)[i]'(by omega) = c := e
  simp [go_sem, ht, h0, hz, hi, hg]
theorem plainN_yes {n : Nat} (h : 97 ≤ n ∧ n ≤ 122 ∨ 65 ≤ n ∧ n ≤ 90 ∨ 48 ≤ n ∧ n ≤ 57 ∨ n = 43 ∨ n = 45) : plainN n = true := decide_eq_true h
theorem plainN_no {n : Nat} (h : ¬ (97 ≤ n ∧ n ≤ 122 ∨ 65 ≤ n ∧ n ≤ 90 ∨ 48 ≤ n ∧ n ≤ 57 ∨ n = 43 ∨ n = 45)) : plainN n = false := decide_eq_false h
set_option maxHeartbeats 3200000 in
theorem r16Plain_any (s : Bs) (w : World) (hs : s.length ≤ 1000000) : Calls Tryz.prog 50 #[strV s] w fun e w' => e = .returned (.bool (plainB s)) ∧ w' = w := by
  by_cases hl : 3 ≤ s.length ∧ s.length ≤ 6
  · have HGd := Lib.hid (plain_good hl)
    go_enter Tryz.func50, Tryz.ntmps50
    obtain ⟨l1, l2⟩ := hl
    go_wp2_with fail
    go_loopg [3, 4] s.length (fun g v3 _ wr => ∃ i : Nat, v3 = intV i ∧ i + g = s.length ∧ (∀ (j : Nat) (c : UInt8), j < i → s[j]? = some c → plainN c.toNat = true) ∧ wr = w)
    case atStart => exact ⟨0, rfl, by omega, fun k c hk => by omega, rfl⟩
    case round =>
      obtain ⟨i, rfl, hg, hno, rfl⟩ := hrel
      have HNo := Lib.hid hno
      clear hno
      by_cases hlt : i < s.length
      · have i0 : (i : Int) < (s.length : Int) := by omega
        obtain ⟨c, hc⟩ : ∃ c, s[i]? = some c := ⟨s[i], List.getElem?_eq_getElem hlt⟩
        have HI := fun w => sl_idx (P := Tryz.prog) w 9 Tryz.underlying9 s i c hc
        have HBd := Lib.hid (plain_bad hc)
        have HSt := Lib.hid (fun (h : plainN c.toNat = true) (j : Nat) (x : UInt8) (hj : j < i + 1) (hx : s[j]? = some x) => (show plainN x.toNat = true by
          by_cases e : j = i
          · subst e
            rw [hc] at hx
            cases hx
            exact h
          · exact HNo.out j x (by omega) hx))
        have hn : c.toNat < 256 := c.toNat_lt
        obtain ⟨n, hnc⟩ : ∃ n, c.toNat = n := ⟨_, rfl⟩
        rw [hnc] at HI HBd HSt hn
        clear hc hnc
        have hseg : n < 43 ∨ n = 43 ∨ n = 44 ∨ n = 45 ∨ (46 ≤ n ∧ n < 48) ∨ (48 ≤ n ∧ n ≤ 57) ∨ (58 ≤ n ∧ n < 65) ∨ (65 ≤ n ∧ n ≤ 90) ∨ (91 ≤ n ∧ n < 97) ∨ (97 ≤ n ∧ n ≤ 122) ∨ 122 < n := by omega
        rcases hseg with h | h | h | h | h | h | h | h | h | h | h
        · have HR := Lib.hid (HBd.out (plainN_no (by omega)))
          have p0 : (n : Int) < 97 := by omega
          have d0 : decide (97 ≤ (n : Int)) = false := decide_eq_false (by omega)
          have p1 : (n : Int) ≤ 122 := by omega
          have d1 : decide ((n : Int) ≤ 122) = true := decide_eq_true (by omega)
          have p2 : (n : Int) < 65 := by omega
          have d2 : decide (65 ≤ (n : Int)) = false := decide_eq_false (by omega)
          have p3 : (n : Int) ≤ 90 := by omega
          have d3 : decide ((n : Int) ≤ 90) = true := decide_eq_true (by omega)
          have p4 : (n : Int) < 48 := by omega
          have d4 : decide (48 ≤ (n : Int)) = false := decide_eq_false (by omega)
          have p5 : (n : Int) ≤ 57 := by omega
          have d5 : decide ((n : Int) ≤ 57) = true := decide_eq_true (by omega)
          have q43 : ((n : Int) == 43) = false := by rw [beq_eq_false_iff_ne]; omega
          have q45 : ((n : Int) == 45) = false := by rw [beq_eq_false_iff_ne]; omega
          clear h
          go_wp2_with fail
          go_ret
          exact ⟨by rw [HR.out]; rfl, rfl⟩
        · have HN := Lib.hid (HSt.out (plainN_yes (by omega)))
          have p0 : (n : Int) < 97 := by omega
          have d0 : decide (97 ≤ (n : Int)) = false := decide_eq_false (by omega)
          have p1 : (n : Int) ≤ 122 := by omega
          have d1 : decide ((n : Int) ≤ 122) = true := decide_eq_true (by omega)
          have p2 : (n : Int) < 65 := by omega
          have d2 : decide (65 ≤ (n : Int)) = false := decide_eq_false (by omega)
          have p3 : (n : Int) ≤ 90 := by omega
          have d3 : decide ((n : Int) ≤ 90) = true := decide_eq_true (by omega)
          have p4 : (n : Int) < 48 := by omega
          have d4 : decide (48 ≤ (n : Int)) = false := decide_eq_false (by omega)
          have p5 : (n : Int) ≤ 57 := by omega
          have d5 : decide ((n : Int) ≤ 57) = true := decide_eq_true (by omega)
          have q43 : ((n : Int) == 43) = true := by rw [beq_iff_eq]; omega
          have q45 : ((n : Int) == 45) = false := by rw [beq_eq_false_iff_ne]; omega
          clear h
          go_wp2_with fail
          clear HI
          go_roundg (s.length - (i + 1))
          case measure => omega
          case rel => exact ⟨i + 1, by go_num, by omega, HN.out, rfl⟩
        · have HR := Lib.hid (HBd.out (plainN_no (by omega)))
          have p0 : (n : Int) < 97 := by omega
          have d0 : decide (97 ≤ (n : Int)) = false := decide_eq_false (by omega)
          have p1 : (n : Int) ≤ 122 := by omega
          have d1 : decide ((n : Int) ≤ 122) = true := decide_eq_true (by omega)
          have p2 : (n : Int) < 65 := by omega
          have d2 : decide (65 ≤ (n : Int)) = false := decide_eq_false (by omega)
          have p3 : (n : Int) ≤ 90 := by omega
          have d3 : decide ((n : Int) ≤ 90) = true := decide_eq_true (by omega)
          have p4 : (n : Int) < 48 := by omega
          have d4 : decide (48 ≤ (n : Int)) = false := decide_eq_false (by omega)
          have p5 : (n : Int) ≤ 57 := by omega
          have d5 : decide ((n : Int) ≤ 57) = true := decide_eq_true (by omega)
          have q43 : ((n : Int) == 43) = false := by rw [beq_eq_false_iff_ne]; omega
          have q45 : ((n : Int) == 45) = false := by rw [beq_eq_false_iff_ne]; omega
          clear h
          go_wp2_with fail
          go_ret
          exact ⟨by rw [HR.out]; rfl, rfl⟩
        · have HN := Lib.hid (HSt.out (plainN_yes (by omega)))
          have p0 : (n : Int) < 97 := by omega
          have d0 : decide (97 ≤ (n : Int)) = false := decide_eq_false (by omega)
          have p1 : (n : Int) ≤ 122 := by omega
          have d1 : decide ((n : Int) ≤ 122) = true := decide_eq_true (by omega)
          have p2 : (n : Int) < 65 := by omega
          have d2 : decide (65 ≤ (n : Int)) = false := decide_eq_false (by omega)
          have p3 : (n : Int) ≤ 90 := by omega
          have d3 : decide ((n : Int) ≤ 90) = true := decide_eq_true (by omega)
          have p4 : (n : Int) < 48 := by omega
          have d4 : decide (48 ≤ (n : Int)) = false := decide_eq_false (by omega)
          have p5 : (n : Int) ≤ 57 := by omega
          have d5 : decide ((n : Int) ≤ 57) = true := decide_eq_true (by omega)
          have q43 : ((n : Int) == 43) = false := by rw [beq_eq_false_iff_ne]; omega
          have q45 : ((n : Int) == 45) = true := by rw [beq_iff_eq]; omega
          clear h
          go_wp2_with fail
          clear HI
          go_roundg (s.length - (i + 1))
          case measure => omega
          case rel => exact ⟨i + 1, by go_num, by omega, HN.out, rfl⟩
        · have HR := Lib.hid (HBd.out (plainN_no (by omega)))
          have p0 : (n : Int) < 97 := by omega
          have d0 : decide (97 ≤ (n : Int)) = false := decide_eq_false (by omega)
          have p1 : (n : Int) ≤ 122 := by omega
          have d1 : decide ((n : Int) ≤ 122) = true := decide_eq_true (by omega)
          have p2 : (n : Int) < 65 := by omega
          have d2 : decide (65 ≤ (n : Int)) = false := decide_eq_false (by omega)
          have p3 : (n : Int) ≤ 90 := by omega
          have d3 : decide ((n : Int) ≤ 90) = true := decide_eq_true (by omega)
          have p4 : (n : Int) < 48 := by omega
          have d4 : decide (48 ≤ (n : Int)) = false := decide_eq_false (by omega)
          have p5 : (n : Int) ≤ 57 := by omega
          have d5 : decide ((n : Int) ≤ 57) = true := decide_eq_true (by omega)
          have q43 : ((n : Int) == 43) = false := by rw [beq_eq_false_iff_ne]; omega
          have q45 : ((n : Int) == 45) = false := by rw [beq_eq_false_iff_ne]; omega
          clear h
          go_wp2_with fail
          go_ret
          exact ⟨by rw [HR.out]; rfl, rfl⟩
        · have HN := Lib.hid (HSt.out (plainN_yes (by omega)))
          have p0 : (n : Int) < 97 := by omega
          have d0 : decide (97 ≤ (n : Int)) = false := decide_eq_false (by omega)
          have p1 : (n : Int) ≤ 122 := by omega
          have d1 : decide ((n : Int) ≤ 122) = true := decide_eq_true (by omega)
          have p2 : (n : Int) < 65 := by omega
          have d2 : decide (65 ≤ (n : Int)) = false := decide_eq_false (by omega)
          have p3 : (n : Int) ≤ 90 := by omega
          have d3 : decide ((n : Int) ≤ 90) = true := decide_eq_true (by omega)
          have p4 : 48 ≤ (n : Int) := by omega
          have d4 : decide (48 ≤ (n : Int)) = true := decide_eq_true (by omega)
          have p5 : (n : Int) ≤ 57 := by omega
          have d5 : decide ((n : Int) ≤ 57) = true := decide_eq_true (by omega)
          have q43 : ((n : Int) == 43) = false := by rw [beq_eq_false_iff_ne]; omega
          have q45 : ((n : Int) == 45) = false := by rw [beq_eq_false_iff_ne]; omega
          clear h
          go_wp2_with fail
          clear HI
          go_roundg (s.length - (i + 1))
          case measure => omega
          case rel => exact ⟨i + 1, by go_num, by omega, HN.out, rfl⟩
        · have HR := Lib.hid (HBd.out (plainN_no (by omega)))
          have p0 : (n : Int) < 97 := by omega
          have d0 : decide (97 ≤ (n : Int)) = false := decide_eq_false (by omega)
          have p1 : (n : Int) ≤ 122 := by omega
          have d1 : decide ((n : Int) ≤ 122) = true := decide_eq_true (by omega)
          have p2 : (n : Int) < 65 := by omega
          have d2 : decide (65 ≤ (n : Int)) = false := decide_eq_false (by omega)
          have p3 : (n : Int) ≤ 90 := by omega
          have d3 : decide ((n : Int) ≤ 90) = true := decide_eq_true (by omega)
          have p4 : 48 ≤ (n : Int) := by omega
          have d4 : decide (48 ≤ (n : Int)) = true := decide_eq_true (by omega)
          have p5 : 57 < (n : Int) := by omega
          have d5 : decide ((n : Int) ≤ 57) = false := decide_eq_false (by omega)
          have q43 : ((n : Int) == 43) = false := by rw [beq_eq_false_iff_ne]; omega
          have q45 : ((n : Int) == 45) = false := by rw [beq_eq_false_iff_ne]; omega
          clear h
          go_wp2_with fail
          go_ret
          exact ⟨by rw [HR.out]; rfl, rfl⟩
        · have HN := Lib.hid (HSt.out (plainN_yes (by omega)))
          have p0 : (n : Int) < 97 := by omega
          have d0 : decide (97 ≤ (n : Int)) = false := decide_eq_false (by omega)
          have p1 : (n : Int) ≤ 122 := by omega
          have d1 : decide ((n : Int) ≤ 122) = true := decide_eq_true (by omega)
          have p2 : 65 ≤ (n : Int) := by omega
          have d2 : decide (65 ≤ (n : Int)) = true := decide_eq_true (by omega)
          have p3 : (n : Int) ≤ 90 := by omega
          have d3 : decide ((n : Int) ≤ 90) = true := decide_eq_true (by omega)
          have p4 : 48 ≤ (n : Int) := by omega
          have d4 : decide (48 ≤ (n : Int)) = true := decide_eq_true (by omega)
          have p5 : 57 < (n : Int) := by omega
          have d5 : decide ((n : Int) ≤ 57) = false := decide_eq_false (by omega)
          have q43 : ((n : Int) == 43) = false := by rw [beq_eq_false_iff_ne]; omega
          have q45 : ((n : Int) == 45) = false := by rw [beq_eq_false_iff_ne]; omega
          clear h
          go_wp2_with fail
          clear HI
          go_roundg (s.length - (i + 1))
          case measure => omega
          case rel => exact ⟨i + 1, by go_num, by omega, HN.out, rfl⟩
        · have HR := Lib.hid (HBd.out (plainN_no (by omega)))
          have p0 : (n : Int) < 97 := by omega
          have d0 : decide (97 ≤ (n : Int)) = false := decide_eq_false (by omega)
          have p1 : (n : Int) ≤ 122 := by omega
          have d1 : decide ((n : Int) ≤ 122) = true := decide_eq_true (by omega)
          have p2 : 65 ≤ (n : Int) := by omega
          have d2 : decide (65 ≤ (n : Int)) = true := decide_eq_true (by omega)
          have p3 : 90 < (n : Int) := by omega
          have d3 : decide ((n : Int) ≤ 90) = false := decide_eq_false (by omega)
          have p4 : 48 ≤ (n : Int) := by omega
          have d4 : decide (48 ≤ (n : Int)) = true := decide_eq_true (by omega)
          have p5 : 57 < (n : Int) := by omega
          have d5 : decide ((n : Int) ≤ 57) = false := decide_eq_false (by omega)
          have q43 : ((n : Int) == 43) = false := by rw [beq_eq_false_iff_ne]; omega
          have q45 : ((n : Int) == 45) = false := by rw [beq_eq_false_iff_ne]; omega
          clear h
          go_wp2_with fail
          go_ret
          exact ⟨by rw [HR.out]; rfl, rfl⟩
        · have HN := Lib.hid (HSt.out (plainN_yes (by omega)))
          have p0 : 97 ≤ (n : Int) := by omega
          have d0 : decide (97 ≤ (n : Int)) = true := decide_eq_true (by omega)
          have p1 : (n : Int) ≤ 122 := by omega
          have d1 : decide ((n : Int) ≤ 122) = true := decide_eq_true (by omega)
          have p2 : 65 ≤ (n : Int) := by omega
          have d2 : decide (65 ≤ (n : Int)) = true := decide_eq_true (by omega)
          have p3 : 90 < (n : Int) := by omega
          have d3 : decide ((n : Int) ≤ 90) = false := decide_eq_false (by omega)
          have p4 : 48 ≤ (n : Int) := by omega
          have d4 : decide (48 ≤ (n : Int)) = true := decide_eq_true (by omega)
          have p5 : 57 < (n : Int) := by omega
          have d5 : decide ((n : Int) ≤ 57) = false := decide_eq_false (by omega)
          have q43 : ((n : Int) == 43) = false := by rw [beq_eq_false_iff_ne]; omega
          have q45 : ((n : Int) == 45) = false := by rw [beq_eq_false_iff_ne]; omega
          clear h
          go_wp2_with fail
          clear HI
          go_roundg (s.length - (i + 1))
          case measure => omega
          case rel => exact ⟨i + 1, by go_num, by omega, HN.out, rfl⟩
        · have HR := Lib.hid (HBd.out (plainN_no (by omega)))
          have p0 : 97 ≤ (n : Int) := by omega
          have d0 : decide (97 ≤ (n : Int)) = true := decide_eq_true (by omega)
          have p1 : 122 < (n : Int) := by omega
          have d1 : decide ((n : Int) ≤ 122) = false := decide_eq_false (by omega)
          have p2 : 65 ≤ (n : Int) := by omega
          have d2 : decide (65 ≤ (n : Int)) = true := decide_eq_true (by omega)
          have p3 : 90 < (n : Int) := by omega
          have d3 : decide ((n : Int) ≤ 90) = false := decide_eq_false (by omega)
          have p4 : 48 ≤ (n : Int) := by omega
          have d4 : decide (48 ≤ (n : Int)) = true := decide_eq_true (by omega)
          have p5 : 57 < (n : Int) := by omega
          have d5 : decide ((n : Int) ≤ 57) = false := decide_eq_false (by omega)
          have q43 : ((n : Int) == 43) = false := by rw [beq_eq_false_iff_ne]; omega
          have q45 : ((n : Int) == 45) = false := by rw [beq_eq_false_iff_ne]; omega
          clear h
          go_wp2_with fail
          go_ret
          exact ⟨by rw [HR.out]; rfl, rfl⟩
      · have HR := Lib.hid (HGd.out (fun j c hj hc => HNo.out j c (by omega) hc))
        have i0 : ¬ (i : Int) < (s.length : Int) := by omega
        go_wp2_with fail
        go_ret
        exact ⟨by rw [HR.out]; rfl, rfl⟩
  · have HR := Lib.hid (plain_len hl)
    by_cases h3 : s.length < 3
    · have h3 : (s.length : Int) < 3 := by omega
      clear hl
      go_enter Tryz.func50, Tryz.ntmps50
      go_wp2_with fail
      go_ret
      exact ⟨by rw [HR.out]; rfl, rfl⟩
    · have h3 : 3 ≤ (s.length : Int) := by omega
      have h6 : 6 < (s.length : Int) := by omega
      clear hl
      go_enter Tryz.func50, Tryz.ntmps50
      go_wp2_with fail
      go_ret
      exact ⟨by rw [HR.out]; rfl, rfl⟩
end Go.Proofs.YtghcfmoagkimaaaGreatDoor
