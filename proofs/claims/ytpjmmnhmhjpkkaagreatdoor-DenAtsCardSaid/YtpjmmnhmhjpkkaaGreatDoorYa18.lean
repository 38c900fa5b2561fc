import Derived.Test.YtpjmmnhmhjpkkaaGreatDoorYa17
import Derived.Test.YtpjmmnhmhjpkkaaGreatDoorYa15
namespace Go.Proofs.YtpjmmnhmhjpkkaaGreatDoor
open Go.RowKit Go.Mem Go.Lin Go.Xpd Go.Den

/-- what is known of a zone that comes in -/
structure ZnR (v : ZnV) : Prop where
  z : ∀ x ∈ v.Z, x.l.length ≤ maxLen ∧ ∀ r ∈ x.l, RuR r
  e : ∀ e ∈ v.eras, EraR e
  ne : v.eras.length ≤ maxLen
  nz : v.Z.length ≤ maxLen
set_option maxHeartbeats 6400000 in
set_option maxRecDepth 100000 in
theorem zLight_any (v : ZnV) (w : World) (hv : ZnAt w v) (hR : ZnR v) : Calls Tryz.prog 4 #[.agg (zoneC v)] w fun e w' => e = .returned (.bool (decide (LightZ v))) ∧ Fr w w' (fun _ => False) := by
  have HF1 := Lib.hid (Fr.new w (.cells (zoneC v) 25) (fun _ => False))
  have HB1 := Lib.hid (Blk.made w 25 (zoneC v))
  have c0 : (w.alloc (.cells (zoneC v) 25)).cell? ⟨w.heap.size, 0, none⟩ = some (.slice v.Ae v.eras.length v.ce) := blkc HB1.out 0 _ rfl
  have c1 : (w.alloc (.cells (zoneC v) 25)).cell? ⟨w.heap.size, 1, none⟩ = some (.slice v.Ar v.Z.length v.cr) := blkc HB1.out 1 _ rfl
  have HV := Lib.hid (hv.kept HF1.out)
  have HRz := Lib.hid hR
  have hne := hR.ne
  have hnz := hR.nz
  clear hv hR
  have h3 : 10 < v.eras.length ∨ (v.eras.length ≤ 10 ∧ 10 < v.Z.length) ∨ (v.eras.length ≤ 10 ∧ v.Z.length ≤ 10) := by omega
  rcases h3 with q | ⟨q, q2⟩ | ⟨q, q2⟩
  · have HN := Lib.hid (show ¬ LightZ v from fun h => by have := h.1; omega)
    have q : (10 : Int) < (v.eras.length : Int) := by omega
    go_enter Tryz.func4, Tryz.ntmps4
    go_wp2_with fail
    go_ret
    exact ⟨by rw [decide_eq_false HN.out]; rfl, HF1.out⟩
  · have HN := Lib.hid (show ¬ LightZ v from fun h => by have := h.2.1; omega)
    have q : (v.eras.length : Int) ≤ 10 := by omega
    have q2 : (10 : Int) < (v.Z.length : Int) := by omega
    go_enter Tryz.func4, Tryz.ntmps4
    go_wp2_with fail
    go_ret
    exact ⟨by rw [decide_eq_false HN.out]; rfl, HF1.out⟩
  · have HQ := Lib.hid (And.intro q q2)
    have q : (v.eras.length : Int) ≤ 10 := by omega
    have q2 : (v.Z.length : Int) ≤ 10 := by omega
    have q3 : decide ((10 : Int) < (v.eras.length : Int)) = false := decide_eq_false (by omega)
    have q4 : decide ((10 : Int) < (v.Z.length : Int)) = false := decide_eq_false (by omega)
    go_enter Tryz.func4, Tryz.ntmps4
    go_wp2_with fail
    clear q q2 q3 q4
    generalize w.alloc (.cells (zoneC v) 25) = W1 at *
    have HC0 := Lib.hid c0
    have HC1 := Lib.hid c1
    clear c0 c1
    go_loopg [3] v.Z.length (fun g v3 wr => ∃ i : Nat, v3 = intV i ∧ i + g = v.Z.length ∧ (∀ j x, j < i → v.Z[j]? = some x → LightP x.l 6) ∧ Fr W1 wr (fun _ => False))
    case atStart => exact ⟨0, rfl, by simp, (fun j x hj => absurd hj (Nat.not_lt_zero j)), Fr.refl _ _⟩
    case round =>
      obtain ⟨i, rfl, hig, hok, hf⟩ := hrel
      have HF := Lib.hid hf
      have HOk := Lib.hid hok
      have g1 : wr.cell? ⟨w.heap.size, 1, none⟩ = some (.slice v.Ar v.Z.length v.cr) := cell_far hf HC1.out (fun h => h)
      by_cases hlt : i < v.Z.length
      · obtain ⟨x, hx⟩ : ∃ x, v.Z[i]? = some x := ⟨v.Z[i], List.getElem?_eq_getElem hlt⟩
        obtain ⟨b5, o5, hA5, hc5, hr5⟩ := (HV.out.kept hf).r.at_ hx
        rw [hA5] at g1
        clear hA5
        have z0 : (i : Int) < (v.Z.length : Int) := by omega
        obtain ⟨r1, r2⟩ := HRz.out.z x (List.mem_of_getElem? hx)
        have HL := Lib.hid (Light_any x.l x.A x.c 6 wr hr5 (by decide) r1 r2)
        have HX := Lib.hid hx
        clear hr5 hok hf hx r1 r2
        by_cases hP : LightP x.l 6
        · rw [decide_eq_true hP] at HL
          have HSt := Lib.hid (show ∀ j y, j < i + 1 → v.Z[j]? = some y → LightP y.l 6 from fun j y hj hy => by
            by_cases c : j = i
            · subst c; rw [HX.out] at hy; cases hy; exact hP
            · exact HOk.out j y (by omega) hy)
          clear hP
          go_wp2_with fail
          refine HL.out.mono ?_
          rintro e w2 ⟨rfl, hf2⟩
          have HF2 := Lib.hid (ff4 HF.out hf2)
          clear hf2
          go_wp2_with fail
          go_roundg (v.Z.length - (i + 1))
          case measure => omega
          case rel => exact ⟨i + 1, by go_num, by omega, HSt.out, HF2.out⟩
        · rw [decide_eq_false hP] at HL
          have HN := Lib.hid (show ¬ LightZ v from fun h => hP (h.2.2.1 x (List.mem_of_getElem? HX.out)))
          clear hP
          go_wp2_with fail
          refine HL.out.mono ?_
          rintro e w2 ⟨rfl, hf2⟩
          have HF2 := Lib.hid (ff4 HF1.out (ff4 HF.out hf2))
          clear hf2
          go_wp2_with fail
          go_ret
          exact ⟨by rw [decide_eq_false HN.out]; rfl, HF2.out⟩
      · obtain rfl : i = v.Z.length := by omega
        have HZa := Lib.hid (show ∀ x ∈ v.Z, LightP x.l 6 from fun x hx => by
          obtain ⟨k, hk⟩ := List.mem_iff_getElem?.1 hx
          exact hok k x (List.getElem?_eq_some_iff.1 hk).1 hk)
        clear hok hf
        go_wp2_with fail
        go_loopg [4, 5] v.eras.length (fun g v4 _ wr => ∃ i : Nat, v4 = intV i ∧ i + g = v.eras.length ∧ (∀ j e, j < i → v.eras[j]? = some e → OkE e) ∧ Fr W1 wr (fun _ => False))
        case atStart => exact ⟨0, rfl, by simp, (fun j e hj => absurd hj (Nat.not_lt_zero j)), HF.out⟩
        case round =>
          obtain ⟨i, rfl, hig, hok, hf⟩ := hrel
          have HFe := Lib.hid hf
          have HOk := Lib.hid hok
          have g0 : wr.cell? ⟨w.heap.size, 0, none⟩ = some (.slice v.Ae v.eras.length v.ce) := cell_far hf HC0.out (fun h => h)
          by_cases hlt : i < v.eras.length
          · obtain ⟨e, he⟩ : ∃ e, v.eras[i]? = some e := ⟨v.eras[i], List.getElem?_eq_getElem hlt⟩
            obtain ⟨b, off, hA, hc⟩ := (HV.out.kept hf).e.at_ he
            rw [hA] at g0
            clear hA
            have i0 : (i : Int) < (v.eras.length : Int) := by omega
            have HCx := Lib.hid hc
            have HE := Lib.hid he
            have her := HRz.out.e e (List.mem_of_getElem? he)
            have hr1 := her.rules
            have hr2 := her.format
            have n2 := Fr.new wr (.cells (eraC eraZ) 48) (fun _ => False)
            have HF2 := Lib.hid n2
            have HBz := Lib.hid (Blk.made wr 48 (eraC eraZ))
            have hz1 := S6.str_size e.rules
            have hz2 := S6.str_size e.format
            clear hc hok hf n2 he
            by_cases hP : OkE e
            · have HSt := Lib.hid (show ∀ j y, j < i + 1 → v.eras[j]? = some y → OkE y from fun j y hj hy => by
                by_cases c : j = i
                · subst c; rw [HE.out] at hy; cases hy; exact hP
                · exact HOk.out j y (by omega) hy)
              obtain ⟨k1, k2, k3, k4, k5, k6, k7, k8⟩ := hP
              have k7 : (e.rules.length : Int) ≤ 100 := by omega
              have k8 : (e.format.length : Int) ≤ 100 := by omega
              go_wp2_with (first
                | ((with_reducible refine at_load4 48 ?_); refine wpList_load_at 48 _ b (off + i * 13) (eraC e) _ (by rfl) rfl rfl HCx.out Tryz.underlying48 rfl (infoE _) ?_)
                | ((with_reducible refine at_store4 48 ?_); refine wpList_store_blk 48 _ _ wr.heap.size 0 48 (eraC eraZ) (eraC e) (eraC e) (by rfl) rfl rfl rfl rfl HBz.out (infoE _) (eraC_one _) (show 0 + 13 ≤ 13 by decide) (put_er _ _) ?_
                   intro W4 hf4 hb4
                   have HF4 := Lib.hid (ff4 HFe.out (HF2.out.fresh hf4 (fun i e => by have e : i = wr.heap.size := e; omega)))
                   have d0 : W4.cell? ⟨wr.heap.size, 0, none⟩ = some (.int .i64 e.off) := blkc hb4 0 _ rfl
                   have d2 : W4.cell? ⟨wr.heap.size, 2, none⟩ = some (.int .i64 e.save) := blkc hb4 2 _ rfl
                   have d3 : W4.cell? ⟨wr.heap.size, 3, none⟩ = some (strV e.rules) := blkc hb4 3 _ rfl
                   have d4 : W4.cell? ⟨wr.heap.size, 4, none⟩ = some (strV e.format) := blkc hb4 4 _ rfl
                   have d11 : W4.cell? ⟨wr.heap.size, 11, none⟩ = some (.int .i64 e.til.at_.s) := blkc hb4 11 _ rfl
                   clear hf4 hb4 HF2 HBz))
              go_roundg (v.eras.length - (i + 1))
              case measure => omega
              case rel => exact ⟨i + 1, by go_num, by omega, HSt.out, HF4.out⟩
            · have HN := Lib.hid (show ¬ LightZ v from fun h => hP (h.2.2.2 e (List.mem_of_getElem? HE.out)))
              have h9 : e.off < -100000 ∨ (-100000 ≤ e.off ∧ 100000 < e.off) ∨ (-100000 ≤ e.off ∧ e.off ≤ 100000 ∧ e.save < -100000) ∨ (-100000 ≤ e.off ∧ e.off ≤ 100000 ∧ -100000 ≤ e.save ∧ 100000 < e.save) ∨
                  (-100000 ≤ e.off ∧ e.off ≤ 100000 ∧ -100000 ≤ e.save ∧ e.save ≤ 100000 ∧ (e.til.at_.s < -700000 ∨ (-700000 ≤ e.til.at_.s ∧ (700000 < e.til.at_.s ∨ (e.til.at_.s ≤ 700000 ∧ (100 < (e.rules.length : Int) ∨ ((e.rules.length : Int) ≤ 100 ∧ 100 < (e.format.length : Int)))))))) := by
                unfold OkE at hP; omega
              clear hP
              rcases h9 with k1 | ⟨k1, k2⟩ | ⟨k1, k2, k3⟩ | ⟨k1, k2, k3, k4⟩ | ⟨k1, k2, k3, k4, k5 | ⟨k5, k6 | ⟨k6, k7 | ⟨k7, k8⟩⟩⟩⟩
              all_goals
                go_wp2_with (first
                  | ((with_reducible refine at_load4 48 ?_); refine wpList_load_at 48 _ b (off + i * 13) (eraC e) _ (by rfl) rfl rfl HCx.out Tryz.underlying48 rfl (infoE _) ?_)
                  | ((with_reducible refine at_store4 48 ?_); refine wpList_store_blk 48 _ _ wr.heap.size 0 48 (eraC eraZ) (eraC e) (eraC e) (by rfl) rfl rfl rfl rfl HBz.out (infoE _) (eraC_one _) (show 0 + 13 ≤ 13 by decide) (put_er _ _) ?_
                     intro W4 hf4 hb4
                     have HF4 := Lib.hid (ff4 HFe.out (HF2.out.fresh hf4 (fun i e => by have e : i = wr.heap.size := e; omega)))
                     have d0 : W4.cell? ⟨wr.heap.size, 0, none⟩ = some (.int .i64 e.off) := blkc hb4 0 _ rfl
                     have d2 : W4.cell? ⟨wr.heap.size, 2, none⟩ = some (.int .i64 e.save) := blkc hb4 2 _ rfl
                     have d3 : W4.cell? ⟨wr.heap.size, 3, none⟩ = some (strV e.rules) := blkc hb4 3 _ rfl
                     have d4 : W4.cell? ⟨wr.heap.size, 4, none⟩ = some (strV e.format) := blkc hb4 4 _ rfl
                     have d11 : W4.cell? ⟨wr.heap.size, 11, none⟩ = some (.int .i64 e.til.at_.s) := blkc hb4 11 _ rfl
                     clear hf4 hb4 HF2 HBz))
                go_ret
                exact ⟨by rw [decide_eq_false HN.out]; rfl, ff4 HF1.out HF4.out⟩
          · obtain rfl : i = v.eras.length := by omega
            have HY := Lib.hid (show LightZ v from ⟨HQ.out.1, HQ.out.2, HZa.out, fun e he => by
              obtain ⟨k, hk⟩ := List.mem_iff_getElem?.1 he
              exact hok k e (List.getElem?_eq_some_iff.1 hk).1 hk⟩)
            clear hok hf
            go_wp2_with fail
            go_ret
            exact ⟨by rw [decide_eq_true HY.out]; rfl, ff4 HF1.out HFe.out⟩
end Go.Proofs.YtpjmmnhmhjpkkaaGreatDoor
namespace Go.Proofs.YtpjmmnhmhjpkkaaGreatDoor
open Go.RowKit Go.Mem Go.Lin Go.WideShapes Go.Xpd Go.Den

theorem cells_eras : Tryz.prog.cellsOf 22 = 1 := by kernel_rfl
theorem cells_russ : Tryz.prog.cellsOf 23 = 1 := by kernel_rfl
theorem cells_zn : Tryz.prog.cellsOf 25 = 2 := by kernel_rfl
theorem array2 {α : Type} {cs : Array α} (h : cs.size = 2) : ∃ c0 c1, cs = #[c0, c1] := by
  obtain ⟨l⟩ := cs
  match l, h with
  | [c0, c1], _ => exact ⟨c0, c1, rfl⟩
section
variable {H : Type} {enc : TypeId × Value → H} {w : World} {base : Nat} {spare : Nat → Bool} {held : Bool}
set_option maxRecDepth 100000 in
/-- a zone that came in -/
theorem open_zn {r : Reach} {b0 : Nat} {v : Value} {d : DataW H} {p : List MemPlace} (hv : Value.okWide Tryz.prog w r b0 25 v) (h : DataW.Trod enc Tryz.prog w base spare held 25 v d p) :
    ∃ x : ZnV, v = .agg (zoneC x) ∧ ZnAt w x ∧ ZnR x := by
  obtain ⟨cs, rfl, hsz⟩ := okWide_struct Tryz.underlying25 hv
  obtain ⟨c0, c1, rfl⟩ := array2 (hsz.trans cells_zn)
  obtain ⟨fuel, hf⟩ := h
  have hf : DataW.trod enc Tryz.prog w base spare held fuel 25 [c0, c1] = some (d, p) := by simpa [Value.cells] using hf
  obtain ⟨xs, m, -, -, -, hlen, hf⟩ := DataW.trod_struct Tryz.underlying25 hf
  obtain ⟨y0, g0⟩ := fld hlen hf 0 _ rfl
  simp only [List.getElem_toArray, List.getElem_cons_zero, cells_eras, List.drop_zero, List.take_succ_cons, List.take_zero] at g0
  obtain ⟨y1, g1⟩ := fld hlen hf 1 _ rfl
  simp only [List.getElem_toArray, List.getElem_cons_zero, List.getElem_cons_succ, cells_russ, List.drop_succ_cons, List.drop_zero, List.take_succ_cons, List.take_zero] at g1
  have e0 : ∃ a n c, c0 = .slice a n c := by
    rcases Go.Deep.open_slice Tryz.underlying22 g0 with ⟨hcs, -⟩ | ⟨ad', l', c', m', n', D', Pl', hcs, -⟩
    · simp at hcs; exact ⟨_, _, _, hcs⟩
    · simp at hcs; exact ⟨_, _, _, hcs⟩
  have e1 : ∃ a n c, c1 = .slice a n c := by
    rcases Go.Deep.open_slice Tryz.underlying23 g1 with ⟨hcs, -⟩ | ⟨ad', l', c', m', n', D', Pl', hcs, -⟩
    · simp at hcs; exact ⟨_, _, _, hcs⟩
    · simp at hcs; exact ⟨_, _, _, hcs⟩
  obtain ⟨Ae, ne, ce, rfl⟩ := e0
  obtain ⟨Ar, nr, cr, rfl⟩ := e1
  obtain ⟨l, h1, rfl, h3, h4⟩ := eras_in g0
  obtain ⟨Z, k1, rfl, k3, k4⟩ := russ_in g1
  exact ⟨⟨Ae, ce, l, Ar, cr, Z⟩, rfl, ⟨h1, k1⟩, ⟨fun x hx => ⟨(k4 x hx).2.1, (k4 x hx).2.2⟩, h4, h3, k3⟩⟩
end
end Go.Proofs.YtpjmmnhmhjpkkaaGreatDoor
namespace Go.Proofs.YtpjmmnhmhjpkkaaGreatDoor
open Go.RowKit Go.Mem Go.Lin Go.Xpd Go.Den

theorem infoZn (v : ZnV) : (Tryz.prog.info? 25).map (·.size) = some (zoneC v).size := show _ = some 2 by kernel_rfl
theorem infoTl (u : UntilL) : (Tryz.prog.info? 46).map (·.size) = some (tilC u).size := show _ = some 8 by kernel_rfl
theorem part_til (e : EraL) : ∀ j, j < (tilC e.til).size → (eraC e)[5 + j]? = (tilC e.til)[j]? := by
  intro j hj
  have hj : j < 8 := hj
  match j, hj with
  | 0, _ => rfl
  | 1, _ => rfl
  | 2, _ => rfl
  | 3, _ => rfl
  | 4, _ => rfl
  | 5, _ => rfl
  | 6, _ => rfl
  | 7, _ => rfl
theorem clock_range {u : UntilL} (h : (clockD u).2 = true) (hs : -700000 ≤ u.at_.s ∧ u.at_.s ≤ 700000) : -400000000000 ≤ (clockD u).1 ∧ (clockD u).1 ≤ 400000000000 := by
  unfold clockD at h ⊢
  cases hn : numX u.on u.year u.month with
  | none => rw [hn] at h; cases h
  | some n =>
    have := numX_range hn
    show -400000000000 ≤ n * 86400 + u.at_.s ∧ n * 86400 + u.at_.s ≤ 400000000000
    omega
theorem eraS_range {v : ZnV} (hL : LightZ v) (i : Nat) (t : Int) : -100000 ≤ (eraS (znD v) i t).1 ∧ (eraS (znD v) i t).1 ≤ 100000 := by
  have z : -100000 ≤ ((0 : Int), ([] : Bs)).1 ∧ ((0 : Int), ([] : Bs)).1 ≤ 100000 := by show -100000 ≤ (0 : Int) ∧ (0 : Int) ≤ 100000; omega
  have sv : ∀ (l : List RuleL) off, OkS l → -100000 ≤ (savA l off t).1 ∧ (savA l off t).1 ≤ 100000 := by
    intro l off hl
    unfold savA
    cases reachY t with
    | none => show -100000 ≤ (0 : Int) ∧ (0 : Int) ≤ 100000; omega
    | some y =>
      cases findA l off t with
      | none => show -100000 ≤ (0 : Int) ∧ (0 : Int) ≤ 100000; omega
      | some f => exact hl.sav _
  unfold eraS
  cases he : (znD v).eras[i]? with
  | none => exact z
  | some e =>
    have hok := hL.2.2.2 e (List.mem_of_getElem? he)
    dsimp only
    split
    · exact ⟨hok.2.2.1, hok.2.2.2.1⟩
    · split
      · refine sv _ _ ?_
        show OkS (((v.Z.map (·.l))[i]?).getD [])
        rw [List.getElem?_map]
        cases hx : v.Z[i]? with
        | none => exact ⟨fun r hr => absurd hr (by simp), fun r hr => absurd hr (by simp)⟩
        | some x => exact okS_of (hL.2.2.1 x (List.mem_of_getElem? hx)).2
      · exact z
theorem eraS_far {v : ZnV} {i : Nat} {t : Int} {e : EraL} (h : v.eras[i]? = some e) (hk : e.kind = 2) (hi : v.Z.length ≤ i) : (eraS (znD v) i t).1 = 0 := by
  have e1 : eraS (znD v) i t = savA [] e.off t := by
    unfold eraS
    show (match v.eras[i]? with | none => ((0 : Int), ([] : Bs)) | some e => (if e.kind = 1 then (e.save, []) else if e.kind = 2 then savA (((v.Z.map RuV.l)[i]?).getD []) e.off t else (0, []))) = _
    rw [h]
    show (if e.kind = 1 then (e.save, []) else if e.kind = 2 then savA (((v.Z.map RuV.l)[i]?).getD []) e.off t else ((0 : Int), ([] : Bs))) = _
    rw [if_neg (by omega), if_pos hk, List.getElem?_map, List.getElem?_eq_none hi]
    rfl
  rw [e1]
  rw [savA_nil (find_nil _ _)]
theorem endD_no {v : ZnV} {i : Nat} {e : EraL} (h : v.eras[i]? = some e) (hn : ¬ (e.til.has = true ∧ (clockD e.til).2 = true)) : endD (znD v) i = 0 := by
  unfold endD
  show (match v.eras[i]? with | none => _ | some e => _) = _
  rw [h]
  exact if_neg hn
theorem endD_yes {v : ZnV} {i : Nat} {e : EraL} (h : v.eras[i]? = some e) (hn : e.til.has = true ∧ (clockD e.til).2 = true) :
    endD (znD v) i = if e.til.at_.k = 0 then (clockD e.til).1 - e.off - (eraS (znD v) i ((clockD e.til).1 - e.off - 1)).1 else if e.til.at_.k = 1 then (clockD e.til).1 - e.off else (clockD e.til).1 := by
  unfold endD
  show (match v.eras[i]? with | none => _ | some e => _) = _
  rw [h]
  exact if_pos hn
set_option maxHeartbeats 3200000 in
set_option maxRecDepth 100000 in
theorem zEnd_any (v : ZnV) (i : Nat) (w : World) (hv : ZnAt w v) (hL : LightZ v) (hi : i < v.eras.length) :
    Calls Tryz.prog 19 #[.agg (zoneC v), intV i] w fun e w' => e = .returned (intV (endD (znD v) i)) ∧ Fr w w' (fun _ => False) := by
  obtain ⟨e, he⟩ : ∃ e, v.eras[i]? = some e := ⟨v.eras[i], List.getElem?_eq_getElem hi⟩
  have hok := hL.2.2.2 e (List.mem_of_getElem? he)
  have n1 := Fr.new w (.cells (zoneC v) 25) (fun _ => False)
  have HB1 := Lib.hid (Blk.made w 25 (zoneC v))
  have HF1 := Lib.hid n1
  obtain ⟨b, off, hA, hc⟩ := (hv.e.kept n1).at_ he
  have s1 : (w.alloc (.cells (zoneC v) 25)).heap.size = w.heap.size + 1 := by simp
  have hz := Blk.made (w.alloc (.cells (zoneC v) 25)) 48 (eraC eraZ)
  rw [s1] at hz
  have n2 := Fr.new (w.alloc (.cells (zoneC v) 25)) (.cells (eraC eraZ) 48) (fun _ => False)
  have HBz := Lib.hid hz
  have HF2 := Lib.hid (ff4 n1 n2)
  have HB2 := Lib.hid (n2.blk HB1.out (fun h => h))
  have c0 : (w.alloc (.cells (zoneC v) 25)).cell? ⟨w.heap.size, 0, none⟩ = some (.slice v.Ae v.eras.length v.ce) := blkc HB1.out 0 _ rfl
  have c5 : (w.alloc (.cells (zoneC v) 25)).cell? ⟨b, off + i * 13 + 5, none⟩ = some (.bool e.til.has) := hc 5 (show 5 < 13 by decide)
  have HV := Lib.hid hv
  have HLz := Lib.hid hL
  have HCx := Lib.hid hc
  have HE := Lib.hid he
  have i0 : (i : Int) < (v.eras.length : Int) := by omega
  rw [hA] at c0
  have HQ := Lib.hid (fun W => clock_any e.til W ⟨hok.2.2.2.2.1, hok.2.2.2.2.2.1⟩)
  have HA0 := Lib.hid hA
  clear n1 n2 hz s1 hc hv hL
  by_cases hh : e.til.has = true
  · rw [hh] at c5
    go_enter Tryz.func19, Tryz.ntmps19
    go_wp2_with (first
      | ((with_reducible refine at_load4 48 ?_); refine wpList_load_at 48 _ b (off + i * 13) (eraC e) _ (by rfl) rfl rfl HCx.out Tryz.underlying48 rfl (infoE _) ?_)
      | ((with_reducible refine at_load4 46 ?_); refine wpList_load_blk 46 _ (w.heap.size + 1) 5 48 (eraC e) (tilC e.til) _ (by rfl) rfl rfl HE4.out Tryz.underlying46 rfl (infoTl _) (part_til e) ?_)
      | ((with_reducible refine at_store4 48 ?_); refine wpList_store_blk 48 _ _ (w.heap.size + 1) 0 48 (eraC eraZ) (eraC e) (eraC e) (by rfl) rfl rfl rfl rfl HBz.out (infoE _) (eraC_one _) (show 0 + 13 ≤ 13 by decide) (put_er _ _) ?_
         intro W4 hf4 hb4
         have HF4 := Lib.hid (HF2.out.fresh hf4 (fun i e => by have e : i = w.heap.size + 1 := e; omega))
         have HB4 := Lib.hid (hf4.blk HB2.out (fun e => by have e : w.heap.size = w.heap.size + 1 := e; omega))
         have HE4 := Lib.hid hb4
         clear hf4 hb4 c0 c5))
    refine (HQ.out W4).mono ?_
    rintro _ w5 ⟨c, ok, rfl, hok2, hcv, hf5⟩
    have HF5 := Lib.hid (ff4 HF4.out hf5)
    have hE5 := hf5.blk HE4.out (fun h => h)
    have hB5 := hf5.blk HB4.out (fun h => h)
    have HB5 := Lib.hid hB5
    have d0 : w5.cell? ⟨w.heap.size + 1, 0, none⟩ = some (.int .i64 e.off) := blkc hE5 0 _ rfl
    have d1 : w5.cell? ⟨w.heap.size + 1, 1, none⟩ = some (.int .i64 e.kind) := blkc hE5 1 _ rfl
    have d12 : w5.cell? ⟨w.heap.size + 1, 12, none⟩ = some (.int .i64 e.til.at_.k) := blkc hE5 12 _ rfl
    have g1 : w5.cell? ⟨w.heap.size, 1, none⟩ = some (.slice v.Ar v.Z.length v.cr) := blkc hB5 1 _ rfl
    clear hf5 hE5 hB5
    cases ok with
    | false =>
      have HN := Lib.hid (endD_no he (fun h => by rw [← hok2] at h; exact absurd h.2 (by decide)))
      clear hok2 hcv he hh
      go_wp2_with fail
      go_ret
      exact ⟨by rw [HN.out]; rfl, HF5.out⟩
    | true =>
      have hcv := hcv rfl
      subst hcv
      have HN := Lib.hid (endD_yes he ⟨hh, hok2.symm⟩)
      obtain ⟨r1, r2⟩ := clock_range hok2.symm ⟨hok.2.2.2.2.1, hok.2.2.2.2.2.1⟩
      obtain ⟨o1, o2, -⟩ := hok
      have HSr := Lib.hid (fun t => eraS_range HLz.out i t)
      generalize (clockD e.til).1 = c at *
      clear hok2 hh
      by_cases hk0 : e.til.at_.k = 0
      · rw [if_pos hk0] at HN
        rw [hk0] at d12
        clear hk0
        obtain ⟨s1, s2⟩ := HSr.out (c - e.off - 1)
        have hrange : S6.inRange (c - e.off - 1) := by unfold S6.inRange; omega
        by_cases hz : i < v.Z.length
        · have z0 : (i : Int) < (v.Z.length : Int) := by omega
          have HQ2 := Lib.hid (zsaving_any v i (c - e.off - 1) w5 (HV.out.kept HF5.out) HLz.out hi (fun _ _ _ => hz) hrange)
          generalize eraS (znD v) i (c - e.off - 1) = sv at *
          clear he hrange
          go_wp2_with (
            ((with_reducible refine at_load4 25 ?_); refine wpList_load_blk 25 _ w.heap.size 0 25 (zoneC v) (zoneC v) _ (by rfl) rfl rfl HB5.out Tryz.underlying25 rfl (infoZn _) (zero_part _) ?_))
          refine HQ2.out.mono ?_
          rintro _ w6 ⟨rfl, hf6⟩
          have HF6 := Lib.hid (ff4 HF5.out hf6)
          have d2 : w6.cell? ⟨w.heap.size + 1, 0, none⟩ = some (.int .i64 e.off) := cell_far hf6 d0 (fun h => h)
          clear hf6
          go_wp2_with fail
          go_ret
          exact ⟨by rw [HN.out]; rfl, HF6.out⟩
        · have z0 : ¬ (i : Int) < (v.Z.length : Int) := by omega
          by_cases hk2 : e.kind = 2
          · have HZ := Lib.hid (eraS_far (t := c - e.off - 1) he hk2 (by omega))
            rw [HZ.out] at HN
            rw [hk2] at d1
            clear he hk2 hrange s1 s2
            go_wp2_with fail
            go_ret
            exact ⟨by rw [HN.out]; simp, HF5.out⟩
          · have HQ2 := Lib.hid (zsaving_any v i (c - e.off - 1) w5 (HV.out.kept HF5.out) HLz.out hi (fun e' h1 h2 => by rw [he] at h1; cases h1; exact absurd h2 hk2) hrange)
            have k2 : (e.kind == 2) = false := beq_eq_false_iff_ne.2 hk2
            generalize eraS (znD v) i (c - e.off - 1) = sv at *
            clear he hk2 hrange
            go_wp2_with (
              ((with_reducible refine at_load4 25 ?_); refine wpList_load_blk 25 _ w.heap.size 0 25 (zoneC v) (zoneC v) _ (by rfl) rfl rfl HB5.out Tryz.underlying25 rfl (infoZn _) (zero_part _) ?_))
            refine HQ2.out.mono ?_
            rintro _ w6 ⟨rfl, hf6⟩
            have HF6 := Lib.hid (ff4 HF5.out hf6)
            have d2 : w6.cell? ⟨w.heap.size + 1, 0, none⟩ = some (.int .i64 e.off) := cell_far hf6 d0 (fun h => h)
            clear hf6
            go_wp2_with fail
            go_ret
            exact ⟨by rw [HN.out]; rfl, HF6.out⟩
      · rw [if_neg hk0] at HN
        have k0 : (e.til.at_.k == 0) = false := beq_eq_false_iff_ne.2 hk0
        by_cases hk1 : e.til.at_.k = 1
        · rw [if_pos hk1] at HN
          rw [hk1] at d12
          clear he hk0 hk1 k0
          go_wp2_with fail
          go_ret
          exact ⟨by rw [HN.out]; rfl, HF5.out⟩
        · rw [if_neg hk1] at HN
          have k1 : (e.til.at_.k == 1) = false := beq_eq_false_iff_ne.2 hk1
          clear he hk0 hk1
          go_wp2_with fail
          go_ret
          exact ⟨by rw [HN.out]; rfl, HF5.out⟩
  · have HN := Lib.hid (endD_no he (fun h => hh h.1))
    have hh : e.til.has = false := by simpa using hh
    rw [hh] at c5
    clear he hh
    go_enter Tryz.func19, Tryz.ntmps19
    go_wp2_with fail
    go_ret
    exact ⟨by rw [HN.out]; rfl, HF1.out⟩
end Go.Proofs.YtpjmmnhmhjpkkaaGreatDoor
namespace Go.Proofs.YtpjmmnhmhjpkkaaGreatDoor
open Go.RowKit Go.Mem Go.Lin Go.Xpd Go.Den

/- why a zone isn't right, as a walk finds it -/
def LenOk (v : ZnV) : Prop := 1 ≤ v.eras.length ∧ v.eras.length ≤ 8 ∧ v.Z.length = v.eras.length
def ErasOk (v : ZnV) (i : Nat) : Prop := ∀ (j : Nat) (e : EraL) (x : RuV), j < i → v.eras[j]? = some e → v.Z[j]? = some x → eraOk e x.l
def OpensOk (v : ZnV) (i : Nat) : Prop := ∀ (j : Nat) (e : EraL), j < i → v.eras[j]? = some e → e.til.has = decide (j + 1 < v.eras.length)
theorem right_len {v : ZnV} (h : ¬ LenOk v) : rightD (znD v) = 1 := by
  unfold rightD
  refine if_pos ?_
  show v.eras.length < 1 ∨ 8 < v.eras.length ∨ (v.Z.map RuV.l).length ≠ v.eras.length
  rw [List.length_map]
  unfold LenOk at h
  omega
theorem right_len' {v : ZnV} (h : LenOk v) : ¬ ((znD v).eras.length < 1 ∨ 8 < (znD v).eras.length ∨ (znD v).rules.length ≠ (znD v).eras.length) := by
  show ¬ (v.eras.length < 1 ∨ 8 < v.eras.length ∨ (v.Z.map RuV.l).length ≠ v.eras.length)
  rw [List.length_map]
  unfold LenOk at h
  omega
theorem zip_at {v : ZnV} {p : EraL × List RuleL} (h : p ∈ (znD v).eras.zip (znD v).rules) : ∃ (i : Nat) (x : RuV), v.eras[i]? = some p.1 ∧ v.Z[i]? = some x ∧ p.2 = x.l := by
  obtain ⟨i, hi⟩ := List.mem_iff_getElem?.1 h
  rw [List.getElem?_zip_eq_some] at hi
  obtain ⟨h1, h2⟩ := hi
  have h2 : (v.Z.map RuV.l)[i]? = some p.2 := h2
  rw [List.getElem?_map] at h2
  cases hx : v.Z[i]? with
  | none => rw [hx] at h2; cases h2
  | some x => rw [hx] at h2; exact ⟨i, x, h1, hx, (Option.some.inj h2).symm⟩
theorem right_bad {v : ZnV} (hl : LenOk v) {i : Nat} {e : EraL} {x : RuV} (he : v.eras[i]? = some e) (hx : v.Z[i]? = some x) (hb : ¬ eraOk e x.l) : rightD (znD v) = 1 := by
  unfold rightD
  rw [if_neg (right_len' hl)]
  refine if_pos fun hc => hb (hc (e, x.l) ?_)
  refine List.mem_iff_getElem?.2 ⟨i, ?_⟩
  rw [List.getElem?_zip_eq_some]
  refine ⟨he, ?_⟩
  show (v.Z.map RuV.l)[i]? = some x.l
  rw [List.getElem?_map, hx]
  rfl
theorem eras_all {v : ZnV} (_hl : LenOk v) (h : ErasOk v v.eras.length) : ∀ p ∈ (znD v).eras.zip (znD v).rules, eraOk p.1 p.2 := by
  intro p hp
  obtain ⟨i, x, h1, h2, h3⟩ := zip_at hp
  rw [h3]
  exact h i p.1 x (List.getElem?_eq_some_iff.1 h1).1 h1 h2
theorem right_open {v : ZnV} (hl : LenOk v) (h : ErasOk v v.eras.length) {i : Nat} {e : EraL} (he : v.eras[i]? = some e) (hb : e.til.has ≠ decide (i + 1 < v.eras.length)) : rightD (znD v) = 21 := by
  unfold rightD
  rw [if_neg (right_len' hl), if_neg (fun hc => hc (eras_all hl h))]
  refine if_pos fun hc => hb ?_
  have := hc i (List.mem_range.2 (List.getElem?_eq_some_iff.1 he).1)
  have h2 : (v.eras[i]?).map (fun e => e.til.has) = some (decide (i + 1 < v.eras.length)) := this
  rw [he] at h2
  exact Option.some.inj h2
theorem opens_all {v : ZnV} (h : OpensOk v v.eras.length) : ∀ i ∈ List.range (znD v).eras.length, ((znD v).eras[i]?).map (fun e => e.til.has) = some (decide (i + 1 < (znD v).eras.length)) := by
  intro i hi
  have hi : i < v.eras.length := List.mem_range.1 hi
  show (v.eras[i]?).map (fun e => e.til.has) = some (decide (i + 1 < v.eras.length))
  rw [List.getElem?_eq_getElem hi]
  exact congrArg some (h i _ hi (List.getElem?_eq_getElem hi))
theorem right_fall {v : ZnV} (hl : LenOk v) (h : ErasOk v v.eras.length) (ho : OpensOk v v.eras.length) {i : Nat} (hi : i + 2 < v.eras.length) (hb : endD (znD v) (i + 1) ≤ endD (znD v) i) : rightD (znD v) = 14 := by
  unfold rightD
  rw [if_neg (right_len' hl), if_neg (fun hc => hc (eras_all hl h)), if_neg (fun hc => hc (opens_all ho))]
  refine if_pos ?_
  rw [List.all_eq_false]
  exact ⟨i, List.mem_range.2 (by show i < v.eras.length - 2; omega), by simp; omega⟩
theorem right_fine {v : ZnV} (hl : LenOk v) (h : ErasOk v v.eras.length) (ho : OpensOk v v.eras.length) (hr : ∀ j, j + 2 < v.eras.length → endD (znD v) j < endD (znD v) (j + 1)) : rightD (znD v) = 0 := by
  unfold rightD
  rw [if_neg (right_len' hl), if_neg (fun hc => hc (eras_all hl h)), if_neg (fun hc => hc (opens_all ho))]
  refine if_neg ?_
  rw [List.all_eq_false]
  rintro ⟨j, hj, hb⟩
  have hj : j < v.eras.length - 2 := List.mem_range.1 hj
  exact hb (decide_eq_true (hr j (by omega)))
theorem ErasOk.step {v : ZnV} {i : Nat} {e : EraL} {x : RuV} (h : ErasOk v i) (he : v.eras[i]? = some e) (hx : v.Z[i]? = some x) (ho : eraOk e x.l) : ErasOk v (i + 1) := by
  intro j e' x' hj h1 h2
  by_cases c : j = i
  · subst c
    rw [he] at h1
    rw [hx] at h2
    cases h1
    cases h2
    exact ho
  · exact h j e' x' (by omega) h1 h2
theorem OpensOk.step {v : ZnV} {i : Nat} {e : EraL} (h : OpensOk v i) (he : v.eras[i]? = some e) (ho : e.til.has = decide (i + 1 < v.eras.length)) : OpensOk v (i + 1) := by
  intro j e' hj h1
  by_cases c : j = i
  · subst c
    rw [he] at h1
    cases h1
    exact ho
  · exact h j e' (by omega) h1
end Go.Proofs.YtpjmmnhmhjpkkaaGreatDoor
