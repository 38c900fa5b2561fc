import Derived.Test.YtodcnbejnchmhaaGreatDoorYb31
import Derived.Test.YtodcnbejnchmhaaGreatDoorYb30
import Derived.Test.YtodcnbejnchmhaaGreatDoorYb29
import Derived.Test.YtodcnbejnchmhaaGreatDoorYb09
import Derived.Test.YtodcnbejnchmhaaGreatDoorYb20
import Derived.Test.YtodcnbejnchmhaaGreatDoorYb24
namespace Go.Proofs.YtodcnbejnchmhaaGreatDoor
open Go.Rope hiding Bs
open Go.RowKit Go.Mem Go.Lin Go.Dcm

theorem run_cut {s : Bs} {a b : Nat} (hab : a ≤ b) (hb : b ≤ s.length) (x y : Int) (hx : x = (a : Int)) (hy : y = (b : Int)) (w : World) : (Instr.slice 9 (strV s) (some (.int .i64 x)) (some (.int .i64 y)) none).run Tryz.prog w = .ok (strV (cut s a b)) w := by
  subst hx hy
  have hz := str_size s
  rw [run_slice_string (P := Tryz.prog) w 9 ⟨s.toArray⟩ .i64 .i64 (a : Int) (b : Int) Tryz.underlying9 (by omega) (by omega) (by omega)]
  simp only [Int.toNat_natCast]
  rw [S3.str_ext]
set_option maxRecDepth 100000 in
set_option maxHeartbeats 12800000 in
theorem back_any (s : Bs) (e : EdL) (w : World) (hw : LOk w) (hs : s.length ≤ maxLen) (he : EdR e) : Calls Tryz.prog 7 #[strV s, edV e] w (TrueT w) := by
  have HW := Lib.hid (fun (W : World) (f : Fr w W (fun _ => False)) => alive11_any W (hw.fr f))
  obtain ⟨l1, c1, l2, c2, es⟩ := e
  have hbs := build_one l1 c1 l2 c2 es
  have HL := Lib.hid (light_one s l1 c1 l2 c2 es hs he.s)
  by_cases hx : s.length ≤ 1500 ∧ es.length ≤ 1500
  · have HLt := Lib.hid (fun (W : World) => HL.out W true (by simp [hx]))
    have HOw := Lib.hid (fun (W : World) => Own_any ⟨l1, c1, l2, c2, es⟩ W)
    have HN := Lib.hid (fun (W : World) (f : Fr w W (fun _ => False)) => tNew_any s W (hw.fr f) (by omega))
    have HE := Lib.hid (fun (W : World) (g : Nat) (l : Bs) (n : Int) (f : Fr w W (fun _ => False)) (h : TabAt W g l n) (e : EdL) (he : e.s.length ≤ 20100) => tEdit_any h (hw.fr f) e he)
    have HDo := Lib.hid (fun (W : World) => Do_any s ⟨l1, c1, l2, c2, es⟩ W (by omega) (show es.length ≤ 20100 by omega))
    have HEs := Lib.hid (show es.length ≤ 1500 from hx.2)
    have HXs := Lib.hid (show s.length ≤ 1500 from hx.1)
    clear hx
    unfold edV at *
    unfold edC at HOw HDo
    show Calls Tryz.prog 7 #[strV s, .agg #[intV l1, intV c1, intV l2, intV c2, strV es]] w (TrueT w)
    clear hw hs he HL
    go_enter Tryz.func7, Tryz.ntmps7
    go_wp2_with fail
    have HLt1 := Lib.hid (HLt.out (w.alloc (.cells #[intV l1, intV c1, intV l2, intV c2, strV es] 37)))
    rw [show (w.alloc (.cells #[intV l1, intV c1, intV l2, intV c2, strV es] 37)).heap.size = w.heap.size + 1 by simp] at HLt1
    refine HLt1.out.mono ?_
    rintro e w2 ⟨rfl, hf2⟩
    have hf12 := ff0 (Fr.new (w.alloc (.cells #[intV l1, intV c1, intV l2, intV c2, strV es] 37)) (.cells #[intV l1, intV c1, intV l2, intV c2, strV es] 37) (fun _ => False)) hf2
    have HB2 := Lib.hid (hf12.blk (Blk.made w 37 #[intV l1, intV c1, intV l2, intV c2, strV es]) (fun h => h))
    have HF2 := Lib.hid (ff0 (Fr.new w (.cells #[intV l1, intV c1, intV l2, intV c2, strV es] 37) (fun _ => False)) hf12)
    clear hf2 hf12 HLt1
    go_wp2_with fail
    refine (HN.out w2 HF2.out).mono ?_
    rintro e w3 hn3
    by_cases hfit : Fits s
    · obtain ⟨g, rfl, hg, ht, hf3⟩ := new_fits hn3 hfit
      have HT3 := Lib.hid ht
      have HF3 := Lib.hid (ff0 HF2.out hf3)
      have HB3 := Lib.hid (hf3.blk HB2.out (fun h => h))
      have HG := Lib.hid (Nat.le_trans HF2.out.size hg)
      have HFt := Lib.hid hfit
      obtain ⟨L, hL⟩ : ∃ L, L = saysD s := ⟨_, rfl⟩
      obtain ⟨N, hN⟩ : ∃ N, L.length = N := ⟨_, rfl⟩
      have hN9 : N ≤ 1501 := by have := feeds_le s; have := HXs.out; rw [← hN, hL, says_len]; omega
      have HLi := Lib.hid (tLines_any ht)
      rw [← hL] at HLi
      clear hn3 ht hf3 hg hfit HB2 HF2 HN HLt hbs
      go_wp2_with fail
      refine HLi.out.mono ?_
      rintro e w4 ⟨A4, k4, rfl, hl4, hf4⟩
      rw [hN]
      have HL4 := Lib.hid hl4
      have HT4 := Lib.hid (HT3.out.kept hf4)
      have HF4 := Lib.hid (ff0 HF3.out hf4)
      have HB4 := Lib.hid (hf4.blk HB3.out (fun h => h))
      clear hl4 hf4 HT3 HF3 HB3 HLi
      go_wp2_with (refine wpList_load_blk 37 _ w.heap.size 0 37 #[intV l1, intV c1, intV l2, intV c2, strV es] #[intV l1, intV c1, intV l2, intV c2, strV es] _ (by rfl) rfl rfl HB4.out Tryz.underlying37 rfl infoRe1 (fun j _ => by rw [Nat.zero_add]) ?_)
      rcases ed_col s ⟨l1, c1, l2, c2, es⟩ with ⟨k, hk0, hd⟩ | ⟨i, j, a, b, t, hi0, hj0, hcc0, hd, hsp, hab, hc0⟩
      · have HDo4 := Lib.hid (HDo.out w4)
        unfold DoR at HDo4
        rw [hd] at HDo4
        clear hd
        refine HDo4.out.mono ?_
        rintro e w5 ⟨rfl, hf5⟩
        have HF5 := Lib.hid (ff0 HF4.out hf5)
        clear hf5
        go_wp2_with fail
        have HA := Lib.hid (HW.out _ HF5.out)
        refine HA.out.mono ?_
        rintro e wz ⟨rfl, hfz⟩
        have HFZ := Lib.hid (ff0 HF5.out hfz)
        clear hfz
        go_wp2_with fail
        go_ret
        exact ⟨rfl, HFZ.out⟩
      · have hi : l1 = (i : Int) := hi0
        have hj : l2 = (j : Int) := hj0
        have hcc : c1 = (colX (s.take a) : Int) := hcc0
        clear hi0 hj0 hcc0
        subst hi hj hcc
        have hc : t = s.take a ++ es ++ s.drop b := hc0
        clear hc0
        have HEB := Lib.hid (edit_back hsp hab hc HFt.out)
        obtain ⟨ca1, ca2, ca3⟩ := col_at hsp.hi hsp.a1 hsp.a2
        have hal : a ≤ s.length := Nat.le_trans hsp.a2 (endOf_le s i)
        have hbl : b ≤ s.length := Nat.le_trans hsp.b2 (endOf_le s j)
        have hct : t.length = a + es.length + (s.length - b) := by rw [hc, List.length_append, List.length_append, ca3, List.length_drop]
        have hcl : (cut s a b).length = b - a := cut_len hab hbl
        have hfi := hsp.hi
        have hfs := feeds_le s
        have hfe := feeds_le es
        have hxs := HXs.out
        have hes := HEs.out
        have hapos : behind s i + colX (s.take a) = a := by have := hsp.a1; omega
        obtain ⟨X, hX⟩ : ∃ X, s.take a = X := ⟨_, rfl⟩
        rw [hX] at HEB ca1 ca2 ca3 hapos HDo HB4 HOw ⊢
        obtain ⟨cx, hcx⟩ : ∃ c, colX X = c := ⟨_, rfl⟩
        rw [hcx] at HEB hapos HDo HB4 HOw ⊢
        rw [hX, hcx] at hd
        have HDo4 := Lib.hid (HDo.out w4)
        unfold DoR at HDo4
        rw [hd] at HDo4
        obtain ⟨dn, hdn⟩ : ∃ n, doD s ⟨(i : Int), (cx : Int), (j : Int), c2, es⟩ = n := ⟨_, rfl⟩
        rw [hdn] at HDo4
        have HD := Lib.hid hd
        have HX := Lib.hid hcx
        have HX1 := Lib.hid ca1
        have HXL := Lib.hid (show X.length ≤ 1500 by omega)
        have HSE := Lib.hid (fun (m : Nat) (h : m < feeds s) => at_end h)
        have HIL := Lib.hid (fun (m x : Nat) (h : m < feeds s) (h1 : behind s m ≤ x) (h2 : x < endOf s m) (hx : x < s.length) => in_line h h1 h2 hx)
        have HCT := Lib.hid hct
        have HAB := Lib.hid (And.intro hab hbl)
        have HCU := Lib.hid (fun (x y : Int) (hx : x = (a : Int)) (hy : y = (b : Int)) (w : World) => run_cut hab hbl x y hx hy w)
        have HCL := Lib.hid hcl
        have HAP := Lib.hid hapos
        have h0c : 0 ≤ cx := Nat.zero_le _
        have hcxb : cx ≤ 1500 := by omega
        have hib : i ≤ 1500 := by omega
        clear hd hsp hab hc hal hbl hct hcl ca1 ca2 ca3 hcx hX hdn hapos
        refine HDo4.out.mono ?_
        rintro e w5 ⟨rfl, hf5⟩
        have HT5 := Lib.hid (HT4.out.kept hf5)
        have HF5 := Lib.hid (ff0 HF4.out hf5)
        have HB5 := Lib.hid (hf5.blk HB4.out (fun h => h))
        have HL5 := Lib.hid (HL4.out.kept hf5)
        clear hf5 HT4 HF4 HB4 HL4 HDo4
        have hsz := str_size es
        have hszs := str_size s
        have hszt := str_size t
        have q0 := blkc HB5.out 0 _ rfl
        have q1 := blkc HB5.out 1 _ rfl
        go_wp2_with fail
        go_quiet (fail)
        clear q0 q1
        have hfq := Fr.drewN w5 nq (fun _ => False)
        obtain ⟨W5, hW5⟩ : ∃ W, w5.drewN nq = W := ⟨_, rfl⟩
        rw [hW5] at hfq ⊢
        have HT6 := Lib.hid (HT5.out.kept hfq)
        have HF6 := Lib.hid (ff0 HF5.out hfq)
        have HB6 := Lib.hid (hfq.blk HB5.out (fun h => h))
        have HL6 := Lib.hid (HL5.out.kept hfq)
        have d0 := blkc HB6.out 0 _ rfl
        have d1 := blkc HB6.out 1 _ rfl
        have d4 := blkc HB6.out 4 _ rfl
        clear hfq hW5 HT5 HF5 HB5 HL5
        go_wp2_with fail
        go_loopg [11, 12, 13] es.length (fun k v11 v12 v13 wr => ∃ m : Nat, m + k = es.length ∧ v13 = intV (m : Int) ∧ v11 = intV (feeds (X ++ es.take m) : Int) ∧ v12 = intV (colX (X ++ es.take m) : Int) ∧ W5 = wr)
        case atStart => exact ⟨0, by simp, rfl, by rw [List.take_zero, List.append_nil, HX1.out], by rw [List.take_zero, List.append_nil, HX.out], rfl⟩
        case round =>
          obtain ⟨m, hmk, rfl, rfl, rfl, rfl⟩ := hrel
          by_cases hlt : m < es.length
          · have hlt' : m < (⟨es.toArray⟩ : ByteArray).size := by rw [hsz]; exact hlt
            have hget : (⟨es.toArray⟩ : ByteArray)[m]'hlt' = es[m]'hlt := rfl
            have htk : X ++ es.take (m + 1) = (X ++ es.take m) ++ [es[m]'hlt] := by rw [List.take_succ_eq_append_getElem hlt, List.append_assoc]
            obtain ⟨c, hcc⟩ : ∃ c, es[m]'hlt = c := ⟨_, rfl⟩
            rw [hcc] at hget htk
            obtain ⟨Y, hY⟩ : ∃ Y, X ++ es.take m = Y := ⟨_, rfl⟩
            rw [hY] at htk ⊢
            have hYl : Y.length ≤ 3000 := by
              rw [← hY, List.length_append, List.length_take]
              have := HXL.out
              omega
            have hfy := feeds_le Y
            have hcy : colX Y ≤ Y.length := by unfold colX; omega
            have hi1 : (m : Int) < (es.length : Int) := by omega
            by_cases hc10 : c = 10
            · subst hc10
              have e10 : (((((⟨es.toArray⟩ : ByteArray)[m]'hlt').toNat : Nat) : Int) == 10) = true := by rw [hget]; rfl
              have HCF := Lib.hid (col_feed Y)
              rw [← htk] at HCF
              obtain ⟨fy, hfyy⟩ : ∃ f, feeds Y = f := ⟨_, rfl⟩
              obtain ⟨cy, hcyy⟩ : ∃ f, colX Y = f := ⟨_, rfl⟩
              rw [hfyy] at HCF hfy ⊢
              rw [hcyy] at hcy ⊢
              have b1 : (fy : Int) ≤ 3000 := by omega
              have b2 : (cy : Int) ≤ 3000 := by omega
              clear hget hcc hY htk hfyy hcyy hYl hfy hcy
              go_wp2_with fail
              go_roundg (es.length - (m + 1))
              case measure => omega
              case rel => exact ⟨m + 1, by omega, by go_num, by rw [HCF.out.1]; go_num, by rw [HCF.out.2]; rfl, rfl⟩
            · have e10 : (((((⟨es.toArray⟩ : ByteArray)[m]'hlt').toNat : Nat) : Int) == 10) = false := by
                rw [hget, beq_eq_false_iff_ne]
                intro e
                exact hc10 (UInt8.toNat_inj.1 (by have : (10 : UInt8).toNat = 10 := rfl; omega))
              have HCF := Lib.hid (col_byte Y hc10)
              rw [← htk] at HCF
              obtain ⟨fy, hfyy⟩ : ∃ f, feeds Y = f := ⟨_, rfl⟩
              obtain ⟨cy, hcyy⟩ : ∃ f, colX Y = f := ⟨_, rfl⟩
              rw [hfyy] at HCF hfy ⊢
              rw [hcyy] at HCF hcy ⊢
              have b1 : (fy : Int) ≤ 3000 := by omega
              have b2 : (cy : Int) ≤ 3000 := by omega
              clear hget hcc hY htk hfyy hcyy hYl hfy hcy
              go_wp2_with fail
              go_roundg (es.length - (m + 1))
              case measure => omega
              case rel => exact ⟨m + 1, by omega, by go_num, by rw [HCF.out.1], by rw [HCF.out.2]; go_num, rfl⟩
          · obtain rfl : m = es.length := by omega
            have hi1 : (es.length : Int) ≤ (es.length : Int) := Int.le_refl _
            rw [List.take_length]
            obtain ⟨LN, hLN⟩ : ∃ n, feeds (X ++ es) = n := ⟨_, rfl⟩
            obtain ⟨CN, hCN⟩ : ∃ n, colX (X ++ es) = n := ⟨_, rfl⟩
            rw [hLN, hCN] at HEB
            rw [hLN, hCN]
            obtain ⟨gn, hgn⟩ : ∃ n, b - a = n := ⟨_, rfl⟩
            rw [hgn] at HCL
            have hab2 := HAB.out
            have hct2 := HCT.out
            have hgi : (s.length : Int) - ((t.length : Int) - (es.length : Int)) = (gn : Int) := by omega
            have hb1 : (s.length : Int) ≤ 1500 := by omega
            have hb2 : (t.length : Int) ≤ 4000 := by omega
            have hb3 : (es.length : Int) ≤ (t.length : Int) := by omega
            have hb4 : (a : Int) ≤ (s.length : Int) := by omega
            have hb5 : (gn : Int) ≤ (s.length : Int) - (a : Int) := by omega
            have hwr : IntKind.i64.wrap ((a : Int) + (gn : Int)) = (b : Int) := by rw [IntWalk.i64_in _ ⟨by omega, by omega⟩]; omega
            clear hLN hCN hgn hab2 hct2 hlt hmk
            go_wp2_with fail
            go_loopg [16, 17] i (fun k v16 v17 wr => ∃ m : Nat, m + k = i ∧ v17 = intV (m : Int) ∧ v16 = intV (behind s m : Int) ∧ W5 = wr)
            case atStart => exact ⟨0, by simp, rfl, by rw [behind_zero]; rfl, rfl⟩
            case round =>
              obtain ⟨m, hmk, rfl, rfl, rfl⟩ := hrel
              by_cases hlt : m < i
              · have hms : m < feeds s := by omega
                have HE2 := Lib.hid (HSE.out m hms)
                have HI2 := Lib.hid (fun (x : Nat) (h1 : behind s m ≤ x) (h2 : x < endOf s m) (hx : x < s.length) => HIL.out m x hms h1 h2 hx)
                have hbm := HE2.out.2.2.2
                have hem := HE2.out.1
                obtain ⟨bm, hbmm⟩ : ∃ n, behind s m = n := ⟨_, rfl⟩
                obtain ⟨em, hemm⟩ : ∃ n, endOf s m = n := ⟨_, rfl⟩
                rw [hbmm, hemm] at HE2 HI2 hbm
                rw [hemm] at hem
                rw [hbmm]
                have hi2 : (m : Int) < (i : Int) := by omega
                have hmi : (m : Int) ≤ 1500 := by omega
                clear hbmm hemm hms
                go_wp2_with fail
                go_loopg [16] (em - bm) (fun k v16 wr => ∃ x : Nat, x + k = em ∧ v16 = intV (x : Int) ∧ bm ≤ x ∧ W5 = wr)
                case atStart => exact ⟨bm, by omega, rfl, Nat.le_refl _, rfl⟩
                case round =>
                  obtain ⟨x, hxk, rfl, hbx, rfl⟩ := hrel
                  have hxs2 : x < s.length := by omega
                  have hxs' : x < (⟨s.toArray⟩ : ByteArray).size := by rw [hszs]; exact hxs2
                  have hget : (⟨s.toArray⟩ : ByteArray)[x]'hxs' = s[x]'hxs2 := rfl
                  have hxi : (x : Int) < (s.length : Int) := by omega
                  by_cases hxe : x < em
                  · have hne10 := HI2.out x hbx hxe hxs2
                    have e10 : (((((⟨s.toArray⟩ : ByteArray)[x]'hxs').toNat : Nat) : Int) == 10) = false := by
                      rw [hget, beq_eq_false_iff_ne]
                      intro e
                      exact hne10 (UInt8.toNat_inj.1 (by have : (10 : UInt8).toNat = 10 := rfl; omega))
                    clear hget hne10
                    go_wp2_with fail
                    go_roundg (em - (x + 1))
                    case measure => omega
                    case rel => exact ⟨x + 1, by omega, by go_num, by omega, rfl⟩
                  · obtain rfl : x = em := by omega
                    have hg10 := HE2.out.2.1
                    rw [List.getElem?_eq_getElem hxs2] at hg10
                    have hg10 := Option.some.inj hg10
                    have e10 : (((((⟨s.toArray⟩ : ByteArray)[x]'hxs').toNat : Nat) : Int) == 10) = true := by rw [hget, hg10]; rfl
                    have HE3 := Lib.hid HE2.out.2.2.1
                    clear hget hg10
                    go_wp2_with fail
                    go_roundg (i - (m + 1))
                    case measure => omega
                    case rel => exact ⟨m + 1, by omega, by go_num, by rw [HE3.out]; go_num, rfl⟩
              · obtain rfl : m = i := by omega
                have hi2 : (m : Int) ≤ (m : Int) := Int.le_refl _
                have hap := HAP.out
                have hap2 : (behind s m : Int) + (cx : Int) = (a : Int) := by omega
                have hbz : behind s m ≤ 1500 := by omega
                clear hap hlt hmk
                go_wp2_with (refine wpList_load_blk 37 _ w.heap.size 0 37 #[intV (m : Int), intV (cx : Int), intV (j : Int), intV c2, strV es] #[intV (m : Int), intV (cx : Int), intV (j : Int), intV c2, strV es] _ (by rfl) rfl rfl HB6.out Tryz.underlying37 rfl infoRe1 (fun j _ => by rw [Nat.zero_add]) ?_)
                refine (HOw.out W5).mono ?_
                rintro e w7 ⟨rfl, hf7⟩
                have HT7 := Lib.hid (HT6.out.kept hf7)
                have HF7 := Lib.hid (ff0 HF6.out hf7)
                have HB7 := Lib.hid (hf7.blk HB6.out (fun h => h))
                have HL7 := Lib.hid (HL6.out.kept hf7)
                have HE7 := Lib.hid (HE.out w7 g s _ (ff0 HF6.out hf7) (HT6.out.kept hf7) ⟨(m : Int), (cx : Int), (j : Int), c2, es⟩ (by show es.length ≤ 20100; omega))
                unfold EditR edC at HE7
                rw [HD.out] at HE7
                clear hf7 HT6 HF6 HB6 HL6 d0 d1 d4
                go_wp2_with fail
                refine HE7.out.mono ?_
                rintro e w8 ⟨rfl, ht8, hf8⟩
                have HL8 := Lib.hid (lines_far HL7.out HT7.out hf8)
                have HB8 := Lib.hid (box_far HB7.out HT7.out hf8)
                have HF8 := Lib.hid (fr_tab HF7.out hf8 HG.out)
                have HT8 := Lib.hid ht8
                have hwg : w.heap.size ≠ g := fun e => by
                  obtain ⟨ds, hd⟩ := HT8.out.blk
                  have hb := HB8.out
                  rw [e] at hb
                  exact absurd (blk_same hb hd) (by decide)
                have hcut := fun w => HCU.out (a : Int) (b : Int) rfl rfl w
                have hclb : (cut s a b).length ≤ 20100 := by have := HCL.out; omega
                clear ht8 hf8 HT7 HF7 HB7 HL7 HE7
                go_wp2_with fail
                refine wp_region_held_drew (S := fun w' => Fr w8 w' (fun k => k = g)) (by kernel_rfl) (Fr.drew w8 _) (fun hHeld => ?_)
                refine wpAnyH_take (i := 0) (v := ?_) rfl (by kernel_rfl) (by kernel_rfl) (by kernel_rfl) (fun _ _ _ h => h) (Or.inl ⟨by rfl, ?_⟩) (by assumption) ?_
                rotate_left
                · intro w' hSw
                  go_simp
                  try with_reducible rfl
                try simp only [Act.put, List.setIfInBounds_toArray, List.set_cons_zero, List.set_cons_succ, List.getElem_toArray, List.getElem_cons_zero]
                refine wpAnyH_take (i := 1) (v := ?_) rfl (by kernel_rfl) (by kernel_rfl) (by kernel_rfl) (fun _ _ _ h => h) (Or.inl ⟨by rfl, ?_⟩) (by assumption) ?_
                rotate_left
                · intro w' hSw
                  go_simp
                  try with_reducible rfl
                try simp only [Act.put, List.setIfInBounds_toArray, List.set_cons_zero, List.set_cons_succ, List.getElem_toArray, List.getElem_cons_succ, List.getElem_cons_zero]
                refine wpAnyH_take (i := 2) (v := ?_) rfl (by kernel_rfl) (by kernel_rfl) (by kernel_rfl) (fun _ _ _ h => h) (Or.inl ⟨by rfl, ?_⟩) (by assumption) ?_
                rotate_left
                · intro w' hSw
                  have p0 := cell_far hSw (blkc HB8.out 0 _ rfl) hwg
                  go_simp
                  try with_reducible rfl
                try simp only [Act.put, List.setIfInBounds_toArray, List.set_cons_zero, List.set_cons_succ, List.getElem_toArray, List.getElem_cons_succ, List.getElem_cons_zero]
                refine wpAnyH_take (i := 3) (v := ?_) rfl (by kernel_rfl) (by kernel_rfl) (by kernel_rfl) (fun _ _ _ h => h) (Or.inl ⟨by rfl, ?_⟩) (by assumption) ?_
                rotate_left
                · intro w' hSw
                  go_simp
                  try with_reducible rfl
                try simp only [Act.put, List.setIfInBounds_toArray, List.set_cons_zero, List.set_cons_succ, List.getElem_toArray, List.getElem_cons_succ, List.getElem_cons_zero]
                refine wpAnyH_take (i := 4) (v := ?_) rfl (by kernel_rfl) (by kernel_rfl) (by kernel_rfl) (fun _ _ _ h => h) (Or.inl ⟨by rfl, ?_⟩) (by assumption) ?_
                rotate_left
                · intro w' hSw
                  have p1 := cell_far hSw (blkc HB8.out 1 _ rfl) hwg
                  go_simp
                  try with_reducible rfl
                try simp only [Act.put, List.setIfInBounds_toArray, List.set_cons_zero, List.set_cons_succ, List.getElem_toArray, List.getElem_cons_succ, List.getElem_cons_zero]
                refine wpAnyH_take (i := 5) (v := ?_) rfl (by kernel_rfl) (by kernel_rfl) (by kernel_rfl) (fun _ _ _ h => h) (Or.inl ⟨by rfl, ?_⟩) (by assumption) ?_
                rotate_left
                · intro w' hSw
                  go_simp
                  try with_reducible rfl
                try simp only [Act.put, List.setIfInBounds_toArray, List.set_cons_zero, List.set_cons_succ, List.getElem_toArray, List.getElem_cons_succ, List.getElem_cons_zero]
                refine wpAnyH_take (i := 6) (v := ?_) rfl (by kernel_rfl) (by kernel_rfl) (by kernel_rfl) (fun _ _ _ h => h) (Or.inl ⟨by rfl, ?_⟩) (by assumption) ?_
                rotate_left
                · intro w' hSw
                  go_simp
                  try with_reducible rfl
                try simp only [Act.put, List.setIfInBounds_toArray, List.set_cons_zero, List.set_cons_succ, List.getElem_toArray, List.getElem_cons_succ, List.getElem_cons_zero]
                refine wpAnyH_take (i := 7) (v := ?_) rfl (by kernel_rfl) (by kernel_rfl) (by kernel_rfl) (fun _ _ _ h => h) (Or.inl ⟨by rfl, ?_⟩) (by assumption) ?_
                rotate_left
                · intro w' hSw
                  go_simp
                  try with_reducible rfl
                try simp only [Act.put, List.setIfInBounds_toArray, List.set_cons_zero, List.set_cons_succ, List.getElem_toArray, List.getElem_cons_succ, List.getElem_cons_zero]
                refine wpAnyH_take (i := 8) (v := ?_) rfl (by kernel_rfl) (by kernel_rfl) (by kernel_rfl) (fun _ _ _ h => h) (Or.inl ⟨by rfl, ?_⟩) (by assumption) ?_
                rotate_left
                · intro w' hSw
                  go_simp
                  try with_reducible rfl
                try simp only [Act.put, List.setIfInBounds_toArray, List.set_cons_zero, List.set_cons_succ, List.getElem_toArray, List.getElem_cons_succ, List.getElem_cons_zero]
                refine wpAnyH_take (i := 9) (v := ?_) rfl (by kernel_rfl) (by kernel_rfl) (by kernel_rfl) (fun _ _ _ h => h) (Or.inl ⟨by rfl, ?_⟩) (by assumption) ?_
                rotate_left
                · intro w' hSw
                  go_simp
                  try with_reducible rfl
                try simp only [Act.put, List.setIfInBounds_toArray, List.set_cons_zero, List.set_cons_succ, List.getElem_toArray, List.getElem_cons_succ, List.getElem_cons_zero]
                refine wpAnyH_take (i := 10) (v := ?_) rfl (by kernel_rfl) (by kernel_rfl) (by kernel_rfl) (fun _ _ _ h => h) (Or.inl ⟨by rfl, ?_⟩) (by assumption) ?_
                rotate_left
                · intro w' hSw
                  go_simp
                  try with_reducible rfl
                try simp only [Act.put, List.setIfInBounds_toArray, List.set_cons_zero, List.set_cons_succ, List.getElem_toArray, List.getElem_cons_succ, List.getElem_cons_zero]
                refine wpAnyH_take (i := 11) (v := ?_) rfl (by kernel_rfl) (by kernel_rfl) (by kernel_rfl) (fun _ _ _ h => h) (Or.inl ⟨by rfl, ?_⟩) (by assumption) ?_
                rotate_left
                · intro w' hSw
                  go_simp
                  try with_reducible rfl
                try simp only [Act.put, List.setIfInBounds_toArray, List.set_cons_zero, List.set_cons_succ, List.getElem_toArray, List.getElem_cons_succ, List.getElem_cons_zero]
                refine wpAnyH_take (i := 12) (v := ?_) rfl (by kernel_rfl) (by kernel_rfl) (by kernel_rfl) (fun _ _ _ h => h) (Or.inl ⟨by rfl, ?_⟩) (by assumption) ?_
                rotate_left
                · intro w' hSw
                  go_simp
                  try with_reducible rfl
                try simp only [Act.put, List.setIfInBounds_toArray, List.set_cons_zero, List.set_cons_succ, List.getElem_toArray, List.getElem_cons_succ, List.getElem_cons_zero]
                refine wpAnyH_take (i := 13) (v := ?_) rfl (by kernel_rfl) (by kernel_rfl) (by kernel_rfl) (fun _ _ _ h => h) (Or.inl ⟨by rfl, ?_⟩) (by assumption) ?_
                rotate_left
                · intro w' hSw
                  go_simp
                  try with_reducible rfl
                try simp only [Act.put, List.setIfInBounds_toArray, List.set_cons_zero, List.set_cons_succ, List.getElem_toArray, List.getElem_cons_succ, List.getElem_cons_zero]
                refine wpAnyH_ready (rs := [14]) (by kernel_rfl) (by simp) ?_
                refine AllReadyH.cons rfl (fun K hK => ?_) AllReadyH.nil
                go_simp
                refine ((by have h := HE.out w8.drew g t _ (ff0 HF8.out (Fr.drew w8 (fun _ => False))) (HT8.out.kept (Fr.drew w8 (fun _ => False))) ⟨(m : Int), (cx : Int), (LN : Int), (CN : Int), cut s a b⟩ hclb; unfold EditR edC at h; rw [HEB.out] at h; exact h : Calls _ _ _ _ _)).mono ?_
                rintro e w9 ⟨rfl, ht9, hf9⟩
                refine hK.out _ _ (hHeld.trans hf9 (fun _ _ h => h) (fun _ _ h => h)) (fun hHeld2 => ?_)
                clear hK K hHeld
                rename_i hHeld2
                have hHeld := hHeld2
                clear hHeld2
                have HL9 := Lib.hid (lines_far (HL8.out.kept (Fr.drew w8 (fun _ => False))) (HT8.out.kept (Fr.drew w8 (fun _ => False))) hf9)
                have HF9 := Lib.hid (fr_tab (ff0 HF8.out (Fr.drew w8 (fun _ => False))) hf9 HG.out)
                have HT9 := Lib.hid ht9
                clear ht9 hf9
                try dsimp only
                refine wpAnyH_take (i := 15) (v := ?_) rfl (by kernel_rfl) (by kernel_rfl) (by kernel_rfl) (fun _ _ _ h => h) (Or.inl ⟨by rfl, ?_⟩) (by assumption) ?_
                rotate_left
                · intro w' hSw
                  go_simp
                  try with_reducible rfl
                try simp only [Act.put, List.setIfInBounds_toArray, List.set_cons_zero, List.set_cons_succ, List.getElem_toArray, List.getElem_cons_succ, List.getElem_cons_zero]
                refine wpAnyH_done (by kernel_rfl) ?_ _
                clear hHeld
                have HX9 := Lib.hid (tText_any HT9.out)
                go_wp2_with fail
                refine HX9.out.mono ?_
                rintro e w10 ⟨rfl, hf10⟩
                have HL10 := Lib.hid (HL9.out.kept hf10)
                have HLi10 := Lib.hid (tLines_any (HT9.out.kept hf10))
                have HF10 := Lib.hid (ff0 HF9.out hf10)
                rw [← hL] at HLi10
                clear hf10
                go_wp2_with fail
                refine HLi10.out.mono ?_
                rintro e w11 ⟨A11, k11, rfl, hl11, hf11⟩
                have HS11 := Lib.hid (same_any L A11 A4 k11 k4 w11 hl11 (HL10.out.kept hf11) (by omega))
                rw [hN] at HS11 ⊢
                have HF11 := Lib.hid (ff0 HF10.out hf11)
                clear hl11 hf11
                go_wp2_with fail
                refine HS11.out.mono ?_
                rintro e w12 ⟨rfl, hf12⟩
                have HF12 := Lib.hid (ff0 HF11.out hf12)
                clear hf12
                go_wp2_with fail
                have HA := Lib.hid (HW.out _ HF12.out)
                refine HA.out.mono ?_
                rintro e wz ⟨rfl, hfz⟩
                have HFZ := Lib.hid (ff0 HF12.out hfz)
                clear hfz
                go_wp2_with fail
                go_ret
                exact ⟨rfl, HFZ.out⟩
    · obtain ⟨rfl, hf3⟩ := new_great hn3 hfit
      have HF3 := Lib.hid (ff0 HF2.out hf3)
      clear hn3 hf3 hfit
      go_wp2_with fail
      have HA := Lib.hid (HW.out _ HF3.out)
      refine HA.out.mono ?_
      rintro e wz ⟨rfl, hfz⟩
      have HFZ := Lib.hid (ff0 HF3.out hfz)
      clear hfz
      go_wp2_with fail
      go_ret
      exact ⟨rfl, HFZ.out⟩
  · have HLt := Lib.hid (fun (W : World) => HL.out W false (by simp [hx]))
    unfold edV edC at *
    clear hw hs he HL hx
    go_enter Tryz.func7, Tryz.ntmps7
    go_wp2_with fail
    have HLt1 := Lib.hid (HLt.out (w.alloc (.cells #[intV l1, intV c1, intV l2, intV c2, strV es] 37)))
    rw [show (w.alloc (.cells #[intV l1, intV c1, intV l2, intV c2, strV es] 37)).heap.size = w.heap.size + 1 by simp] at HLt1
    refine HLt1.out.mono ?_
    rintro e w2 ⟨rfl, hf2⟩
    have hf12 := ff0 (Fr.new (w.alloc (.cells #[intV l1, intV c1, intV l2, intV c2, strV es] 37)) (.cells #[intV l1, intV c1, intV l2, intV c2, strV es] 37) (fun _ => False)) hf2
    have HB2 := Lib.hid (hf12.blk (Blk.made w 37 #[intV l1, intV c1, intV l2, intV c2, strV es]) (fun h => h))
    have HF2 := Lib.hid (ff0 (Fr.new w (.cells #[intV l1, intV c1, intV l2, intV c2, strV es] 37) (fun _ => False)) hf12)
    clear hf2 hf12 HLt1
    go_wp2_with fail
    have HA := Lib.hid (HW.out _ HF2.out)
    refine HA.out.mono ?_
    rintro e wz ⟨rfl, hfz⟩
    have HFZ := Lib.hid (ff0 HF2.out hfz)
    clear hfz
    go_wp2_with fail
    go_ret
    exact ⟨rfl, HFZ.out⟩
end Go.Proofs.YtodcnbejnchmhaaGreatDoor
namespace Go.Proofs.YtodcnbejnchmhaaGreatDoor
open Go.Rope hiding Bs
open Go.RowKit Go.Mem Go.Lin Go.Dcm

theorem res_tdoc {w : World} {q : Nat} {cs : Array Value} (hs : cs.size = 4) (hb : Blk w q 57 cs) (tmps : Array Value) (hp : tmps.getD 2 undef = .pointer (some ⟨q, 0, none⟩)) : (results Tryz.f23 tmps).run Tryz.prog w = .ok (.agg cs) w :=
  results_cell_row (P := Tryz.prog) (fn := Tryz.f23) (p := 2) (ty := 57) rfl tmps _ q 57 cs (0, 0) _ hp hb Tryz.underlying57 rfl (by rw [hs]; exact infoDoc)
/-- Doc, once kept is known -/
theorem tdoc_of {w : World} (v : Value) (L : List LineL) (hl : L.length ≤ 40000) (HK : RowKit.Hid (∀ W, Fr w W (fun _ => False) → Calls Tryz.prog 27 #[v] W fun e w' => ∃ A c, e = .returned (.slice A L.length c) ∧ LinesAt w' A L ∧ Fr W w' (fun _ => False))) : Calls Tryz.prog 23 #[v] w (DocPost 100 101 102 w (ofD L)) := by
  have hf0 := Fr.new w (.cells #[.slice none 0 0, .slice none 0 0, .slice none 0 0, .slice none 0 0] 57) (fun _ => False)
  have HB := Lib.hid (Blk.made w 57 #[.slice none 0 0, .slice none 0 0, .slice none 0 0, .slice none 0 0])
  have HF0 := Lib.hid hf0
  have HK0 := Lib.hid (HK.out _ hf0)
  have HD := Lib.hid (fun (W : World) (A : Option Addr) (c : Nat) (h : LinesAt W A L) => dOf_any L A c W h hl)
  clear hf0 HK
  go_enter Tryz.func23, Tryz.ntmps23
  go_wp2_with fail
  refine HK0.out.mono ?_
  rintro e w2 ⟨A, c, rfl, hl2, hf2⟩
  have HD2 := Lib.hid (HD.out w2 A c hl2)
  have HB2 := Lib.hid (hf2.blk HB.out (fun h => h))
  have HF2 := Lib.hid (ff0 HF0.out hf2)
  clear hl2 hf2
  go_wp2_with fail
  refine HD2.out.mono ?_
  rintro e w3 ⟨vr, vz, vl, vd, rfl, hd3, hf3⟩
  have hws := HF2.out.size
  have HD3 := Lib.hid (doc_base hd3 hws)
  have HB3 := Lib.hid (hf3.blk HB2.out (fun h => h))
  have HF3 := Lib.hid (ff0 HF2.out hf3)
  clear hd3 hf3
  go_wp2_with (
    (refine wpList_store_blk 57 _ _ w.heap.size 0 57 _ #[vr, vz, vl, vd] #[vr, vz, vl, vd] (by rfl) rfl rfl rfl rfl HB3.out infoDoc (doc_one HD3.out) (show 0 + 4 ≤ 4 by decide) rfl ?_
     intro w9 hf9 hb9
     have HE9 := Lib.hid hb9
     have HF9 := Lib.hid hf9
     clear hf9 hb9))
  (try simp only [Exit.inBlock, Exit.then])
  exact bodyPost_ret (res_tdoc rfl HE9.out _ rfl) rfl ⟨vr, vz, vl, vd, rfl, doc_far HD3.out HF9.out HB3.out, HF3.out.fresh HF9.out (fun i e => by have e : i = w.heap.size := e; omega)⟩
theorem tDoc_any {w : World} {g : Nat} {l : Bs} {n : Int} (h : TabAt w g l n) : Calls Tryz.prog 23 #[pT g] w (DocPost 100 101 102 w (ofD (saysD l))) := by
  have hfit := h.fits.2
  have hlen := says_len l
  refine tdoc_of _ (saysD l) (by omega) (Lib.hid fun W f => (kept_any (h.kept f)).mono ?_)
  rintro e w' ⟨b, rfl, hb, hf⟩
  rw [← hlen]
  exact ⟨_, _, rfl, lines_blk hb, hf⟩
end Go.Proofs.YtodcnbejnchmhaaGreatDoor
namespace Go.Proofs.YtodcnbejnchmhaaGreatDoor
open Go.RowKit Go.Mem Go.Lin Go.Dcm

/-- a document in a variable of its own -/
structure DVar (tr tz tl td : TypeId) (w : World) (q : Nat) (d : DocL) (vr vz vl vd : Value) : Prop where
  b : Blk w q td #[vr, vz, vl, vd]
  d : DocAt tr tz tl w 0 vr vz vl vd d
theorem DVar.kept {tr tz tl td : TypeId} {w w' : World} {q : Nat} {d : DocL} {vr vz vl vd : Value} (h : DVar tr tz tl td w q d vr vz vl vd) (hf : Fr w w' (fun _ => False)) : DVar tr tz tl td w' q d vr vz vl vd := ⟨hf.blk h.b (fun h => h), h.d.kept hf⟩
theorem dvar_new {tr tz tl : TypeId} (td : TypeId) {w : World} {B : Nat} {d : DocL} {vr vz vl vd : Value} (h : DocAt tr tz tl w B vr vz vl vd d) : DVar tr tz tl td (w.alloc (.cells #[vr, vz, vl, vd] td)) w.heap.size d vr vz vl vd :=
  ⟨Blk.made w td _, (doc_base h (Nat.zero_le _)).kept (Fr.new _ _ _)⟩
/-- the four slices -/
theorem doc_slices {tr tz tl : TypeId} {w : World} {B : Nat} {d : DocL} {vr vz vl vd : Value} (h : DocAt tr tz tl w B vr vz vl vd d) : ∃ Ar cr Az cz Al cl Ad cd, vr = .slice Ar d.rules.length cr ∧ vz = .slice Az d.zones.length cz ∧ vl = .slice Al d.links.length cl ∧ vd = .slice Ad d.diags.length cd := by
  obtain ⟨A1, c1, e1⟩ := h.r.slice
  obtain ⟨zv, hz, ho, -⟩ := h.z
  obtain ⟨A2, c2, e2⟩ := ho.slice
  obtain ⟨A3, c3, e3⟩ := h.l.slice
  obtain ⟨A4, c4, e4⟩ := h.g.slice
  have hl : zv.length = d.zones.length := by rw [← hz, List.length_map]
  rw [hl] at e2
  exact ⟨A1, c1, A2, c2, A3, c3, A4, c4, e1, e2, e3, e4⟩
/-- a zone of a document: its cells, its slices -/
theorem doc_zone {tr tz tl : TypeId} {w : World} {B : Nat} {d : DocL} {vr vl vd : Value} {Az : Option Addr} {nz cz : Nat} (h : DocAt tr tz tl w B vr (.slice Az nz cz) vl vd d) {i : Nat} (hi : i < d.zones.length) : ∃ bz off Ae ce An cn, Az = some ⟨bz, off, none⟩ ∧
    w.cell? ⟨bz, off + i * 3, none⟩ = some (strV d.zones[i].name) ∧ w.cell? ⟨bz, off + i * 3 + 1, none⟩ = some (.slice Ae d.zones[i].eras.length ce) ∧ w.cell? ⟨bz, off + i * 3 + 2, none⟩ = some (.slice An d.zones[i].lines.length cn) ∧
    Rd w 13 Ae d.zones[i].eras.length (d.zones[i].eras.flatMap eraL) ∧ Rd w 1 An d.zones[i].lines.length (d.zones[i].lines.flatMap intL) := by
  obtain ⟨zv, hz, ho, hall⟩ := h.z
  have hl : zv.length = d.zones.length := by rw [← hz, List.length_map]
  have hiz : i < zv.length := by omega
  have e : d.zones[i] = zv[i].1 := by simp only [← hz, List.getElem_map]
  obtain ⟨A, c, e1, -, -, hrd⟩ := ho.rd
  injection e1 with e1
  subst e1
  obtain ⟨bz, off, rfl, hc⟩ := rows_at zoneL_len hrd (List.getElem?_eq_getElem hiz)
  have hza := hall zv[i] (List.getElem_mem hiz)
  obtain ⟨Ae, ce, he, -, -, hre⟩ := hza.e.rd
  obtain ⟨An, cn, hn, -, -, hrn⟩ := hza.l.rd
  have k0 := hc 0 (by omega)
  have k1 := hc 1 (by omega)
  have k2 := hc 2 (by omega)
  simp only [zoneL, List.getElem?_cons_zero, List.getElem?_cons_succ, he, hn] at k0 k1 k2
  rw [Nat.add_zero] at k0
  rw [e]
  exact ⟨bz, off, Ae, ce, An, cn, rfl, k0, k1, k2, hre, hrn⟩
theorem int_cell {w : World} {A : Option Addr} {l : List Int} (h : Rd w 1 A l.length (l.flatMap intL)) {k : Nat} (hk : k < l.length) : ∃ b off, A = some ⟨b, off, none⟩ ∧ w.cell? ⟨b, off + k, none⟩ = some (intV l[k]) := by
  obtain ⟨b, off, e, hc⟩ := rows_at intL_len h (List.getElem?_eq_getElem hk)
  have := hc 0 (by omega)
  rw [Nat.mul_one, Nat.add_zero] at this
  exact ⟨b, off, e, this⟩
def TrueR (w : World) (e : Ending) (w' : World) : Prop := e = .returned (.bool true) ∧ Fr w w' (fun _ => False)
end Go.Proofs.YtodcnbejnchmhaaGreatDoor
namespace Go.Proofs.YtodcnbejnchmhaaGreatDoor
open Go.RowKit Go.Mem Go.Lin Go.Dcm
/- a document's parts are the same as themselves -/
theorem eq_diag (d : Nat) (x : DiagL) (w : World) : (Op.equalIn (d + 2) 125 (.agg (diagL x).toArray) (.agg (diagL x).toArray)).run Tryz.prog w = .ok true w := by
  have hS : Tryz.prog.underlying 125 = some (.struct (Tryz.prog.fieldsOf 125)) := by kernel_rfl
  have hp : Tryz.prog.stoodInHeld 125 = false := by kernel_rfl
  rw [run_equalIn_agg w (d + 1) 125 _ _ hS hp]
  simp only [Program.fieldsOf, Tryz.underlying125]
  refine Eq.trans (eqF_cons (x := strV []) (y := strV []) (by decide) (by kernel_rfl) (by kernel_rfl) (eqS d [] [] w) (eqF_cons (x := intV x.line) (y := intV x.line) (by decide) (by kernel_rfl) (by kernel_rfl) (eqI d x.line x.line w) (eqF_cons (x := intV x.col) (y := intV x.col) (by decide) (by kernel_rfl) (by kernel_rfl) (eqI d x.col x.col w) (eqF_cons (x := intV x.k) (y := intV x.k) (by decide) (by kernel_rfl) (by kernel_rfl) (eqK d x.k x.k w) eqF_nil)))) ?_
  simp
theorem eq_rlink (d : Nat) (x : LinkL) (w : World) : (Op.equalIn (d + 2) 99 (.agg (linkL x).toArray) (.agg (linkL x).toArray)).run Tryz.prog w = .ok true w := by
  have hS : Tryz.prog.underlying 99 = some (.struct (Tryz.prog.fieldsOf 99)) := by kernel_rfl
  have hp : Tryz.prog.stoodInHeld 99 = false := by kernel_rfl
  rw [run_equalIn_agg w (d + 1) 99 _ _ hS hp]
  simp only [Program.fieldsOf, Tryz.underlying99]
  refine Eq.trans (eqF_cons (x := strV x.target) (y := strV x.target) (by decide) (by kernel_rfl) (by kernel_rfl) (eqS d x.target x.target w) (eqF_cons (x := strV x.name) (y := strV x.name) (by decide) (by kernel_rfl) (by kernel_rfl) (eqS d x.name x.name w) (eqF_cons (x := intV x.line) (y := intV x.line) (by decide) (by kernel_rfl) (by kernel_rfl) (eqI d x.line x.line w) eqF_nil))) ?_
  simp
theorem eq_rrule (d : Nat) (x : RuleL × Int) (w : World) : (Op.equalIn (d + 4) 91 (.agg (ruleL x).toArray) (.agg (ruleL x).toArray)).run Tryz.prog w = .ok true w := by
  have hS : Tryz.prog.underlying 91 = some (.struct (Tryz.prog.fieldsOf 91)) := by kernel_rfl
  have hp : Tryz.prog.stoodInHeld 91 = false := by kernel_rfl
  rw [run_equalIn_agg w (d + 3) 91 _ _ hS hp]
  simp only [Program.fieldsOf, Tryz.underlying91]
  refine Eq.trans (eqF_cons (x := ruleV x.1) (y := ruleV x.1) (by decide) (by kernel_rfl) (by kernel_rfl) (eq_rule d x.1 x.1 w) (eqF_cons (x := intV x.2) (y := intV x.2) (by decide) (by kernel_rfl) (by kernel_rfl) (eqI (d + 2) x.2 x.2 w) eqF_nil)) ?_
  simp
theorem same_diag (x : DiagL) : ∀ w, (binOp .neq 125 (.agg (diagL x).toArray) (.agg (diagL x).toArray)).run Tryz.prog w = .ok (.bool false) w := fun w => by
  rw [run_neq_struct, show (10000 : Nat) = 9998 + 2 from rfl, eq_diag 9998 x w]
  rfl
theorem same_rlink (x : LinkL) : ∀ w, (binOp .neq 99 (.agg (linkL x).toArray) (.agg (linkL x).toArray)).run Tryz.prog w = .ok (.bool false) w := fun w => by
  rw [run_neq_struct, show (10000 : Nat) = 9998 + 2 from rfl, eq_rlink 9998 x w]
  rfl
theorem same_rrule (x : RuleL × Int) : ∀ w, (binOp .neq 91 (.agg (ruleL x).toArray) (.agg (ruleL x).toArray)).run Tryz.prog w = .ok (.bool false) w := fun w => by
  rw [run_neq_struct, show (10000 : Nat) = 9996 + 4 from rfl, eq_rrule 9996 x w]
  rfl
theorem guard_diag (x y : Operand) (cs ds : Array Value) : ∀ w, (eqGuard .neq 125 x y (.agg cs) (.agg ds)).run Tryz.prog w = .ok () w := fun _ => by kernel_rfl
theorem guard_rlink (x y : Operand) (cs ds : Array Value) : ∀ w, (eqGuard .neq 99 x y (.agg cs) (.agg ds)).run Tryz.prog w = .ok () w := fun _ => by kernel_rfl
theorem guard_rrule (x y : Operand) (cs ds : Array Value) : ∀ w, (eqGuard .neq 91 x y (.agg cs) (.agg ds)).run Tryz.prog w = .ok () w := fun _ => by kernel_rfl
/- a struct of a row, as the walk loads it -/
theorem elem_at {X : Type} {f : X → List Value} {k : Nat} (hf : ∀ x, (f x).length = k) {w : World} {A : Option Addr} {l : List X} (h : Rd w k A l.length (l.flatMap f)) {i : Nat} (hi : i < l.length) : ∃ b off, A = some ⟨b, off, none⟩ ∧ ∀ j, j < (f l[i]).toArray.size → w.cell? ⟨b, off + i * k + j, none⟩ = (f l[i]).toArray[j]? := by
  obtain ⟨b, off, e, hc⟩ := rows_at hf h (List.getElem?_eq_getElem hi)
  refine ⟨b, off, e, fun j hj => ?_⟩
  rw [hc j (by simpa [hf] using hj)]
  simp
end Go.Proofs.YtodcnbejnchmhaaGreatDoor
namespace Go.Mem
open Go.RowKit
section
variable {P : Program} {ops : Array Oper} {rest : List Oper} {o : Oper} {a : Act} {w : World} {Q : Exit → Act → World → Prop}
end
end Go.Mem
namespace Go.Proofs.YtodcnbejnchmhaaGreatDoor
open Go.RowKit Go.Mem Go.Lin Go.Dcm
namespace R
/-- v owns a row of zones, the last one's rows behind all others' -/
def ZsAt (w : World) (base : Nat) (v : Value) (zs : List ZoneL) : Prop := ∃ (zv : List ZV) (M : Nat), zv.map (·.1) = zs ∧ Own w base 95 3 zoneL v zv ∧ (∀ x ∈ zv, ZAt w base x) ∧ base ≤ M ∧ M ≤ w.heap.size ∧
  ∀ a x, zv = a ++ [x] → ZAt w M x ∧ ∀ y ∈ a, Under M y
theorem ZsAt.fr {w w' : World} {S : Nat → Prop} {base : Nat} {v : Value} {zs : List ZoneL} (h : ZsAt w base v zs) (hf : Fr w w' S) (h0 : ∀ k cs, base ≤ k → Blk w k 95 cs → ¬ S k) (h1 : ∀ k cs, base ≤ k → Blk w k 69 cs → ¬ S k) (h2 : ∀ k cs, base ≤ k → Blk w k 3 cs → ¬ S k) : ZsAt w' base v zs := by
  obtain ⟨zv, M, e, ho, hz, hb, hM, hl⟩ := h
  refine ⟨zv, M, e, ho.fr hf fun g hg => ?_, fun x hx => (hz x hx).fr hf h1 h2, hb, Nat.le_trans hM hf.size, fun a x ex => ?_⟩
  · obtain ⟨hb, -, cs, hk⟩ := own_block ho hg
    exact h0 g cs hb hk
  · obtain ⟨k1, k2⟩ := hl a x ex
    exact ⟨k1.fr hf (fun k cs hk => h1 k cs (by omega)) (fun k cs hk => h2 k cs (by omega)), k2⟩
theorem zs_tb {w w' : World} {B : Nat} {e : TypeId} {v : Value} {zs : List ZoneL} (h : ZsAt w B v zs) (hf : Fr w w' (TB B e w)) (h0 : 95 ≠ e) (h1 : 69 ≠ e) (h2 : 3 ≠ e) : ZsAt w' B v zs :=
  h.fr hf (fun _ _ _ hb hx => h0 (blk_same hb hx.2.choose_spec)) (fun _ _ _ hb hx => h1 (blk_same hb hx.2.choose_spec)) (fun _ _ _ hb hx => h2 (blk_same hb hx.2.choose_spec))
/-- the rows of a state -/
structure GR (w : World) (B : Nat) (vr vz vl vd : Value) (s : StL) : Prop where
  r : Own w B 91 12 ruleL vr s.rules
  z : ZsAt w B vz s.zones
  l : Own w B 99 3 linkL vl s.links
  d : Own w B 125 4 diagL vd s.diags
theorem GR.kept {w w' : World} {B : Nat} {vr vz vl vd : Value} {s : StL} (h : GR w B vr vz vl vd s) (hf : Fr w w' (fun _ => False)) : GR w' B vr vz vl vd s :=
  ⟨h.r.kept hf, h.z.fr hf (fun _ _ _ _ h => h) (fun _ _ _ _ h => h) (fun _ _ _ _ h => h), h.l.kept hf, h.d.kept hf⟩
theorem GR.base {w : World} {B : Nat} {vr vz vl vd : Value} {s : StL} (h : GR w B vr vz vl vd s) : B ≤ w.heap.size := by
  obtain ⟨zv, M, -, -, -, h1, h2, -⟩ := h.z
  omega
/-- a zone more -/
theorem zs_snoc {w w9 : World} {B : Nat} {v : Value} {zv : List ZV} {z : ZV} (hall : ∀ y ∈ zv, ZAt w B y) (hf : Fr w w9 (TB B 95 w)) (hown : Own w9 B 95 3 zoneL v (zv ++ [z])) (hz : ZAt w9 w.heap.size z) (hB : B ≤ w.heap.size) : ZsAt w9 B v (zv.map (·.1) ++ [z.1]) := by
  refine ⟨zv ++ [z], w.heap.size, by simp, hown, fun y hy => ?_, hB, hf.size, fun a y e => ?_⟩
  · rcases List.mem_append.1 hy with hy | hy
    · exact ⟨far_tb (hall y hy).e hf (by decide), far_tb (hall y hy).l hf (by decide)⟩
    · have hy : y = z := by simpa using hy
      subst hy
      exact ⟨own_base hz.e hB, own_base hz.l hB⟩
  · obtain ⟨rfl, e2⟩ := List.append_inj' e rfl
    have e2 : z = y := by simpa using e2
    subst e2
    exact ⟨hz, fun y hy => ⟨fun k hk => (own_block (hall y hy).e hk).2.1, fun k hk => (own_block (hall y hy).l hk).2.1⟩⟩
/-- a zone's row of eras, or of lines, is turned -/
theorem zrow_put {w : World} {B bz n cap : Nat} {a : List ZV} {y z : ZV} {v : Value} (j : Nat) (h : Own w B 95 3 zoneL (.slice (some ⟨bz, 0, none⟩) n cap) (a ++ [y])) (hn : n = (a ++ [y]).length) (hj : (zoneL y).set j v = zoneL z) : Own (w.setCell ⟨bz, a.length * 3 + j, none⟩ v) B 95 3 zoneL (.slice (some ⟨bz, 0, none⟩) n cap) (a ++ [z]) := by
  subst hn
  have h1 := (World.ownsRow.stored h (a.length * 3 + j) v).1
  have e : ((a ++ [y]).flatMap zoneL).set (a.length * 3 + j) v = (a ++ [z]).flatMap zoneL := by
    rw [List.flatMap_append, List.flatMap_append, ← zrow_len, List.set_append_right _ _ (Nat.le_add_right _ _), Nat.add_sub_cancel_left]
    rw [show [y].flatMap zoneL = zoneL y by simp, show [z].flatMap zoneL = zoneL z by simp, hj]
  rw [e] at h1
  show World.ownsRow _ _ _ _ _ (a ++ [z]).length _
  simpa using h1
theorem zs_again {w : World} {B M : Nat} {v : Value} {a : List ZV} {z : ZV} (hoz : Own w B 95 3 zoneL v (a ++ [z])) (ha : ∀ y ∈ a, ZAt w B y) (hu : ∀ y ∈ a, Under M y) (hz : ZAt w M z) (hB : B ≤ M) (hM : M ≤ w.heap.size) : ZsAt w B v (a.map (·.1) ++ [z.1]) := by
  refine ⟨a ++ [z], M, by simp, hoz, fun y hy => ?_, hB, hM, fun b y e => ?_⟩
  · rcases List.mem_append.1 hy with hy | hy
    · exact ha y hy
    · have hy : y = z := by simpa using hy
      subst hy
      exact ⟨own_base hz.e hB, own_base hz.l hB⟩
  · obtain ⟨rfl, e2⟩ := List.append_inj' e rfl
    have e2 : z = y := by simpa using e2
    subst e2
    exact ⟨hz, hu⟩
/-- what is known where an era is told of an open zone -/
structure OpenZ (w : World) (B M bz cap : Nat) (a : List ZV) (y : ZV) (vr vl vd : Value) (s : StL) : Prop where
  oz : Own w B 95 3 zoneL (.slice (some ⟨bz, 0, none⟩) (a.length + 1) cap) (a ++ [y])
  ha : ∀ z ∈ a, ZAt w B z
  hu : ∀ z ∈ a, Under M z
  hy : ZAt w M y
  hB : B ≤ M
  hM : M ≤ w.heap.size
  r : Own w B 91 12 ruleL vr s.rules
  l : Own w B 99 3 linkL vl s.links
  d : Own w B 125 4 diagL vd s.diags
theorem OpenZ.kept {w w' : World} {B M bz cap : Nat} {a : List ZV} {y : ZV} {vr vl vd : Value} {s : StL} (h : OpenZ w B M bz cap a y vr vl vd s) (hf : Fr w w' (fun _ => False)) : OpenZ w' B M bz cap a y vr vl vd s :=
  ⟨h.oz.kept hf, fun z hz => (h.ha z hz).kept hf, h.hu, h.hy.kept hf, h.hB, Nat.le_trans h.hM hf.size, h.r.kept hf, h.l.kept hf, h.d.kept hf⟩
theorem open_z {w : World} {B : Nat} {vr vz vl vd : Value} {s : StL} {z : ZoneL} (h : GR w B vr vz vl vd s) (hc : s.cur = some z) : ∃ M bz cap a y, vz = .slice (some ⟨bz, 0, none⟩) (a.length + 1) cap ∧ y.1 = z ∧ a.map (·.1) = s.done ∧ OpenZ w B M bz cap a y vr vl vd s := by
  obtain ⟨zv, M, e1, h1, h2, h3, h4, h5⟩ := h.z
  have e2 : s.zones = s.done ++ [z] := by unfold StL.zones; rw [hc]; rfl
  rw [e2] at e1
  obtain ⟨a, y, rfl, ea, ey⟩ : ∃ a y, zv = a ++ [y] ∧ a.map (·.1) = s.done ∧ y.1 = z := by
    rcases List.eq_nil_or_concat zv with rfl | ⟨a, y, rfl⟩
    · simp at e1
    · simp only [List.concat_eq_append, List.map_append] at e1
      obtain ⟨e3, e4⟩ := List.append_inj' e1 rfl
      exact ⟨a, y, List.concat_eq_append, e3, by simpa using e4⟩
  obtain ⟨k1, k2⟩ := h5 a y rfl
  obtain ⟨A, c, rfl, -, -, -, hA, hA2⟩ := own_rd h1
  cases A with
  | none => exact absurd (hA rfl).1 (by simp)
  | some A =>
    obtain ⟨bz, rfl, -⟩ := hA2 A rfl
    exact ⟨M, bz, c, a, y, by simp, ey, ea, by simpa using h1, fun z hz => h2 z (by simp [hz]), k2, k1, h3, h4, h.r, h.l, h.d⟩
theorem OpenZ.gr {w : World} {B M bz cap : Nat} {a : List ZV} {y : ZV} {vr vl vd : Value} {s t : StL} (h : OpenZ w B M bz cap a y vr vl vd s) (hz : t.zones = a.map (·.1) ++ [y.1]) (h1 : t.rules = s.rules) (h2 : t.links = s.links) (h3 : t.diags = s.diags) : GR w B vr (.slice (some ⟨bz, 0, none⟩) (a.length + 1) cap) vl vd t :=
  ⟨h1 ▸ h.r, hz ▸ zs_again h.oz h.ha h.hu h.hy h.hB h.hM, h2 ▸ h.l, h3 ▸ h.d⟩
theorem OpenZ.cells {w : World} {B M bz cap : Nat} {a : List ZV} {y : ZV} {vr vl vd : Value} {s : StL} (h : OpenZ w B M bz cap a y vr vl vd s) : ∃ cs : Array Value, B ≤ bz ∧ Blk w bz 95 cs ∧ a.length * 3 + 2 < cs.size ∧ cs[a.length * 3 + 1]? = some y.2.1 ∧ cs[a.length * 3 + 2]? = some y.2.2 := by
  obtain ⟨cs, h1, h2, h3, h4⟩ := own_blk h.oz (by simp)
  have hl := zrow_len a
  have hx : ∀ j, j < 3 → ((a ++ [y]).flatMap zoneL)[a.length * 3 + j]? = (zoneL y)[j]? := fun j hj => flat_get zoneL 3 zoneL_len (by simp) j hj
  refine ⟨cs, h1, h2, ?_, h4 _ _ (hx 1 (by omega)), h4 _ _ (hx 2 (by omega))⟩
  rw [List.length_append] at h3
  simp only [List.length_cons, List.length_nil] at h3
  omega
theorem zs_plain {w : World} {B : Nat} {v : Value} {zs : List ZoneL} (h : ZsAt w B v zs) : ∃ zv : List ZV, zv.map (·.1) = zs ∧ Own w B 95 3 zoneL v zv ∧ ∀ x ∈ zv, ZAt w B x := by
  obtain ⟨zv, M, h1, h2, h3, -⟩ := h
  exact ⟨zv, h1, h2, h3⟩
theorem doc_of {w : World} {a B : Nat} {vr vz vl vd : Value} {s : StL} (h : GR w B vr vz vl vd s) (hb : a ≤ B) : DocAt 91 95 99 w a vr vz vl vd s.doc := by
  obtain ⟨zv, h1, h2, h3⟩ := zs_plain h.z
  exact ⟨own_base h.r hb, ⟨zv, h1, own_base h2 hb, fun x hx => zat_base (h3 x hx) hb⟩, own_base h.l hb, own_base h.d hb⟩
/-- a document stays where a block of documents turns -/
theorem doc_far {w w' : World} {B q : Nat} {vr vz vl vd : Value} {d : DocL} {cs : Array Value} (h : DocAt 91 95 99 w B vr vz vl vd d) (hf : Fr w w' (fun i => i = q)) (hq : Blk w q 51 cs) : DocAt 91 95 99 w' B vr vz vl vd d := by
  obtain ⟨zv, h1, h2, h3⟩ := h.z
  have key : ∀ {X : Type} {b : Nat} {e : TypeId} {k : Nat} {f : X → List Value} {v : Value} {l : List X}, e ≠ 51 → Own w b e k f v l → Own w' b e k f v l := fun hne ho =>
    own_far ho hf fun i cs' _ hb e => by subst e; exact hne (blk_same hb hq)
  exact ⟨key (by decide) h.r, ⟨zv, h1, key (by decide) h2, fun x hx => ⟨key (by decide) (h3 x hx).e, key (by decide) (h3 x hx).l⟩⟩, key (by decide) h.l, key (by decide) h.g⟩
/-- the document at D holds the state s -/
def At (w : World) (D B : Nat) (s : StL) : Prop := D < B ∧ ∃ vr vz vl vd, Blk w D 51 #[vr, vz, vl, vd] ∧ GR w B vr vz vl vd s
theorem At.kept {w w' : World} {D B : Nat} {s : StL} (h : At w D B s) (hf : Fr w w' (fun _ => False)) : At w' D B s := by
  obtain ⟨h0, vr, vz, vl, vd, h1, h2⟩ := h
  exact ⟨h0, vr, vz, vl, vd, hf.blk h1 (fun h => h), h2.kept hf⟩
/-- only the block i turns, which is of another type than the rows -/
theorem GR.far {w w' : World} {B q : Nat} {e : TypeId} {cs : Array Value} {vr vz vl vd : Value} {s : StL} (h : GR w B vr vz vl vd s) (hf : Fr w w' (fun i => i = q)) (hq : Blk w q e cs) (h1 : 91 ≠ e) (h2 : 95 ≠ e) (h3 : 99 ≠ e) (h4 : 125 ≠ e) (h5 : 69 ≠ e) (h6 : 3 ≠ e) : GR w' B vr vz vl vd s := by
  have key : ∀ {X : Type} {b : Nat} {e' : TypeId} {k : Nat} {f : X → List Value} {v : Value} {l : List X}, e' ≠ e → Own w b e' k f v l → Own w' b e' k f v l := fun hne ho =>
    own_far ho hf fun i cs' _ hb e => by subst e; exact hne (blk_same hb hq)
  exact ⟨key h1 h.r, h.z.fr hf (fun i cs' _ hb e => by subst e; exact h2 (blk_same hb hq)) (fun i cs' _ hb e => by subst e; exact h5 (blk_same hb hq)) (fun i cs' _ hb e => by subst e; exact h6 (blk_same hb hq)), key h3 h.l, key h4 h.d⟩
end R
end Go.Proofs.YtodcnbejnchmhaaGreatDoor
