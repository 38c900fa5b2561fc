import Derived.Test.YtodcnbejnchmhaaGreatDoorYb31
import Derived.Test.YtodcnbejnchmhaaGreatDoorYb32
import Derived.Test.YtodcnbejnchmhaaGreatDoorYb35
namespace Go.Proofs.YtodcnbejnchmhaaGreatDoor
open Go.Rope hiding Bs
open Go.RowKit Go.Mem Go.Lin Go.Dcm

theorem doc_parts {tr tz tl : TypeId} {w : World} {B : Nat} {d : DocL} {vr vz vl vd : Value} (h : DocAt tr tz tl w B vr vz vl vd d) : ∃ zv : List ZV, zv.map (·.1) = d.zones ∧ Own w B tr 12 ruleL vr d.rules ∧ Own w B tz 3 zoneL vz zv ∧ (∀ x ∈ zv, ZAt w B x) ∧ Own w B tl 3 linkL vl d.links ∧ Own w B 125 4 diagL vd d.diags := by
  obtain ⟨zv, h1, h2, h3⟩ := h.z
  exact ⟨zv, h1, h.r, h2, h3, h.l, h.g⟩
/-- a document that is not too long -/
structure Lite (d : DocL) : Prop where
  r : d.rules.length ≤ 100000
  z : d.zones.length ≤ 100000
  l : d.links.length ≤ 100000
  g : d.diags.length ≤ 100000
  o : ∀ z ∈ d.zones, ZOk z
theorem lite_of (L : List LineL) (h : L.length ≤ 40000) : Lite (ofD L) := by
  have := sizes_of L
  exact ⟨by omega, by omega, by omega, by omega, zn_doc (l := L)⟩
/-- a document as the document's -/
def BackR (w : World) (d : DocL) (e : Ending) (w' : World) : Prop := ∃ br bz bl bd, e = .returned (.agg #[br, bz, bl, bd]) ∧ DocAt 91 95 99 w' 0 br bz bl bd d ∧ Fr w w' (fun _ => False)
theorem Back_doc {w : World} {B : Nat} {d : DocL} {vr vz vl vd : Value} (h : DocAt 100 101 102 w B vr vz vl vd d) (hl : Lite d) : Calls Tryz.prog 22 #[.agg #[vr, vz, vl, vd]] w (BackR w d) := by
  obtain ⟨zv, hzv, hr, hz, hall, hk, hg⟩ := doc_parts h
  refine (Back_any d vr vz vl vd _ w zv hzv hr hz hall hk hg hl.r hl.z hl.l).mono ?_
  rintro e w' ⟨br, bz, bl, rfl, hbr, hbz, hbl, hf⟩
  exact ⟨br, bz, bl, vd, rfl, ⟨own_base hbr (Nat.zero_le _), ⟨zv, hzv, own_base hbz (Nat.zero_le _), fun x hx => zat_base ((hall x hx).kept hf) (Nat.zero_le _)⟩, own_base hbl (Nat.zero_le _), own_base (hg.kept hf) (Nat.zero_le _)⟩, hf⟩
theorem Same_doc {w : World} {d : DocL} {ar az al ad br bz bl bd : Value} (ha : DocAt 91 95 99 w 0 ar az al ad d) (hb : DocAt 91 95 99 w 0 br bz bl bd d) (hl : Lite d) : Calls Tryz.prog 21 #[.agg #[ar, az, al, ad], .agg #[br, bz, bl, bd]] w (TrueR w) :=
  Same_any d ar az al ad br bz bl bd 0 0 w ha hb hl.r hl.z hl.l hl.g hl.o
set_option maxRecDepth 100000 in
set_option maxHeartbeats 12800000 in
theorem fresh_any (s : Bs) (l : List EdL) (A : Option Addr) (c : Nat) (w : World) (hr : EdsAt w A l) (hm : l.length ≤ maxLen) (he : ∀ e ∈ l, EdR e) (hw : LOk w) (hs : s.length ≤ maxLen) : Calls Tryz.prog 5 #[strV s, .slice A l.length c] w (TrueT w) := by
  have HW := Lib.hid (fun (W : World) (f : Fr w W (fun _ => False)) => alive11_any W (hw.fr f))
  have HL := Lib.hid (fun (x : Bool) (h : x = true ↔ LightE s l 1500) => Light_any s A c l 1500 w hr hs hm (fun e h => (he e h).s) (by decide) x h)
  by_cases hx : LightE s l 1500
  · have HLt := Lib.hid (HL.out true (by simp [hx]))
    have HN := Lib.hid (fun (W : World) (f : Fr w W (fun _ => False)) (t : Bs) (h : t.length ≤ 20100) => tNew_any t W (hw.fr f) h)
    have HP := Lib.hid (fun (W : World) (f : Fr w W (fun _ => False)) (t : Bs) (h : t.length ≤ 30000) => dcParse_any t W (hw.fr f) h)
    have HE := Lib.hid (fun (W : World) (g : Nat) (l : Bs) (n : Int) (f : Fr w W (fun _ => False)) (h : TabAt W g l n) (e : EdL) (he : e.s.length ≤ 20100) => tEdit_any h (hw.fr f) e he)
    have hx1 := hx.1
    have hx2 := hx.2.1
    have HX := Lib.hid hx.2.2
    have HR := Lib.hid hr
    clear hw hs he HL hr hx hm
    go_enter Tryz.func5, Tryz.ntmps5
    go_wp2_with fail
    refine HLt.out.mono ?_
    rintro e w2 ⟨rfl, hf2⟩
    have HF2 := Lib.hid hf2
    have HN2 := Lib.hid (HN.out w2 hf2 s (by omega))
    clear hf2 HLt
    go_wp2_with fail
    refine HN2.out.mono ?_
    rintro e w3 hn3
    by_cases hfit : Fits s
    · obtain ⟨g, rfl, hg, ht, hf3⟩ := new_fits hn3 hfit
      have HT3 := Lib.hid ht
      have HF3 := Lib.hid (ff0 HF2.out hf3)
      have HG := Lib.hid (Nat.le_trans HF2.out.size hg)
      have hn1 : (l.length : Int) ≤ 30 := by omega
      clear hn3 ht hf3 hg hfit HF2 HN2
      go_wp2_with fail
      go_loopg [7] l.length (fun k v7 wr => ∃ (m : Nat) (t : Bs) (n : Int), m + k = l.length ∧ v7 = intV (m : Int) ∧ TabAt wr g t n ∧ Fr w wr (fun _ => False))
      case atStart => exact ⟨0, s, _, by simp, rfl, HT3.out, HF3.out⟩
      case round =>
        obtain ⟨m, t, n, hmk, rfl, ht, hf⟩ := hrel
        have HT := Lib.hid ht
        have HF := Lib.hid hf
        by_cases hlt : m < l.length
        · obtain ⟨b, off, rfl, hc⟩ := (HR.out.kept hf).at_ hlt
          have hel := HX.out _ (List.getElem_mem hlt)
          obtain ⟨e, hee⟩ : ∃ e, l[m] = e := ⟨_, rfl⟩
          rw [hee] at hc hel
          have HC := Lib.hid hc
          have HOw := Lib.hid (Own_any e wr)
          have hi1 : (m : Int) < (l.length : Int) := by omega
          clear hc hee ht hf
          go_wp2_with (refine wpList_load_at 37 _ b (off + m * 5) (edC e) _ (by rfl) rfl rfl HC.out Tryz.underlying37 rfl infoRe1 ?_)
          refine HOw.out.mono ?_
          rintro e2 w4 ⟨rfl, hf4⟩
          have HE4 := Lib.hid (HE.out w4 g t n (ff0 HF.out hf4) (HT.out.kept hf4) e (by omega))
          have HF4 := Lib.hid (ff0 HF.out hf4)
          clear hf4
          go_wp2_with fail
          refine HE4.out.mono ?_
          rintro e5 w5 ⟨rfl, ht5, hf5⟩
          have HT5 := Lib.hid ht5
          have HF5 := Lib.hid (fr_tab HF4.out hf5 HG.out)
          clear ht5 hf5
          go_wp2_with fail
          go_roundg (l.length - (m + 1))
          case measure => omega
          case rel => exact ⟨m + 1, _, _, by omega, by go_num, HT5.out, HF5.out⟩
        · obtain rfl : m = l.length := by omega
          have hi1 : (l.length : Int) ≤ (l.length : Int) := Int.le_refl _
          have HX6 := Lib.hid (tText_any ht)
          have hfit := ht.fits
          have HFt := Lib.hid hfit
          have hlt9 := hfit.1
          have hsl : (saysD t).length ≤ 40000 := by rw [says_len]; have := hfit.2; omega
          have HLI := Lib.hid (lite_of (saysD t) hsl)
          obtain ⟨D, hD⟩ : ∃ D, ofD (saysD t) = D := ⟨_, rfl⟩
          have hD2 : ofD ((linesD t).map parseL) = D := hD
          rw [hD] at HLI
          have HD := Lib.hid hD
          have HP6 := Lib.hid (fun (W : World) (f : Fr w W (fun _ => False)) => HP.out W f t (by omega))
          rw [hD2] at HP6
          have HDc := Lib.hid (fun (W : World) (g : Nat) (n : Int) (h : TabAt W g t n) => tDoc_any h)
          rw [hD] at HDc
          obtain ⟨L, hL⟩ : ∃ L, saysD t = L := ⟨_, rfl⟩
          have HLn := Lib.hid (fun (W : World) (g : Nat) (n : Int) (h : TabAt W g t n) => tLines_any h)
          rw [hL] at HLn hsl
          clear ht hf hD hD2 hfit hL
          go_wp2_with fail
          refine HX6.out.mono ?_
          rintro e w6 ⟨rfl, hf6⟩
          have HT6 := Lib.hid (HT.out.kept hf6)
          have HF6 := Lib.hid (ff0 HF.out hf6)
          have HN6 := Lib.hid (HN.out w6 (ff0 HF.out hf6) t (by omega))
          clear hf6
          go_wp2_with fail
          refine HN6.out.mono ?_
          rintro e w7 hn7
          obtain ⟨g2, rfl, hg2, ht7, hf7⟩ := new_fits hn7 HFt.out
          have HT7 := Lib.hid (HT6.out.kept hf7)
          have HU7 := Lib.hid ht7
          have HF7 := Lib.hid (ff0 HF6.out hf7)
          have HL7 := Lib.hid (HLn.out w7 g n (HT6.out.kept hf7))
          clear hn7 ht7 hf7 hg2
          go_wp2_with fail
          refine HL7.out.mono ?_
          rintro e w8 ⟨A8, k8, rfl, hl8, hf8⟩
          have HA8 := Lib.hid hl8
          have HT8 := Lib.hid (HT7.out.kept hf8)
          have HU8 := Lib.hid (HU7.out.kept hf8)
          have HF8 := Lib.hid (ff0 HF7.out hf8)
          have HL8 := Lib.hid (HLn.out w8 g2 _ (HU7.out.kept hf8))
          clear hl8 hf8
          go_wp2_with fail
          refine HL8.out.mono ?_
          rintro e w9 ⟨A9, k9, rfl, hl9, hf9⟩
          have HS9 := Lib.hid (same_any L A8 A9 k8 k9 w9 (HA8.out.kept hf9) hl9 (by omega))
          have HT9 := Lib.hid (HT8.out.kept hf9)
          have HU9 := Lib.hid (HU8.out.kept hf9)
          have HF9 := Lib.hid (ff0 HF8.out hf9)
          clear hl9 hf9
          go_wp2_with fail
          refine HS9.out.mono ?_
          rintro e w10 ⟨rfl, hf10⟩
          have HT10 := Lib.hid (HT9.out.kept hf10)
          have HU10 := Lib.hid (HU9.out.kept hf10)
          have HF10 := Lib.hid (ff0 HF9.out hf10)
          have HD10 := Lib.hid (HDc.out w10 g n (HT9.out.kept hf10))
          clear hf10 HT3 HF3 HT6 HF6 HN6 HT7 HU7 HF7 HL7 HA8 HT8 HU8 HF8 HL8 HS9 HT9 HU9 HF9 HE HN
          go_wp2_with fail
          refine HD10.out.mono ?_
          rintro e w11 ⟨vr, vz, vl, vd, rfl, hd11, hf11⟩
          have HB11 := Lib.hid (Back_doc hd11 HLI.out)
          have HT11 := Lib.hid (HT10.out.kept hf11)
          have HU11 := Lib.hid (HU10.out.kept hf11)
          have HF11 := Lib.hid (ff0 HF10.out hf11)
          clear hd11 hf11
          go_wp2_with fail
          refine HB11.out.mono ?_
          rintro e w12 ⟨ar, az, al, ad, rfl, hd12, hf12⟩
          have HA12 := Lib.hid hd12
          have HT12 := Lib.hid (HT11.out.kept hf12)
          have HU12 := Lib.hid (HU11.out.kept hf12)
          have HF12 := Lib.hid (ff0 HF11.out hf12)
          have HX12 := Lib.hid (tText_any (HT11.out.kept hf12))
          clear hd12 hf12 HT10 HU10 HF10 HD10 HB11 HT11 HU11 HF11
          go_wp2_with fail
          refine HX12.out.mono ?_
          rintro e w13 ⟨rfl, hf13⟩
          have HA13 := Lib.hid (HA12.out.kept hf13)
          have HT13 := Lib.hid (HT12.out.kept hf13)
          have HU13 := Lib.hid (HU12.out.kept hf13)
          have HF13 := Lib.hid (ff0 HF12.out hf13)
          have HP13 := Lib.hid (HP6.out w13 (ff0 HF12.out hf13))
          clear hf13 HA12 HT12 HU12 HF12 HX12
          go_wp2_with fail
          refine HP13.out.mono ?_
          rintro e w14 ⟨xr, xz, xl, xd, rfl, hd14, hf14⟩
          have HB14 := Lib.hid (Back_doc hd14 HLI.out)
          have HA14 := Lib.hid (HA13.out.kept hf14)
          have HT14 := Lib.hid (HT13.out.kept hf14)
          have HU14 := Lib.hid (HU13.out.kept hf14)
          have HF14 := Lib.hid (ff0 HF13.out hf14)
          clear hd14 hf14 HA13 HT13 HU13 HF13 HP13
          go_wp2_with fail
          refine HB14.out.mono ?_
          rintro e w15 ⟨br, bz, bl, bd, rfl, hd15, hf15⟩
          have HS15 := Lib.hid (Same_doc (HA14.out.kept hf15) hd15 HLI.out)
          have HT15 := Lib.hid (HT14.out.kept hf15)
          have HU15 := Lib.hid (HU14.out.kept hf15)
          have HF15 := Lib.hid (ff0 HF14.out hf15)
          clear hd15 hf15 HB14 HA14 HT14 HU14 HF14
          go_wp2_with fail
          refine HS15.out.mono ?_
          rintro e w16 ⟨rfl, hf16⟩
          have HD16 := Lib.hid (HDc.out w16 g n (HT15.out.kept hf16))
          have HU16 := Lib.hid (HU15.out.kept hf16)
          have HF16 := Lib.hid (ff0 HF15.out hf16)
          clear hf16 HS15 HT15 HU15 HF15
          go_wp2_with fail
          refine HD16.out.mono ?_
          rintro e w17 ⟨yr, yz, yl, yd, rfl, hd17, hf17⟩
          have HB17 := Lib.hid (Back_doc hd17 HLI.out)
          have HU17 := Lib.hid (HU16.out.kept hf17)
          have HF17 := Lib.hid (ff0 HF16.out hf17)
          clear hd17 hf17 HD16 HU16 HF16
          go_wp2_with fail
          refine HB17.out.mono ?_
          rintro e w18 ⟨pr, pz, pl, pd, rfl, hd18, hf18⟩
          have HA18 := Lib.hid hd18
          have HD18 := Lib.hid (HDc.out w18 g2 _ (HU17.out.kept hf18))
          have HF18 := Lib.hid (ff0 HF17.out hf18)
          clear hd18 hf18 HB17 HU17 HF17
          go_wp2_with fail
          refine HD18.out.mono ?_
          rintro e w19 ⟨zr, zz, zl, zd, rfl, hd19, hf19⟩
          have HB19 := Lib.hid (Back_doc hd19 HLI.out)
          have HA19 := Lib.hid (HA18.out.kept hf19)
          have HF19 := Lib.hid (ff0 HF18.out hf19)
          clear hd19 hf19 HA18 HD18 HF18
          go_wp2_with fail
          refine HB19.out.mono ?_
          rintro e w20 ⟨qr, qz, ql, qd, rfl, hd20, hf20⟩
          have HS20 := Lib.hid (Same_doc (HA19.out.kept hf20) hd20 HLI.out)
          have HF20 := Lib.hid (ff0 HF19.out hf20)
          clear hd20 hf20 HB19 HA19 HF19
          go_wp2_with fail
          refine HS20.out.mono ?_
          rintro e w21 ⟨rfl, hf21⟩
          have HF21 := Lib.hid (ff0 HF20.out hf21)
          clear hf21
          go_wp2_with fail
          have HA := Lib.hid (HW.out _ HF21.out)
          refine HA.out.mono ?_
          rintro e wz ⟨rfl, hfz⟩
          have HFZ := Lib.hid (ff0 HF21.out hfz)
          clear hfz
          go_wp2_with fail
          go_ret
          exact ⟨rfl, HFZ.out⟩
    · obtain ⟨rfl, hf3⟩ := new_great hn3 hfit
      have HF3 := Lib.hid (ff0 HF2.out hf3)
      clear hn3 hf3 hfit
      go_wp2_with fail
      have HA := Lib.hid (HW.out _ HF3.out)
      refine HA.out.mono ?_
      rintro e wz ⟨rfl, hfz⟩
      have HFZ := Lib.hid (ff0 HF3.out hfz)
      clear hfz
      go_wp2_with fail
      go_ret
      exact ⟨rfl, HFZ.out⟩
  · have HLt := Lib.hid (HL.out false (by simp [hx]))
    clear hw hs he HL hx hr
    go_enter Tryz.func5, Tryz.ntmps5
    go_wp2_with fail
    refine HLt.out.mono ?_
    rintro e w2 ⟨rfl, hf2⟩
    have HF2 := Lib.hid hf2
    clear hf2
    go_wp2_with fail
    have HA := Lib.hid (HW.out _ HF2.out)
    refine HA.out.mono ?_
    rintro e wz ⟨rfl, hfz⟩
    have HFZ := Lib.hid (ff0 HF2.out hfz)
    clear hfz
    go_wp2_with fail
    go_ret
    exact ⟨rfl, HFZ.out⟩
end Go.Proofs.YtodcnbejnchmhaaGreatDoor
