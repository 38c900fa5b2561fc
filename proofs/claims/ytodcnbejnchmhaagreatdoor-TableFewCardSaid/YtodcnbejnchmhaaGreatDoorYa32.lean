import Derived.Test.YtodcnbejnchmhaaGreatDoorYa31
import Derived.Test.YtodcnbejnchmhaaGreatDoorYa30
namespace Go.Proofs.YtodcnbejnchmhaaGreatDoor
open Go.Rope hiding Bs
open Go.RowKit Go.Mem Go.Lin Go.Dcm

/-- an edit that answers a kind, or changes the text -/
theorem ed_two (l : Bs) (e : EdL) : (∃ k : Int, (k == 0) = false ∧ editD l e = (l, k)) ∨ ∃ (i j a b : Nat) (t : Bs), e.l1 = (i : Int) ∧ e.l2 = (j : Int) ∧ editD l e = (t, 0) ∧ Spot l i a j b ∧ i ≤ j ∧ t = l.take a ++ e.s ++ l.drop b ∧ Fits t := by
  cases ed_way l e with
  | no1 h1 hd => exact .inl ⟨2, rfl, hd⟩
  | no2 a h1 h2 hd => exact .inl ⟨2, rfl, hd⟩
  | back a b h1 h2 h3 hd => exact .inl ⟨2, rfl, hd⟩
  | large a b h1 h2 h3 hd => exact .inl ⟨17, rfl, hd⟩
  | many a b t h1 h2 h3 ht hm hd => exact .inl ⟨17, rfl, hd⟩
  | ok i j a b t hi hj h1 h2 h3 ht hm hd hs hab hij hc => exact .inr ⟨i, j, a, b, t, hi, hj, hd, hs, hij, hc, ht, hm⟩
/-- what was there, behind what turns a table -/
theorem lines_far {w w' : World} {A : Option Addr} {L : List LineL} {g : Nat} {l : Bs} {n : Int} (h : LinesAt w A L) (ht : TabAt w g l n) (hf : Fr w w' (fun k => k = g)) : LinesAt w' A L := by
  refine Rd.fr h hf fun b off e hpos hS => ?_
  subst hS
  obtain ⟨vr, vl, x, k, hb, -⟩ := ht.ex
  obtain ⟨b', o', e', hc⟩ := h.2 hpos
  rw [e] at e'
  injection e' with e'
  injection e' with e1 e2
  subst e1 e2
  have hl := flat_len lineL 29 lineL_len L
  have h28 : 28 < (L.flatMap lineL).length := by omega
  have := hc 28 _ (List.getElem?_eq_getElem h28)
  rw [cell_at hb] at this
  have hn : (#[vr, vl, intV n] : Array Value)[off + 28]? = none := Array.getElem?_eq_none (by simp)
  rw [hn] at this
  cases this
theorem box_far {w w' : World} {b g : Nat} {cs : Array Value} {l : Bs} {n : Int} (h : Blk w b 37 cs) (ht : TabAt w g l n) (hf : Fr w w' (fun k => k = g)) : Blk w' b 37 cs := by
  obtain ⟨ds, hd⟩ := ht.blk
  exact hf.blk h (fun e => by subst e; exact absurd (blk_same h hd) (by decide))
theorem lines_at2 {w : World} {A : Option Addr} {L : List LineL} (h : LinesAt w A L) {k : Nat} {x : LineL} (hx : L[k]? = some x) : ∃ b off, A = some ⟨b, off, none⟩ ∧ ∀ j, j < (lineC x).size → w.cell? ⟨b, off + k * 29 + j, none⟩ = (lineC x)[j]? := by
  obtain ⟨hk, rfl⟩ := List.getElem?_eq_some_iff.1 hx
  exact h.at_ hk
end Go.Proofs.YtodcnbejnchmhaaGreatDoor
namespace Go.Proofs.YtodcnbejnchmhaaGreatDoor
open Go.Rope hiding Bs
open Go.RowKit Go.Mem Go.Lin Go.Dcm

/-- lines that were ahead of an edit, and behind it -/
theorem says_few {l : Bs} {i a j b : Nat} {s t : Bs} (h : Spot l i a j b) (ht : t = l.take a ++ s ++ l.drop b) (hij : i ≤ j) :
    (saysD t).length + (j - i) = (saysD l).length + feeds s ∧ (∀ k, k < i → (saysD t)[k]? = (saysD l)[k]?) ∧ ∀ k, j < k → k < (saysD l).length → (saysD t)[k - j + i + feeds s]? = (saysD l)[k]? := by
  have hs := says_edit h s
  rw [← ht] at hs
  have hm := lines_len (midL l i a b j s)
  rw [h.mid s] at hm
  have hl := says_len l
  have hi := h.hi
  have hj := h.hj
  refine ⟨?_, fun k hk => ?_, fun k hk hk2 => ?_⟩
  · have := congrArg List.length hs
    rw [List.length_append, List.length_append, List.length_take, List.length_drop, List.length_map] at this
    omega
  · rw [hs, List.append_assoc, List.getElem?_append_left (by rw [List.length_take]; omega), List.getElem?_take, if_pos hk]
  · rw [hs, List.getElem?_append_right (by rw [List.length_append, List.length_take, List.length_map]; omega), List.getElem?_drop]
    congr 1
    rw [List.length_append, List.length_take, List.length_map]
    omega
set_option maxRecDepth 100000 in
set_option maxHeartbeats 12800000 in
theorem few_any (s : Bs) (e : EdL) (w : World) (hw : LOk w) (hs : s.length ≤ maxLen) (he : EdR e) : Calls Tryz.prog 6 #[strV s, edV e] w (TrueT w) := by
  have HW := Lib.hid (fun (W : World) (f : Fr w W (fun _ => False)) => alive11_any W (hw.fr f))
  obtain ⟨l1, c1, l2, c2, es⟩ := e
  have hbs := build_one l1 c1 l2 c2 es
  have HL := Lib.hid (light_one s l1 c1 l2 c2 es hs he.s)
  by_cases hx : s.length ≤ 1500 ∧ es.length ≤ 1500
  · have HLt := Lib.hid (fun (W : World) => HL.out W true (by simp [hx]))
    have HOw := Lib.hid (fun (W : World) => Own_any ⟨l1, c1, l2, c2, es⟩ W)
    have HN := Lib.hid (fun (W : World) (f : Fr w W (fun _ => False)) => tNew_any s W (hw.fr f) (by omega))
    have HE := Lib.hid (fun (W : World) (g : Nat) (l : Bs) (n : Int) (f : Fr w W (fun _ => False)) (h : TabAt W g l n) => tEdit_any h (hw.fr f) ⟨l1, c1, l2, c2, es⟩ (by show es.length ≤ 20100; omega))
    have HEs := Lib.hid (show es.length ≤ 1500 from hx.2)
    have HXs := Lib.hid (show s.length ≤ 1500 from hx.1)
    clear hx
    unfold edV edC at *
    clear hw hs he HL
    go_enter Tryz.func6, Tryz.ntmps6
    go_wp2_with fail
    have HLt1 := Lib.hid (HLt.out (w.alloc (.cells #[intV l1, intV c1, intV l2, intV c2, strV es] 37)))
    rw [show (w.alloc (.cells #[intV l1, intV c1, intV l2, intV c2, strV es] 37)).heap.size = w.heap.size + 1 by simp] at HLt1
    refine HLt1.out.mono ?_
    rintro e w2 ⟨rfl, hf2⟩
    have hf12 := ff0 (Fr.new (w.alloc (.cells #[intV l1, intV c1, intV l2, intV c2, strV es] 37)) (.cells #[intV l1, intV c1, intV l2, intV c2, strV es] 37) (fun _ => False)) hf2
    have HB2 := Lib.hid (hf12.blk (Blk.made w 37 #[intV l1, intV c1, intV l2, intV c2, strV es]) (fun h => h))
    have HF2 := Lib.hid (ff0 (Fr.new w (.cells #[intV l1, intV c1, intV l2, intV c2, strV es] 37) (fun _ => False)) hf12)
    clear hf2 hf12 HLt1
    go_wp2_with fail
    refine (HN.out w2 HF2.out).mono ?_
    rintro e w3 hn3
    by_cases hfit : Fits s
    · obtain ⟨g, rfl, hg, ht, hf3⟩ := new_fits hn3 hfit
      obtain ⟨L, hL⟩ : ∃ L, L = saysD s := ⟨_, rfl⟩
      obtain ⟨N, hN⟩ : ∃ N, L.length = N := ⟨_, rfl⟩
      have hlN : N = feeds s + 1 := by rw [← hN, hL, says_len]
      rw [show (feeds s : Int) + 1 = (N : Int) by omega] at ht
      have HT3 := Lib.hid ht
      have HF3 := Lib.hid (ff0 HF2.out hf3)
      have HB3 := Lib.hid (hf3.blk HB2.out (fun h => h))
      have HG := Lib.hid (Nat.le_trans HF2.out.size hg)
      have HFt := Lib.hid hfit
      have HLi := Lib.hid (tLines_any ht)
      rw [← hL] at HLi
      have hN9 : N ≤ 1501 := by have := feeds_le s; have := HXs.out; omega
      clear hn3 ht hf3 hg hfit HB2 HF2 hlN
      go_wp2_with fail
      refine HLi.out.mono ?_
      rintro e w4 ⟨A4, k4, rfl, hl4, hf4⟩
      rw [hN]
      have HL4 := Lib.hid hl4
      have HT4 := Lib.hid (HT3.out.kept hf4)
      have HF4 := Lib.hid (ff0 HF3.out hf4)
      have HB4 := Lib.hid (hf4.blk HB3.out (fun h => h))
      clear hl4 hf4 HT3 HF3 HB3 HLi
      go_wp2_with (refine wpList_load_blk 37 _ w.heap.size 0 37 #[intV l1, intV c1, intV l2, intV c2, strV es] #[intV l1, intV c1, intV l2, intV c2, strV es] _ (by rfl) rfl rfl HB4.out Tryz.underlying37 rfl infoRe1 (fun j _ => by rw [Nat.zero_add]) ?_)
      refine (HOw.out w4).mono ?_
      rintro e w5 ⟨rfl, hf5⟩
      have HT5 := Lib.hid (HT4.out.kept hf5)
      have HF5 := Lib.hid (ff0 HF4.out hf5)
      have HB5 := Lib.hid (hf5.blk HB4.out (fun h => h))
      have HL5 := Lib.hid (HL4.out.kept hf5)
      have HE5 := Lib.hid (HE.out w5 _ _ _ (ff0 HF4.out hf5) (HT4.out.kept hf5))
      clear hf5 HT4 HF4 HB4 HL4
      clear HN HE HOw HLt hbs
      rcases ed_two s ⟨l1, c1, l2, c2, es⟩ with ⟨k, hk0, hd⟩ | ⟨i, j, a, b, t, hi, hj, hd, hsp, hij, hc, hfm⟩
      · have hrd : readD s ⟨l1, c1, l2, c2, es⟩ (N : Int) = (N : Int) := by unfold readD; rw [hd, if_neg (by simpa using hk0)]
        unfold EditR at HE5
        rw [hd, hrd] at HE5
        clear hd hrd
        go_wp2_with fail
        refine HE5.out.mono ?_
        rintro e w6 ⟨rfl, ht6, hf6⟩
        have HL6 := Lib.hid (lines_far HL5.out HT5.out hf6)
        have HT6 := Lib.hid ht6
        have HF6 := Lib.hid (fr_tab HF5.out hf6 HG.out)
        have HR6 := Lib.hid (tRead_any ht6)
        have HLi6 := Lib.hid (tLines_any ht6)
        rw [← hL] at HLi6
        clear ht6 hf6
        go_wp2_with fail
        refine HR6.out.mono ?_
        rintro e w7 ⟨rfl, rfl⟩
        go_wp2_with fail
        refine HLi6.out.mono ?_
        rintro e w8 ⟨A8, k8, rfl, hl8, hf8⟩
        have HS8 := Lib.hid (same_any L A8 A4 k8 k4 w8 hl8 (HL6.out.kept hf8) (by omega))
        rw [hN] at HS8 ⊢
        have HF8 := Lib.hid (ff0 HF6.out hf8)
        clear hl8 hf8
        go_wp2_with fail
        refine HS8.out.mono ?_
        rintro e w9 ⟨rfl, hf9⟩
        have HF9 := Lib.hid (ff0 HF8.out hf9)
        clear hf9
        go_wp2_with fail
        have HA := Lib.hid (HW.out _ HF9.out)
        refine HA.out.mono ?_
        rintro e wz ⟨rfl, hfz⟩
        have HFZ := Lib.hid (ff0 HF9.out hfz)
        clear hfz
        go_wp2_with fail
        go_ret
        exact ⟨rfl, HFZ.out⟩
      · have hi : l1 = (i : Int) := hi
        have hj : l2 = (j : Int) := hj
        subst hi hj
        have hc : t = s.take a ++ es ++ s.drop b := hc
        have hrd : readD s ⟨(i : Int), c1, (j : Int), c2, es⟩ (N : Int) = (feeds es : Int) + 1 := by unfold readD; rw [hd, if_pos rfl]
        unfold EditR at HE5
        rw [hd, hrd] at HE5
        obtain ⟨q1, q2, q3⟩ := says_few hsp hc hij
        obtain ⟨M, hM⟩ : ∃ M, saysD t = M := ⟨_, rfl⟩
        obtain ⟨N2, hN2⟩ : ∃ N2, M.length = N2 := ⟨_, rfl⟩
        have hfe := feeds_le es
        have hsj := hsp.hj
        have hNs : N = feeds s + 1 := by rw [← hN, hL, says_len]
        have hfs := feeds_le s
        have H0 := Lib.hid (fun (m : Nat) (h : m < es.length) => feeds_step (es := es) (i := m) h)
        have H1 := Lib.hid (show feeds (es.take es.length) = feeds es by rw [List.take_length])
        obtain ⟨f, hff⟩ : ∃ f, feeds es = f := ⟨_, rfl⟩
        rw [← hL, hM, hN, hN2, hff] at q1
        rw [← hL, hM] at q2
        rw [← hL, hM, hN, hff] at q3
        rw [hff] at HE5 H1 hfe
        have Q2 := Lib.hid q2
        have Q3 := Lib.hid q3
        have HFF := Lib.hid hff
        have hxs := HXs.out
        have hes := HEs.out
        have z1 : (i : Int) ≤ (j : Int) := by omega
        have z2 : (j : Int) < (N : Int) := by omega
        have z3 : (N : Int) ≤ 1501 := by omega
        have z4 : (f : Int) ≤ 1500 := by omega
        have z5 : (N2 : Int) ≤ 4000 := by omega
        have Z := Lib.hid q1
        clear hd hrd hsp hc hfm q2 q3 hff hNs hfs hsj hxs hfe
        go_wp2_with fail
        refine HE5.out.mono ?_
        rintro e w6 ⟨rfl, ht6, hf6⟩
        have HL6 := Lib.hid (lines_far HL5.out HT5.out hf6)
        have HT6 := Lib.hid ht6
        have HF6 := Lib.hid (fr_tab HF5.out hf6 HG.out)
        have HB6 := Lib.hid (box_far HB5.out HT5.out hf6)
        clear ht6 hf6 HE5 HT5 HL5 HF5 HB5 q1
        have c4 := blkc HB6.out 4 _ rfl
        have hsz := str_size es
        go_wp2_with fail
        go_loopg [8, 9] es.length (fun k v8 v9 wr => ∃ m : Nat, m + k = es.length ∧ v9 = intV (m : Int) ∧ v8 = intV (feeds (es.take m) : Int) ∧ w6 = wr)
        case atStart => exact ⟨0, by simp, rfl, rfl, rfl⟩
        case round =>
          obtain ⟨m, hmk, rfl, rfl, rfl⟩ := hrel
          by_cases hlt : m < es.length
          · have hlt' : m < (⟨es.toArray⟩ : ByteArray).size := by rw [hsz]; exact hlt
            have hget : (⟨es.toArray⟩ : ByteArray)[m]'hlt' = es[m]'hlt := rfl
            have hst := H0.out m hlt
            have hfl := feeds_take_le es m
            rw [HFF.out] at hfl
            obtain ⟨p, hp⟩ : ∃ p, feeds (es.take m) = p := ⟨_, rfl⟩
            rw [hp] at hst hfl ⊢
            obtain ⟨c, hcc⟩ : ∃ c, es[m]'hlt = c := ⟨_, rfl⟩
            rw [hcc] at hget hst
            have hp1 : (p : Int) ≤ 1500 := by omega
            have hi1 : (m : Int) < (es.length : Int) := by omega
            by_cases hc10 : c = 10
            · subst hc10
              have e10 : (((((⟨es.toArray⟩ : ByteArray)[m]'hlt').toNat : Nat) : Int) == 10) = true := by rw [hget]; rfl
              rw [if_pos rfl] at hst
              have HST := Lib.hid hst
              clear hget hst hcc hp hfl
              go_wp2_with fail
              go_roundg (gk - 1)
              case measure => omega
              case rel => exact ⟨m + 1, by omega, by go_num, by rw [HST.out]; go_num, rfl⟩
            · have e10 : (((((⟨es.toArray⟩ : ByteArray)[m]'hlt').toNat : Nat) : Int) == 10) = false := by
                rw [hget, beq_eq_false_iff_ne]
                intro e
                exact hc10 (UInt8.toNat_inj.1 (by have : (10 : UInt8).toNat = 10 := rfl; omega))
              rw [if_neg hc10, Nat.add_zero] at hst
              have HST := Lib.hid hst
              clear hget hst hcc hp hfl
              go_wp2_with fail
              go_roundg (gk - 1)
              case measure => omega
              case rel => exact ⟨m + 1, by omega, by go_num, by rw [HST.out]; rfl, rfl⟩
          · obtain rfl : m = es.length := by omega
            have hi1 : (es.length : Int) ≤ (es.length : Int) := Int.le_refl _
            rw [H1.out]
            have HLi6 := Lib.hid (tLines_any HT6.out)
            rw [hM] at HLi6
            go_wp2_with fail
            refine HLi6.out.mono ?_
            rintro e w7 ⟨A7, k7, rfl, hl7, hf7⟩
            rw [hN2]
            have HL7 := Lib.hid (HL6.out.kept hf7)
            have HM7 := Lib.hid hl7
            have HB7 := Lib.hid (hf7.blk HB6.out (fun h => h))
            have HR7 := Lib.hid (tRead_any (HT6.out.kept hf7))
            have HF7 := Lib.hid (ff0 HF6.out hf7)
            have d0 := blkc HB7.out 0 _ rfl
            have d2 := blkc HB7.out 2 _ rfl
            have hsum : ((N2 : Int) == (N : Int) - ((j : Int) - (i : Int)) + (f : Int)) = true := by have := Z.out; simp; omega
            clear hl7 hf7 c4 HLi6 HL6 HF6
            go_wp2_with fail
            refine HR7.out.mono ?_
            rintro e w8 ⟨rfl, rfl⟩
            go_wp2_with fail
            go_loopg [11] i (fun k v11 wr => ∃ m : Nat, m + k = i ∧ v11 = intV (m : Int) ∧ Fr w8 wr (fun _ => False))
            case atStart => exact ⟨0, by simp, rfl, Fr.refl _ _⟩
            case round =>
              obtain ⟨m, hmk, rfl, hf⟩ := hrel
              have HF := Lib.hid hf
              have e0 := blkc (hf.blk HB7.out (fun h => h)) 0 _ rfl
              have e2 := blkc (hf.blk HB7.out (fun h => h)) 2 _ rfl
              clear d0 d2
              by_cases hlt : m < i
              · have hi1 : (m : Int) < (i : Int) := by omega
                have hmN : m < N := by omega
                obtain ⟨x, hx⟩ : ∃ x, L[m]? = some x := ⟨_, List.getElem?_eq_getElem (by rw [hN]; exact hmN)⟩
                have hx2 := Q2.out m hlt
                rw [hx] at hx2
                have hm2 := (List.getElem?_eq_some_iff.1 hx2).1
                rw [hN2] at hm2
                have hm3 : (m : Int) < (N2 : Int) := by omega
                have hm4 : (m : Int) < (N : Int) := by omega
                obtain ⟨b1, o1, rfl, C1'⟩ := lines_at2 (HM7.out.kept hf) hx2
                obtain ⟨b2, o2, rfl, C2'⟩ := lines_at2 (HL7.out.kept hf) hx
                have C1 := Lib.hid C1'
                have C2 := Lib.hid C2'
                clear C1' C2' hx hx2 hf
                go_wp2_with fail
                refine wp_region_held_drew (S := fun w' => Fr wr w' (fun _ => False)) (by kernel_rfl) (Fr.drew wr _) (fun hHeld => ?_)
                refine wpAnyH_take (i := 0) (v := ?_) rfl (by kernel_rfl) (by kernel_rfl) (by kernel_rfl) (fun _ _ _ h => h) (Or.inl ⟨by rfl, ?_⟩) (by assumption) ?_
                rotate_left
                · intro w' hSw
                  go_simp
                  try with_reducible rfl
                try simp only [Act.put, List.setIfInBounds_toArray, List.set_cons_zero, List.set_cons_succ, List.getElem_toArray, List.getElem_cons_zero]
                refine wpAnyH_take (i := 1) (v := ?_) rfl (by kernel_rfl) (by kernel_rfl) (by kernel_rfl) (fun _ _ _ h => h) (Or.inl ⟨by rfl, ?_⟩) (by assumption) ?_
                rotate_left
                · intro w' hSw
                  go_simp
                  try with_reducible rfl
                try simp only [Act.put, List.setIfInBounds_toArray, List.set_cons_zero, List.set_cons_succ, List.getElem_toArray, List.getElem_cons_succ, List.getElem_cons_zero]
                refine wpAnyH_take (i := 2) (v := ?_) rfl (by kernel_rfl) (by kernel_rfl) (by kernel_rfl) (fun _ _ _ h => h) (Or.inl ⟨by rfl, ?_⟩) (by assumption) ?_
                rotate_left
                · intro w' hSw
                  go_simp
                  try with_reducible rfl
                try simp only [Act.put, List.setIfInBounds_toArray, List.set_cons_zero, List.set_cons_succ, List.getElem_toArray, List.getElem_cons_succ, List.getElem_cons_zero]
                refine wpAnyH_take (i := 3) (v := _) rfl (by kernel_rfl) (by kernel_rfl) (by kernel_rfl) (fun _ _ _ h => h) (yields_at 71 _ b1 (o1 + m * 29) (lineC x) _ (by rfl) rfl (by rfl) (fun w' h => cells_far h C1.out (Nat.le_refl _) (fun h => h)) Tryz.underlying71 rfl infoL1) (by assumption) ?_
                try simp only [Act.put, List.setIfInBounds_toArray, List.set_cons_zero, List.set_cons_succ, List.getElem_toArray, List.getElem_cons_succ, List.getElem_cons_zero]
                refine wpAnyH_take (i := 4) (v := ?_) rfl (by kernel_rfl) (by kernel_rfl) (by kernel_rfl) (fun _ _ _ h => h) (Or.inl ⟨by rfl, ?_⟩) (by assumption) ?_
                rotate_left
                · intro w' hSw
                  go_simp
                  try with_reducible rfl
                try simp only [Act.put, List.setIfInBounds_toArray, List.set_cons_zero, List.set_cons_succ, List.getElem_toArray, List.getElem_cons_succ, List.getElem_cons_zero]
                refine wpAnyH_take (i := 5) (v := ?_) rfl (by kernel_rfl) (by kernel_rfl) (by kernel_rfl) (fun _ _ _ h => h) (Or.inl ⟨by rfl, ?_⟩) (by assumption) ?_
                rotate_left
                · intro w' hSw
                  go_simp
                  try with_reducible rfl
                try simp only [Act.put, List.setIfInBounds_toArray, List.set_cons_zero, List.set_cons_succ, List.getElem_toArray, List.getElem_cons_succ, List.getElem_cons_zero]
                refine wpAnyH_take (i := 6) (v := ?_) rfl (by kernel_rfl) (by kernel_rfl) (by kernel_rfl) (fun _ _ _ h => h) (Or.inl ⟨by rfl, ?_⟩) (by assumption) ?_
                rotate_left
                · intro w' hSw
                  go_simp
                  try with_reducible rfl
                try simp only [Act.put, List.setIfInBounds_toArray, List.set_cons_zero, List.set_cons_succ, List.getElem_toArray, List.getElem_cons_succ, List.getElem_cons_zero]
                refine wpAnyH_take (i := 7) (v := _) rfl (by kernel_rfl) (by kernel_rfl) (by kernel_rfl) (fun _ _ _ h => h) (yields_at 71 _ b2 (o2 + m * 29) (lineC x) _ (by rfl) rfl (by rfl) (fun w' h => cells_far h C2.out (Nat.le_refl _) (fun h => h)) Tryz.underlying71 rfl infoL1) (by assumption) ?_
                try simp only [Act.put, List.setIfInBounds_toArray, List.set_cons_zero, List.set_cons_succ, List.getElem_toArray, List.getElem_cons_succ, List.getElem_cons_zero]
                refine wpAnyH_take (i := 8) (v := _) rfl (by kernel_rfl) (by kernel_rfl) (by kernel_rfl) (fun _ _ _ h => h) (yields_neq (by rfl) rfl (by rfl) (by rfl) (guard_line _ _ _ _) (same_line x)) (by assumption) ?_
                try simp only [Act.put, List.setIfInBounds_toArray, List.set_cons_zero, List.set_cons_succ, List.getElem_toArray, List.getElem_cons_succ, List.getElem_cons_zero]
                refine wpAnyH_done (by kernel_rfl) ?_ _
                clear hHeld
                have HD := Lib.hid (ff0 HF.out (Fr.drew wr (fun _ => False)))
                clear e0 e2
                go_wp2_with fail
                go_roundg (i - (m + 1))
                case measure => omega
                case rel => exact ⟨m + 1, by omega, by go_num, HD.out⟩
              · obtain rfl : m = i := by omega
                have hi1 : (m : Int) ≤ (m : Int) := Int.le_refl _
                clear hf
                go_wp2_with fail
                go_loopg [12] (N - (j + 1)) (fun k v12 wz => ∃ q : Nat, q + k = N ∧ j < q ∧ v12 = intV (q : Int) ∧ Fr w8 wz (fun _ => False))
                case atStart => exact ⟨j + 1, by omega, by omega, by go_num, HF.out⟩
                case round =>
                  obtain ⟨q, hqk, hjq, rfl, hf⟩ := hrel
                  have HF2' := Lib.hid hf
                  have f0 := blkc (hf.blk HB7.out (fun h => h)) 0 _ rfl
                  have f2 := blkc (hf.blk HB7.out (fun h => h)) 2 _ rfl
                  have F0 := Lib.hid f0
                  have F2 := Lib.hid f2
                  clear e0 e2 f0 f2
                  by_cases hlt : q < N
                  · have hi2 : (q : Int) < (N : Int) := by omega
                    obtain ⟨x, hx⟩ : ∃ x, L[q]? = some x := ⟨_, List.getElem?_eq_getElem (by rw [hN]; exact hlt)⟩
                    have hx2 := Q3.out q hjq hlt
                    rw [hx] at hx2
                    obtain ⟨r, hr⟩ : ∃ r, q - j + m + f = r := ⟨_, rfl⟩
                    rw [hr] at hx2
                    have hm2 := (List.getElem?_eq_some_iff.1 hx2).1
                    rw [hN2] at hm2
                    have hm3 : (r : Int) < (N2 : Int) := by omega
                    have y1 : IntKind.i64.wrap ((q : Int) - (j : Int)) = (q : Int) - (j : Int) := IntWalk.i64_in _ ⟨by omega, by omega⟩
                    have y2 : IntKind.i64.wrap ((q : Int) - (j : Int) + (m : Int)) = (q : Int) - (j : Int) + (m : Int) := IntWalk.i64_in _ ⟨by omega, by omega⟩
                    have y3 : IntKind.i64.wrap ((q : Int) - (j : Int) + (m : Int) + (f : Int)) = (r : Int) := by rw [IntWalk.i64_in _ ⟨by omega, by omega⟩]; omega
                    obtain ⟨b1, o1, rfl, C1'⟩ := lines_at2 (HM7.out.kept hf) hx2
                    obtain ⟨b2, o2, rfl, C2'⟩ := lines_at2 (HL7.out.kept hf) hx
                    have C1 := Lib.hid C1'
                    have C2 := Lib.hid C2'
                    clear C1' C2' hx hx2 hf hr
                    go_wp2_with fail
                    refine wp_region_held_drew (S := fun w' => Fr wr w' (fun _ => False)) (by kernel_rfl) (Fr.drew wr _) (fun hHeld => ?_)
                    refine wpAnyH_take (i := 0) (v := ?_) rfl (by kernel_rfl) (by kernel_rfl) (by kernel_rfl) (fun _ _ _ h => h) (Or.inl ⟨by rfl, ?_⟩) (by assumption) ?_
                    rotate_left
                    · intro w' hSw
                      go_simp
                      try with_reducible rfl
                    try simp only [Act.put, List.setIfInBounds_toArray, List.set_cons_zero, List.set_cons_succ, List.getElem_toArray, List.getElem_cons_zero]
                    refine wpAnyH_take (i := 1) (v := ?_) rfl (by kernel_rfl) (by kernel_rfl) (by kernel_rfl) (fun _ _ _ h => h) (Or.inl ⟨by rfl, ?_⟩) (by assumption) ?_
                    rotate_left
                    · intro w' hSw
                      go_simp
                      try with_reducible rfl
                    try simp only [Act.put, List.setIfInBounds_toArray, List.set_cons_zero, List.set_cons_succ, List.getElem_toArray, List.getElem_cons_succ, List.getElem_cons_zero]
                    refine wpAnyH_take (i := 2) (v := ?_) rfl (by kernel_rfl) (by kernel_rfl) (by kernel_rfl) (fun _ _ _ h => h) (Or.inl ⟨by rfl, ?_⟩) (by assumption) ?_
                    rotate_left
                    · intro w' hSw
                      go_simp
                      try with_reducible rfl
                    try simp only [Act.put, List.setIfInBounds_toArray, List.set_cons_zero, List.set_cons_succ, List.getElem_toArray, List.getElem_cons_succ, List.getElem_cons_zero]
                    refine wpAnyH_take (i := 3) (v := ?_) rfl (by kernel_rfl) (by kernel_rfl) (by kernel_rfl) (fun _ _ _ h => h) (Or.inl ⟨by rfl, ?_⟩) (by assumption) ?_
                    rotate_left
                    · intro w' hSw
                      have p2 := hSw.cell0 F2.out
                      go_simp
                      try with_reducible rfl
                    try simp only [Act.put, List.setIfInBounds_toArray, List.set_cons_zero, List.set_cons_succ, List.getElem_toArray, List.getElem_cons_succ, List.getElem_cons_zero]
                    refine wpAnyH_take (i := 4) (v := ?_) rfl (by kernel_rfl) (by kernel_rfl) (by kernel_rfl) (fun _ _ _ h => h) (Or.inl ⟨by rfl, ?_⟩) (by assumption) ?_
                    rotate_left
                    · intro w' hSw
                      go_simp
                      try with_reducible rfl
                    try simp only [Act.put, List.setIfInBounds_toArray, List.set_cons_zero, List.set_cons_succ, List.getElem_toArray, List.getElem_cons_succ, List.getElem_cons_zero]
                    refine wpAnyH_take (i := 5) (v := ?_) rfl (by kernel_rfl) (by kernel_rfl) (by kernel_rfl) (fun _ _ _ h => h) (Or.inl ⟨by rfl, ?_⟩) (by assumption) ?_
                    rotate_left
                    · intro w' hSw
                      go_simp
                      try with_reducible rfl
                    try simp only [Act.put, List.setIfInBounds_toArray, List.set_cons_zero, List.set_cons_succ, List.getElem_toArray, List.getElem_cons_succ, List.getElem_cons_zero]
                    refine wpAnyH_take (i := 6) (v := ?_) rfl (by kernel_rfl) (by kernel_rfl) (by kernel_rfl) (fun _ _ _ h => h) (Or.inl ⟨by rfl, ?_⟩) (by assumption) ?_
                    rotate_left
                    · intro w' hSw
                      have p0 := hSw.cell0 F0.out
                      go_simp
                      try with_reducible rfl
                    try simp only [Act.put, List.setIfInBounds_toArray, List.set_cons_zero, List.set_cons_succ, List.getElem_toArray, List.getElem_cons_succ, List.getElem_cons_zero]
                    refine wpAnyH_take (i := 7) (v := ?_) rfl (by kernel_rfl) (by kernel_rfl) (by kernel_rfl) (fun _ _ _ h => h) (Or.inl ⟨by rfl, ?_⟩) (by assumption) ?_
                    rotate_left
                    · intro w' hSw
                      go_simp
                      try with_reducible rfl
                    try simp only [Act.put, List.setIfInBounds_toArray, List.set_cons_zero, List.set_cons_succ, List.getElem_toArray, List.getElem_cons_succ, List.getElem_cons_zero]
                    refine wpAnyH_take (i := 8) (v := ?_) rfl (by kernel_rfl) (by kernel_rfl) (by kernel_rfl) (fun _ _ _ h => h) (Or.inl ⟨by rfl, ?_⟩) (by assumption) ?_
                    rotate_left
                    · intro w' hSw
                      go_simp
                      try with_reducible rfl
                    try simp only [Act.put, List.setIfInBounds_toArray, List.set_cons_zero, List.set_cons_succ, List.getElem_toArray, List.getElem_cons_succ, List.getElem_cons_zero]
                    refine wpAnyH_take (i := 9) (v := ?_) rfl (by kernel_rfl) (by kernel_rfl) (by kernel_rfl) (fun _ _ _ h => h) (Or.inl ⟨by rfl, ?_⟩) (by assumption) ?_
                    rotate_left
                    · intro w' hSw
                      go_simp
                      try with_reducible rfl
                    try simp only [Act.put, List.setIfInBounds_toArray, List.set_cons_zero, List.set_cons_succ, List.getElem_toArray, List.getElem_cons_succ, List.getElem_cons_zero]
                    refine wpAnyH_take (i := 10) (v := ?_) rfl (by kernel_rfl) (by kernel_rfl) (by kernel_rfl) (fun _ _ _ h => h) (Or.inl ⟨by rfl, ?_⟩) (by assumption) ?_
                    rotate_left
                    · intro w' hSw
                      go_simp
                      try with_reducible rfl
                    try simp only [Act.put, List.setIfInBounds_toArray, List.set_cons_zero, List.set_cons_succ, List.getElem_toArray, List.getElem_cons_succ, List.getElem_cons_zero]
                    refine wpAnyH_take (i := 11) (v := _) rfl (by kernel_rfl) (by kernel_rfl) (by kernel_rfl) (fun _ _ _ h => h) (yields_at 71 _ b1 (o1 + r * 29) (lineC x) _ (by rfl) rfl (by rfl) (fun w' h => cells_far h C1.out (Nat.le_refl _) (fun h => h)) Tryz.underlying71 rfl infoL1) (by assumption) ?_
                    try simp only [Act.put, List.setIfInBounds_toArray, List.set_cons_zero, List.set_cons_succ, List.getElem_toArray, List.getElem_cons_succ, List.getElem_cons_zero]
                    refine wpAnyH_take (i := 12) (v := ?_) rfl (by kernel_rfl) (by kernel_rfl) (by kernel_rfl) (fun _ _ _ h => h) (Or.inl ⟨by rfl, ?_⟩) (by assumption) ?_
                    rotate_left
                    · intro w' hSw
                      go_simp
                      try with_reducible rfl
                    try simp only [Act.put, List.setIfInBounds_toArray, List.set_cons_zero, List.set_cons_succ, List.getElem_toArray, List.getElem_cons_succ, List.getElem_cons_zero]
                    refine wpAnyH_take (i := 13) (v := ?_) rfl (by kernel_rfl) (by kernel_rfl) (by kernel_rfl) (fun _ _ _ h => h) (Or.inl ⟨by rfl, ?_⟩) (by assumption) ?_
                    rotate_left
                    · intro w' hSw
                      go_simp
                      try with_reducible rfl
                    try simp only [Act.put, List.setIfInBounds_toArray, List.set_cons_zero, List.set_cons_succ, List.getElem_toArray, List.getElem_cons_succ, List.getElem_cons_zero]
                    refine wpAnyH_take (i := 14) (v := ?_) rfl (by kernel_rfl) (by kernel_rfl) (by kernel_rfl) (fun _ _ _ h => h) (Or.inl ⟨by rfl, ?_⟩) (by assumption) ?_
                    rotate_left
                    · intro w' hSw
                      go_simp
                      try with_reducible rfl
                    try simp only [Act.put, List.setIfInBounds_toArray, List.set_cons_zero, List.set_cons_succ, List.getElem_toArray, List.getElem_cons_succ, List.getElem_cons_zero]
                    refine wpAnyH_take (i := 15) (v := _) rfl (by kernel_rfl) (by kernel_rfl) (by kernel_rfl) (fun _ _ _ h => h) (yields_at 71 _ b2 (o2 + q * 29) (lineC x) _ (by rfl) rfl (by rfl) (fun w' h => cells_far h C2.out (Nat.le_refl _) (fun h => h)) Tryz.underlying71 rfl infoL1) (by assumption) ?_
                    try simp only [Act.put, List.setIfInBounds_toArray, List.set_cons_zero, List.set_cons_succ, List.getElem_toArray, List.getElem_cons_succ, List.getElem_cons_zero]
                    refine wpAnyH_take (i := 16) (v := _) rfl (by kernel_rfl) (by kernel_rfl) (by kernel_rfl) (fun _ _ _ h => h) (yields_neq (by rfl) rfl (by rfl) (by rfl) (guard_line _ _ _ _) (same_line x)) (by assumption) ?_
                    try simp only [Act.put, List.setIfInBounds_toArray, List.set_cons_zero, List.set_cons_succ, List.getElem_toArray, List.getElem_cons_succ, List.getElem_cons_zero]
                    refine wpAnyH_done (by kernel_rfl) ?_ _
                    clear hHeld
                    have HD := Lib.hid (ff0 HF2'.out (Fr.drew wr (fun _ => False)))
                    go_wp2_with fail
                    go_roundg (N - (q + 1))
                    case measure => omega
                    case rel => exact ⟨q + 1, by omega, by omega, by go_num, HD.out⟩
                  · obtain rfl : q = N := by omega
                    have hi2 : (q : Int) ≤ (q : Int) := Int.le_refl _
                    have HFE := Lib.hid (ff0 HF7.out HF2'.out)
                    clear hf
                    go_wp2_with fail
                    have HA := Lib.hid (HW.out _ HFE.out)
                    refine HA.out.mono ?_
                    rintro e wz ⟨rfl, hfz⟩
                    have HFZ := Lib.hid (ff0 HFE.out hfz)
                    clear hfz
                    go_wp2_with fail
                    go_ret
                    exact ⟨rfl, HFZ.out⟩
    · obtain ⟨rfl, hf3⟩ := new_great hn3 hfit
      have HF3 := Lib.hid (ff0 HF2.out hf3)
      clear hn3 hf3 hfit
      go_wp2_with fail
      have HA := Lib.hid (HW.out _ HF3.out)
      refine HA.out.mono ?_
      rintro e wz ⟨rfl, hfz⟩
      have HFZ := Lib.hid (ff0 HF3.out hfz)
      clear hfz
      go_wp2_with fail
      go_ret
      exact ⟨rfl, HFZ.out⟩
  · have HLt := Lib.hid (fun (W : World) => HL.out W false (by simp [hx]))
    unfold edV edC at *
    clear hw hs he HL hx
    go_enter Tryz.func6, Tryz.ntmps6
    go_wp2_with fail
    have HLt1 := Lib.hid (HLt.out (w.alloc (.cells #[intV l1, intV c1, intV l2, intV c2, strV es] 37)))
    rw [show (w.alloc (.cells #[intV l1, intV c1, intV l2, intV c2, strV es] 37)).heap.size = w.heap.size + 1 by simp] at HLt1
    refine HLt1.out.mono ?_
    rintro e w2 ⟨rfl, hf2⟩
    have hf12 := ff0 (Fr.new (w.alloc (.cells #[intV l1, intV c1, intV l2, intV c2, strV es] 37)) (.cells #[intV l1, intV c1, intV l2, intV c2, strV es] 37) (fun _ => False)) hf2
    have HB2 := Lib.hid (hf12.blk (Blk.made w 37 #[intV l1, intV c1, intV l2, intV c2, strV es]) (fun h => h))
    have HF2 := Lib.hid (ff0 (Fr.new w (.cells #[intV l1, intV c1, intV l2, intV c2, strV es] 37) (fun _ => False)) hf12)
    clear hf2 hf12 HLt1
    go_wp2_with fail
    have HA := Lib.hid (HW.out _ HF2.out)
    refine HA.out.mono ?_
    rintro e wz ⟨rfl, hfz⟩
    have HFZ := Lib.hid (ff0 HF2.out hfz)
    clear hfz
    go_wp2_with fail
    go_ret
    exact ⟨rfl, HFZ.out⟩
end Go.Proofs.YtodcnbejnchmhaaGreatDoor
