import Derived.Test.YtghcfmoagkimaaaGreatDoorYa26
import Derived.Test.YtghcfmoagkimaaaGreatDoorYa25
import Derived.Test.YtghcfmoagkimaaaGreatDoorYa10
import Derived.Test.YtghcfmoagkimaaaGreatDoorYa17
import Derived.Test.YtghcfmoagkimaaaGreatDoorYa19
import Derived.Test.YtghcfmoagkimaaaGreatDoorYa22
import Derived.Test.YtghcfmoagkimaaaGreatDoorYa14
import Derived.Test.YtghcfmoagkimaaaGreatDoorYa16
namespace Go.Proofs.YtghcfmoagkimaaaGreatDoor
open Go.RowKit Go.Mem Go.Lin Go.Xpd

set_option maxHeartbeats 3200000 in
set_option maxRecDepth 100000 in
theorem xLetter_any (l : List RuleL) (A : Option Addr) (cap : Nat) (w : World) (hw : S6.WOk w) (hl : RusAt w A l) (hn : l.length ≤ 1000) (hr : ∀ r ∈ l, OkF r) :
    Calls Tryz.prog 91 #[.slice A l.length cap] w fun e w' => e = .returned (strV (letD l)) ∧ Fr w w' (fun _ => False) := by
  have HW := Lib.hid hw
  have HL := Lib.hid hl
  have HRr := Lib.hid hr
  clear hw hl hr
  go_enter Tryz.func91, Tryz.ntmps91
  go_wp2_with fail
  go_loopg [3, 4, 5, 8] l.length (fun g v3 _ _ v8 wr => ∃ i : Nat, i + g = l.length ∧ v8 = intV i ∧ XFires wr w.heap.size v3 (firstsN l i) ∧ Fr w wr (fun _ => False))
  case atStart => exact ⟨0, by simp, rfl, own_none _ _ _ _ _, Fr.refl _ _⟩
  case round =>
    obtain ⟨i, hi, rfl, ho, hf⟩ := hrel
    obtain ⟨A5, c5, rfl⟩ := ho.slice
    have HF := Lib.hid hf
    have HO := Lib.hid ho
    have hll := firstsN_len l i
    obtain ⟨L, hL⟩ : ∃ L, firstsN l i = L := ⟨_, rfl⟩
    have HLv := Lib.hid hL
    rw [hL] at HO hll ⊢
    clear hf ho hL
    by_cases hlt : i < l.length
    · obtain ⟨r, hri⟩ : ∃ r, l[i]? = some r := ⟨l[i], List.getElem?_eq_getElem hlt⟩
      obtain ⟨b, off, hA, hc⟩ := (HL.out.kept HF.out).at_ hri
      subst hA
      have hok := HRr.out r (List.mem_of_getElem? hri)
      have hfr := hok.okR.fr
      have HSr := Lib.hid hok.okR.s
      have HCx := Lib.hid hc
      have i0 : (i : Int) < (l.length : Int) := by omega
      have n2 := Fr.new wr (.cells #[.string ⟨#[]⟩, .int .i64 0, .int .i64 0, .int .i64 0, .int .i64 0, .int .i64 0, .int .i64 0, .int .i64 0, .int .i64 0, .int .i64 0, .string ⟨#[]⟩] 72) (fun _ => False)
      have HF2 := Lib.hid n2
      have HB2 := Lib.hid (show Blk _ wr.heap.size 72 (ruleC ruleZ) from Blk.made wr 72 (ruleC ruleZ))
      have hwf : 1 ≤ withD r.fr ∧ withD r.fr ≤ 9999 := by unfold withD; omega
      obtain ⟨t1, t2⟩ := hfr
      by_cases h0 : r.save = 0
      · have HN := Lib.hid (show firstsN l (i + 1) = L ++ (nearD r i (withD r.fr) 1 8).toList by rw [firstsN_zero hri h0, HLv.out]; rfl)
        have HS0 := Lib.hid h0
        clear hc hri hok n2 h0
        go_wp2_with (first
          | ((with_reducible refine at_load4 72 ?_); refine wpList_load_at 72 _ b (off + i * 11) (ruleC r) _ (by rfl) rfl rfl HCx.out Tryz.underlying72 rfl (infoR _) ?_)
          | ((with_reducible refine at_store4 72 ?_); refine wpList_store_blk 72 _ _ wr.heap.size 0 72 (ruleC ruleZ) (ruleC r) (ruleC r) (by rfl) rfl rfl rfl rfl HB2.out (infoR _) (ruleC_one _) (show 0 + 11 ≤ 11 by decide) (put_ra _ _) ?_
             intro W3 hf3 hb3
             have HF3 := Lib.hid (HF2.out.fresh hf3 (fun i e => by have e : i = wr.heap.size := e; omega))
             have HB3 := Lib.hid hb3
             have c9 : W3.cell? ⟨wr.heap.size, 9, none⟩ = some (.int .i64 0) := by rw [← HS0.out]; exact blkc hb3 9 _ rfl
             clear hf3 hb3 HF2 HB2))
        clear c9
        refine wp_region_held_drew (S := fun w' => TF w W3 w') (by kernel_rfl) (tf_of (Fr.drew _ _)) (fun hHeld => ?_)
        refine wpAnyH_take (i := 0) (v := ?_) rfl (by kernel_rfl) (by kernel_rfl) (by kernel_rfl) (fun _ _ _ h => h) (Or.inl ⟨by rfl, ?_⟩) (by assumption) ?_
        rotate_left
        · intro w' hSw
          go_simp
          try with_reducible rfl
        try simp only [Act.put, List.setIfInBounds_toArray, List.set_cons_zero, List.set_cons_succ, List.getElem_toArray, List.getElem_cons_zero]
        refine wpAnyH_take (i := 1) (v := _) rfl (by kernel_rfl) (by kernel_rfl) (by kernel_rfl) (fun _ _ _ h => h) ((yields_blk 72 _ wr.heap.size 0 72 (ruleC r) (ruleC r) _ (by rfl) rfl rfl (fun w' hSw => tf_far hSw HB3.out (by decide)) Tryz.underlying72 rfl (infoR _) (zero_part _))) (by assumption) ?_
        try simp only [Act.put, List.setIfInBounds_toArray, List.set_cons_zero, List.set_cons_succ, List.getElem_toArray, List.getElem_cons_succ, List.getElem_cons_zero]
        refine wpAnyH_take (i := 2) (v := ?_) rfl (by kernel_rfl) (by kernel_rfl) (by kernel_rfl) (fun _ _ _ h => h) (Or.inl ⟨by rfl, ?_⟩) (by assumption) ?_
        rotate_left
        · intro w' hSw
          go_simp
          try with_reducible rfl
        try simp only [Act.put, List.setIfInBounds_toArray, List.set_cons_zero, List.set_cons_succ, List.getElem_toArray, List.getElem_cons_succ, List.getElem_cons_zero]
        refine wpAnyH_take (i := 3) (v := _) rfl (by kernel_rfl) (by kernel_rfl) (by kernel_rfl) (fun _ _ _ h => h) ((yields_build 172 #[(0, .tmp 17), (1, .tmp 18)] (.agg (seatC r (i : Int))) (by rfl) rfl (fun w => by kernel_rfl))) (by assumption) ?_
        try simp only [Act.put, List.setIfInBounds_toArray, List.set_cons_zero, List.set_cons_succ, List.getElem_toArray, List.getElem_cons_succ, List.getElem_cons_zero]
        refine wpAnyH_take (i := 4) (v := ?_) rfl (by kernel_rfl) (by kernel_rfl) (by kernel_rfl) (fun _ _ _ h => h) (Or.inl ⟨by rfl, ?_⟩) (by assumption) ?_
        rotate_left
        · intro w' hSw
          go_simp
          try with_reducible rfl
        try simp only [Act.put, List.setIfInBounds_toArray, List.set_cons_zero, List.set_cons_succ, List.getElem_toArray, List.getElem_cons_succ, List.getElem_cons_zero]
        refine wpAnyH_take (i := 5) (v := ?_) rfl (by kernel_rfl) (by kernel_rfl) (by kernel_rfl) (fun _ _ _ h => h) (Or.inl ⟨by rfl, ?_⟩) (by assumption) ?_
        rotate_left
        · intro w' hSw
          go_simp
          try with_reducible rfl
        try simp only [Act.put, List.setIfInBounds_toArray, List.set_cons_zero, List.set_cons_succ, List.getElem_toArray, List.getElem_cons_succ, List.getElem_cons_zero]
        refine wpAnyH_take (i := 6) (v := ?_) rfl (by kernel_rfl) (by kernel_rfl) (by kernel_rfl) (fun _ _ _ h => h) (Or.inl ⟨by rfl, ?_⟩) (by assumption) ?_
        rotate_left
        · intro w' hSw
          have c1 : w'.cell? ⟨wr.heap.size, 1, none⟩ = some (.int .i64 r.fr) := blkc (tf_far hSw HB3.out (by decide)) 1 _ rfl
          go_simp
          try with_reducible rfl
        try simp only [Act.put, List.setIfInBounds_toArray, List.set_cons_zero, List.set_cons_succ, List.getElem_toArray, List.getElem_cons_succ, List.getElem_cons_zero]
        refine wpAnyH_ready (rs := [7]) (by kernel_rfl) (by simp) ?_
        refine AllReadyH.cons rfl (fun K hK => ?_) AllReadyH.nil
        go_simp
        refine (within_any r.fr _ (by omega)).mono ?_
        rintro e w6 ⟨rfl, rfl⟩
        refine hK.out _ _ (hHeld) (fun hHeld2 => ?_)
        clear hK K hHeld
        rename_i hHeld2
        have hHeld := hHeld2
        clear hHeld2
        try simp only [Act.put, List.setIfInBounds_toArray, List.set_cons_zero, List.set_cons_succ, List.getElem_toArray, List.getElem_cons_succ, List.getElem_cons_zero]
        refine wpAnyH_ready (rs := [8]) (by kernel_rfl) (by simp) ?_
        refine AllReadyH.cons rfl (fun K hK => ?_) AllReadyH.nil
        go_simp
        refine (up_any r (i : Int) L (.slice A5 L.length c5) (withD r.fr) w _ HW.out (ff4 HF.out (ff4 HF3.out (Fr.drew _ _))) (HO.out.kept (ff4 HF3.out (Fr.drew _ _))) (by omega) HSr.out (by omega)).mono ?_
        rintro e w7 ⟨v9, rfl, ho9, ht9⟩
        obtain ⟨A9, c9, rfl⟩ := ho9.slice
        refine hK.out _ _ (tf_trans hHeld ht9) (fun hHeld2 => ?_)
        clear hK K hHeld
        rename_i hHeld2
        have hHeld := hHeld2
        clear hHeld2
        have HO9 := Lib.hid ho9
        clear ho9 ht9
        try simp only [Act.put, List.setIfInBounds_toArray, List.set_cons_zero, List.set_cons_succ, List.getElem_toArray, List.getElem_cons_succ, List.getElem_cons_zero]
        refine wpAnyH_take (i := 9) (v := ?_) rfl (by kernel_rfl) (by kernel_rfl) (by kernel_rfl) (fun _ _ _ h => h) (Or.inl ⟨by rfl, ?_⟩) (by assumption) ?_
        rotate_left
        · intro w' hSw
          go_simp
          try with_reducible rfl
        try simp only [Act.put, List.setIfInBounds_toArray, List.set_cons_zero, List.set_cons_succ, List.getElem_toArray, List.getElem_cons_succ, List.getElem_cons_zero]
        refine wpAnyH_done (by kernel_rfl) ?_ _
        have HF9 := Lib.hid (tf_low (ff4 HF.out HF3.out) hHeld)
        clear hHeld
        go_wp2_with fail
        go_roundg (l.length - (i + 1))
        case measure => omega
        case rel => exact ⟨i + 1, by omega, by go_num, by rw [HN.out, ← List.length_append]; exact HO9.out, HF9.out⟩
      · have HN := Lib.hid (show firstsN l (i + 1) = L by rw [firstsN_save hri h0, HLv.out])
        have h1 : (r.save == 0) = false := beq_eq_false_iff_ne.2 h0
        clear hc hri hok n2 h0
        go_wp2_with (first
          | ((with_reducible refine at_load4 72 ?_); refine wpList_load_at 72 _ b (off + i * 11) (ruleC r) _ (by rfl) rfl rfl HCx.out Tryz.underlying72 rfl (infoR _) ?_)
          | ((with_reducible refine at_store4 72 ?_); refine wpList_store_blk 72 _ _ wr.heap.size 0 72 (ruleC ruleZ) (ruleC r) (ruleC r) (by rfl) rfl rfl rfl rfl HB2.out (infoR _) (ruleC_one _) (show 0 + 11 ≤ 11 by decide) (put_ra _ _) ?_
             intro W3 hf3 hb3
             have HF3 := Lib.hid (HF2.out.fresh hf3 (fun i e => by have e : i = wr.heap.size := e; omega))
             have HO3 := Lib.hid (HO.out.kept HF3.out)
             have c9 : W3.cell? ⟨wr.heap.size, 9, none⟩ = some (.int .i64 r.save) := blkc hb3 9 _ rfl
             clear hf3 hb3 HF2 HB2))
        go_roundg (l.length - (i + 1))
        case measure => omega
        case rel => exact ⟨i + 1, by omega, by go_num, by rw [HN.out]; exact HO3.out, ff4 HF.out HF3.out⟩
    · obtain rfl : i = l.length := by omega
      cases L with
      | nil =>
        have HE := Lib.hid (let_none HLv.out)
        clear hll
        go_wp2_with fail
        go_ret
        exact ⟨by rw [HE.out]; rfl, HF.out⟩
      | cons g0 t0 =>
        obtain ⟨L, hL⟩ : ∃ L, g0 :: t0 = L := ⟨_, rfl⟩
        have h0 : 0 < L.length := by rw [← hL]; simp
        rw [hL] at HO HLv hll ⊢
        clear hL
        have e0 : ((L.length : Int) == 0) = false := by rw [beq_eq_false_iff_ne]; omega
        obtain ⟨A9, c9, hv9, -, -, hrd⟩ := HO.out.rd
        injection hv9 with h1 _ h3
        rw [← h1] at hrd
        have HQ := Lib.hid (min_any L A5 c5 wr hrd h0 (by omega))
        clear hrd h1 h3 h0
        go_wp2_with fail
        refine HQ.out.mono ?_
        rintro e w2 ⟨m, he, hm, hx, hf2⟩
        rw [← HLv.out] at hm hx
        obtain ⟨k, r, hri, hmi, hlt⟩ := let_some hm hx
        have hk : k < l.length := (List.getElem?_eq_some_iff.1 hri).1
        have he : e = .returned (.agg #[intV (k : Int), intV m.y, intV m.at_, intV m.bef]) := he.trans (by rw [← hmi]; rfl)
        subst he
        have HE := Lib.hid hlt
        have HF2 := Lib.hid (ff4 HF.out hf2)
        obtain ⟨b, off, hA, hc⟩ := (HL.out.kept HF2.out).at_ hri
        subst hA
        have c10 : w2.cell? ⟨b, off + k * 11 + 10, none⟩ = some (strV r.letter) := hc 10 (show 10 < 11 by decide)
        have k0 : (k : Int) < (l.length : Int) := by omega
        have hfi : (Instr.field 166 (.agg #[intV (k : Int), intV m.y, intV m.at_, intV m.bef]) 0).run Tryz.prog w2 = .ok (intV (k : Int)) w2 := by kernel_rfl
        clear he hm hx hf2 hc hmi hri hlt
        go_wp2_with fail
        go_ret
        exact ⟨by rw [HE.out]; rfl, HF2.out⟩
end Go.Proofs.YtghcfmoagkimaaaGreatDoor
namespace Go.Proofs.YtghcfmoagkimaaaGreatDoor
open Go.RowKit Go.Mem Go.Lin Go.Xpd Go.Den

theorem savQ_far {l : List RuleL} {off t : Int} (h : reachY t = none) : savA l off t = (0, letD l) := by unfold savA; rw [h]
theorem savQ_none {l : List RuleL} {off t y : Int} (h : reachY t = some y) (hf : findA l off t = none) : savA l off t = (0, letD l) := by unfold savA; rw [h]; dsimp only; rw [hf]
theorem savQ_some {l : List RuleL} {off t y : Int} {f : FireL} (h : reachY t = some y) (hf : findA l off t = some f) : savA l off t = (savD l f.i, lettD l f.i) := by unfold savA; rw [h]; dsimp only; rw [hf]
theorem savQ_get (l : List RuleL) (i : Int) : savD l i = (l.getD i.toNat ruleZ).save := by
  unfold savD
  rw [List.getD_eq_getElem?_getD]
  cases l[i.toNat]? <;> rfl
theorem lettQ_get (l : List RuleL) (i : Int) : lettD l i = (l.getD i.toNat ruleZ).letter := by
  unfold lettD
  rw [List.getD_eq_getElem?_getD]
  cases l[i.toNat]? <;> rfl
set_option maxHeartbeats 3200000 in
set_option maxRecDepth 100000 in
theorem nSaving_any (l : List RuleL) (A : Option Addr) (cap : Nat) (off t : Int) (w : World) (hw : S6.WOk w) (hl : RusAt w A l) (hn : l.length ≤ 8) (hr : ∀ r ∈ l, OkF r ∧ RuR r) (ho : -100000 ≤ off ∧ off ≤ 100000) (ht : S6.inRange t) :
    Calls Tryz.prog 60 #[.slice A l.length cap, intV off, intV t] w fun e w' => e = .returned (.tuple #[intV (savA l off t).1, strV (savA l off t).2]) ∧ Fr w w' (fun _ => False) := by
  have HW := Lib.hid hw
  have HL := Lib.hid hl
  have HIn := Lib.hid (inReach_any t w hw ht)
  have HLe := Lib.hid (fun W (f : Fr w W (fun _ => False)) => xLetter_any l A cap W (hw.fr f) (hl.kept f) (by omega) (fun r h => (hr r h).1))
  have HLa := Lib.hid (fun y W (f : Fr w W (fun _ => False)) (hy : -20000 ≤ y ∧ y ≤ 20000) => latest_any l A cap y W (hl.kept f) hn (fun r h => (hr r h).1) hy)
  have HFi := Lib.hid (fun y W (f : Fr w W (fun _ => False)) (hy : -20000 ≤ y ∧ y ≤ 20000) => fired_any l A cap y off t W (hw.fr f) (hl.kept f) hn hr hy ho)
  cases hre : reachY t with
  | none =>
    have HA := Lib.hid (savQ_far (l := l) (off := off) hre)
    rw [hre] at HIn
    clear hre hw hl hr
    go_enter Tryz.func60, Tryz.ntmps60
    go_wp2_with fail
    refine HIn.out.mono ?_
    rintro e w2 ⟨rfl, hf2⟩
    have HF2 := Lib.hid hf2
    clear hf2
    go_wp2_with fail
    refine (HLe.out _ HF2.out).mono ?_
    rintro e w3 ⟨rfl, hf3⟩
    go_wp2_with fail
    go_ret2
    exact ⟨by rw [HA.out]; rfl, ff4 HF2.out hf3⟩
  | some Y =>
    have HLs := Lib.hid (fun W (f : Fr w W (fun _ => False)) => lastF_any l A cap off t W (hw.fr f) (hl.kept f) hn (fun r h => (hr r h).1) ho (reach_secs hre))
    have HAn := Lib.hid (savQ_none (l := l) (off := off) hre)
    have HAs := Lib.hid (fun f => savQ_some (l := l) (off := off) (f := f) hre)
    rw [hre] at HIn
    clear hre hw hl hr
    go_enter Tryz.func60, Tryz.ntmps60
    go_wp2_with fail
    refine HIn.out.mono ?_
    rintro e w2 ⟨rfl, hf2⟩
    have HF2 := Lib.hid hf2
    clear hf2
    go_wp2_with fail
    refine (HLs.out _ HF2.out).mono ?_
    rintro e w3 ⟨y, rfl, hf3, hy1, hy2, hy3⟩
    have HF3 := Lib.hid (ff4 HF2.out hf3)
    have HD := Lib.hid (show findA l off t = downY l off t (latD l y) from (down_top hy2 hy3).symm.trans (down_late l off t y).symm)
    have hz := lat_le l y l.length
    have hz : 0 ≤ latD l y ∧ latD l y ≤ max y 0 := hz
    clear hf3 hy3
    go_wp2_with fail
    refine (HLa.out y _ HF3.out (by omega)).mono ?_
    rintro e w4 ⟨rfl, hf4⟩
    have HF4 := Lib.hid (ff4 HF3.out hf4)
    generalize latD l y = z at *
    have hz : 0 ≤ z ∧ z ≤ 9999 := by omega
    clear hf4 hy1 hy2
    go_wp2_with fail
    go_loopg [8, 9, 10] z.toNat (fun g v8 _ _ wr => ∃ x : Int, v8 = intV x ∧ x.toNat = g ∧ 0 ≤ x ∧ x ≤ 9999 ∧ findA l off t = downY l off t x ∧ Fr w wr (fun _ => False))
    case atStart => exact ⟨z, rfl, rfl, hz.1, hz.2, HD.out, HF4.out⟩
    case round =>
      obtain ⟨x, rfl, hg, hx0, hx9, hd, hf⟩ := hrel
      have HFr := Lib.hid hf
      have HDx := Lib.hid hd
      clear hf hd
      by_cases hx : 1 ≤ x
      · cases ho2 : lastIn l off t (fromD l x x) with
        | some f =>
          have HQ := Lib.hid (HFi.out x wr HFr.out (by omega))
          rw [ho2] at HQ
          have HE := Lib.hid (show savA l off t = ((l.getD f.i.toNat ruleZ).save, (l.getD f.i.toNat ruleZ).letter) by
            rw [HAs.out f (HDx.out.trans (down_some hx ho2)), savQ_get, lettQ_get])
          clear ho2
          have HQ := Lib.hid (show Calls Tryz.prog 90 #[.slice A l.length cap, intV x, intV off, intV t] wr fun e w' => e = .returned (.tuple #[ruleV (l.getD f.i.toNat ruleZ), .bool true]) ∧ Fr wr w' (fun _ => False) from HQ.out)
          generalize l.getD f.i.toNat ruleZ = r at *
          go_wp2_with fail
          refine HQ.out.mono ?_
          rintro e w5 ⟨rfl, hf5⟩
          have HF5 := Lib.hid (ff4 HFr.out hf5)
          have HB5 := Lib.hid (show Blk _ w5.heap.size 72 (ruleC ruleZ) from Blk.made w5 72 (ruleC ruleZ))
          have HN5 := Lib.hid (Fr.new w5 (.cells (ruleC ruleZ) 72) (fun _ => False))
          clear hf5
          go_wp2_with ((with_reducible refine at_store4 72 ?_); refine wpList_store_blk 72 _ _ w5.heap.size 0 72 (ruleC ruleZ) (ruleC r) (ruleC r) (by rfl) rfl rfl rfl rfl HB5.out (infoR _) (ruleC_one _) (show 0 + 11 ≤ 11 by decide) (put_ra _ _) ?_
                       intro W6 hf6 hb6
                       have HF6 := Lib.hid (ff4 HF5.out (HN5.out.fresh hf6 (fun i e => by have e : i = w5.heap.size := e; omega)))
                       have c9 : W6.cell? ⟨w5.heap.size, 9, none⟩ = some (.int .i64 r.save) := blkc hb6 9 _ rfl
                       have c10 : W6.cell? ⟨w5.heap.size, 10, none⟩ = some (strV r.letter) := blkc hb6 10 _ rfl
                       clear hf6 hb6 HN5 HB5)
          go_quiet (fail)
          go_wp2_with fail
          go_ret2
          exact ⟨by rw [HE.out]; rfl, ff4 HF6.out (Fr.drewN _ _ _)⟩
        | none =>
          have HQ := Lib.hid (HFi.out x wr HFr.out (by omega))
          rw [ho2] at HQ
          have HDn := Lib.hid (show findA l off t = downY l off t (latD l (x - 1)) from HDx.out.trans ((down_none hx ho2).trans (down_late l off t (x - 1)).symm))
          have hz2 := lat_le l (x - 1) l.length
          have hz2 : 0 ≤ latD l (x - 1) ∧ latD l (x - 1) ≤ max (x - 1) 0 := hz2
          clear ho2
          have HQ := Lib.hid (show Calls Tryz.prog 90 #[.slice A l.length cap, intV x, intV off, intV t] wr fun e w' => e = .returned (.tuple #[ruleV ruleZ, .bool false]) ∧ Fr wr w' (fun _ => False) from HQ.out)
          go_wp2_with fail
          refine HQ.out.mono ?_
          rintro e w5 ⟨rfl, hf5⟩
          have HF5 := Lib.hid (ff4 HFr.out hf5)
          have HB5 := Lib.hid (show Blk _ w5.heap.size 72 (ruleC ruleZ) from Blk.made w5 72 (ruleC ruleZ))
          have HN5 := Lib.hid (Fr.new w5 (.cells (ruleC ruleZ) 72) (fun _ => False))
          clear hf5
          go_wp2_with ((with_reducible refine at_store4 72 ?_); refine wpList_store_blk 72 _ _ w5.heap.size 0 72 (ruleC ruleZ) (ruleC ruleZ) (ruleC ruleZ) (by rfl) rfl rfl rfl rfl HB5.out (infoR _) (ruleC_one _) (show 0 + 11 ≤ 11 by decide) (put_ra _ _) ?_
                       intro W6 hf6 hb6
                       have HF6 := Lib.hid (ff4 HF5.out (HN5.out.fresh hf6 (fun i e => by have e : i = w5.heap.size := e; omega)))
                       clear hf6 hb6 HN5 HB5)
          refine (HLa.out (x - 1) _ HF6.out (by omega)).mono ?_
          rintro e w7 ⟨rfl, hf7⟩
          have HF7 := Lib.hid (ff4 HF6.out hf7)
          generalize latD l (x - 1) = z2 at *
          clear hf7
          go_wp2_with fail
          go_roundg z2.toNat
          case measure => omega
          case rel => exact ⟨z2, rfl, rfl, by omega, by omega, HDn.out, HF7.out⟩
      · have HE := Lib.hid (HAn.out (HDx.out.trans (down_zero (by omega))))
        have hx : x < 1 := by omega
        go_wp2_with fail
        refine (HLe.out _ HFr.out).mono ?_
        rintro e w5 ⟨rfl, hf5⟩
        go_wp2_with fail
        go_ret2
        exact ⟨by rw [HE.out]; rfl, ff4 HFr.out hf5⟩
end Go.Proofs.YtghcfmoagkimaaaGreatDoor
namespace Go.Mem
open Go.RowKit
section
variable {P : Program} {ops : Array Oper} {rest : List Oper} {a : Act} {w : World} {Q : Exit → Act → World → Prop}
/- the next operation's kind, seen at once ('with_reducible refine at_load T ?_' ahead of a law): a law that does not fit is not tried -/
theorem at_build {d : Option Tmp} {parts : Array (Nat × Operand)} {ty : TypeId} {pos : String} {af : Array Edge} {g : Option (Nat × Bool)} (t : TypeId) (h : wpList P ops Q (⟨d, .build t parts, ty, pos, af, g⟩ :: rest) a w) : wpList P ops Q (⟨d, .build t parts, ty, pos, af, g⟩ :: rest) a w := h
end
end Go.Mem
namespace Go.Proofs.YtghcfmoagkimaaaGreatDoor
open Go.RowKit Go.Mem Go.Lin Go.Dcm
section
variable {P : Program} {ops : Array Oper} {Q : Exit → Act → World → Prop} {md : Region.Mode} {S : World → Prop}
end
section
variable {P : Program} {ops : Array Oper} {Q : Exit → Act → World → Prop} {md : Region.Mode} {S : World → Prop}
end
end Go.Proofs.YtghcfmoagkimaaaGreatDoor
namespace Go.Proofs.YtghcfmoagkimaaaGreatDoor
open Go.RowKit Go.Mem Go.Lin Go.Xpd Go.Den

/- an era with its rules, in its cells -/
def nerC (e : EraL) (v : Value) : Array Value := #[intV e.off, intV e.kind, intV e.save, strV e.rules, strV e.format, .bool e.til.has, intV e.til.year, intV e.til.month, intV e.til.on.k, intV e.til.on.d, intV e.til.on.w, intV e.til.at_.s, intV e.til.at_.k, v]
def nilV : Value := .slice none 0 0
def rulV (x : RuV) : Value := .slice x.A x.l.length x.c
/-- the rules that go with an era -/
def rusV (v : ZnV) (i : Nat) : RuV := v.Z.getD i ⟨none, 0, []⟩
theorem infoNe (e : EraL) (v : Value) : (Tryz.prog.info? 65).map (·.size) = some (nerC e v).size := show _ = some 14 by kernel_rfl
theorem put_ne (a b : EraL) (u v : Value) : setMany (nerC a u) 0 (nerC b v).toList = nerC b v := put_all rfl
theorem nerC_one (e : EraL) (x : RuV) : (nerC e (rulV x)).all (·.oneCell') = true := by simp [nerC, rulV, Value.oneCell']
theorem part_nt (e : EraL) (v : Value) : ∀ j, j < (tilC e.til).size → (nerC e v)[5 + j]? = (tilC e.til)[j]? := by
  intro j hj
  have hj : j < 8 := hj
  match j, hj with
  | 0, _ => rfl
  | 1, _ => rfl
  | 2, _ => rfl
  | 3, _ => rfl
  | 4, _ => rfl
  | 5, _ => rfl
  | 6, _ => rfl
  | 7, _ => rfl
theorem results_pick (e : EraL) (x : RuV) (tmps : Array Value) (w : World) (q : Nat) (hp : tmps.getD 4 undef = .pointer (some ⟨q, 0, none⟩)) (hb : Blk w q 65 (nerC e (rulV x))) : (results Tryz.f21 tmps).run Tryz.prog w = .ok (.agg (nerC e (rulV x))) w :=
  results_cell_row (P := Tryz.prog) (fn := Tryz.f21) (p := 4) (ty := 65) rfl tmps _ q 65 (nerC e (rulV x)) (0, 0) _ hp hb Tryz.underlying65 rfl (infoNe e _)
theorem rusV_some {v : ZnV} {i : Nat} {x : RuV} (h : v.Z[i]? = some x) : rusV v i = x := by unfold rusV; rw [List.getD_eq_getElem?_getD, h]; rfl
theorem rusV_none {v : ZnV} {i : Nat} (h : v.Z[i]? = none) : rusV v i = ⟨none, 0, []⟩ := by unfold rusV; rw [List.getD_eq_getElem?_getD, h]; rfl
set_option maxHeartbeats 3200000 in
set_option maxRecDepth 100000 in
theorem pick_any (v : ZnV) (i : Nat) (e : EraL) (w : World) (hv : ZnAt w v) (he : v.eras[i]? = some e) (_hl : v.eras.length ≤ 100) (_hz : v.Z.length ≤ maxLen) :
    Calls Tryz.prog 21 #[.agg (zoneC v), intV i] w fun q w' => q = .returned (.agg (nerC e (rulV (rusV v i)))) ∧ Fr w w' (fun _ => False) := by
  have hi := (List.getElem?_eq_some_iff.1 he).1
  obtain ⟨w1, hw1⟩ : ∃ w1, w.alloc (.cells (zoneC v) 33) = w1 := ⟨_, rfl⟩
  obtain ⟨w2, hw2⟩ : ∃ w2, w1.alloc (.cells (nerC eraZ nilV) 65) = w2 := ⟨_, rfl⟩
  have z1 : w1.heap.size = w.heap.size + 1 := by rw [← hw1]; simp
  have z2 : w2.heap.size = w.heap.size + 1 + 1 := by rw [← hw2]; simp [z1]
  have n1 : Fr w w1 (fun _ => False) := by rw [← hw1]; exact Fr.new _ _ _
  have n2 : Fr w1 w2 (fun _ => False) := by rw [← hw2]; exact Fr.new _ _ _
  have n3 := Fr.new w2 (.cells (nerC eraZ nilV) 65) (fun _ => False)
  have hb1 : Blk w2 w.heap.size 33 (zoneC v) := n2.blk (by rw [← hw1]; exact Blk.made w _ _) (fun h => h)
  have hb2 : Blk w2 (w.heap.size + 1) 65 (nerC eraZ nilV) := by rw [← hw2, ← z1]; exact Blk.made w1 _ _
  have hb3 := Blk.made w2 65 (nerC eraZ nilV)
  rw [z2] at hb3
  have e2 : (w.alloc (.cells (zoneC v) 33)).alloc (.cells #[.int .i64 0, .int .i64 0, .int .i64 0, .string ⟨#[]⟩, .string ⟨#[]⟩, .bool false, .int .i64 0, .int .i64 0, .int .i64 0, .int .i64 0, .int .i64 0, .int .i64 0, .int .i64 0, .slice none 0 0] 65) = w2 := by
    rw [hw1, ← hw2]; rfl
  have HB1 := Lib.hid (n3.blk hb1 (fun h => h))
  have HB2 := Lib.hid (n3.blk hb2 (fun h => h))
  have HB3 := Lib.hid hb3
  have HF3 := Lib.hid (ff4 (ff4 n1 n2) n3)
  obtain ⟨b, off, hA, hc⟩ := (hv.e.kept (ff4 n1 n2)).at_ he
  have c0 : w2.cell? ⟨w.heap.size, 0, none⟩ = some (.slice v.Ae v.eras.length v.ce) := blkc hb1 0 _ rfl
  rw [hA] at c0
  have HCx := Lib.hid hc
  have HV := Lib.hid hv
  have i0 : (i : Int) < (v.eras.length : Int) := by omega
  clear n1 n2 n3 hw1 hw2 z1 hb1 hb2 hb3 hc hv he hA
  cases hx : v.Z[i]? with
  | none =>
    have hi2 : v.Z.length ≤ i := List.getElem?_eq_none_iff.1 hx
    have z0 : ¬ (i : Int) < (v.Z.length : Int) := by omega
    have HE := Lib.hid (rusV_none hx)
    clear hx
    go_enter Tryz.func21, Tryz.ntmps21
    go_wp2_with (first
      | ((with_reducible refine at_load4 48 ?_); refine wpList_load_at 48 _ b (off + i * 13) (eraC e) _ (by rfl) rfl rfl HCx.out Tryz.underlying48 rfl (infoE _) ?_)
      | ((with_reducible refine at_build 65 ?_); refine wpList_build1 65 #[(0, .tmp 10)] (.agg (nerC e nilV)) (by rfl) rfl (fun w => by kernel_rfl) ?_)
      | ((with_reducible refine at_store4 65 ?_); refine wpList_store_blk 65 _ _ (w.heap.size + 1 + 1) 0 65 (nerC eraZ nilV) (nerC e nilV) (nerC e nilV) (by rfl) rfl rfl rfl rfl HB3.out (infoNe _ _) (nerC_one _ ⟨none, 0, []⟩) (show 0 + 14 ≤ 14 by decide) (put_ne _ _ _ _) ?_
         intro W4 hf4 hb4
         have HF4 := Lib.hid (HF3.out.fresh hf4 (fun i e => by have e : i = w.heap.size + 1 + 1 := e; omega))
         have HB4 := Lib.hid hb4
         have HR4 := Lib.hid (hf4.blk HB2.out (fun e => by have e : w.heap.size + 1 = w.heap.size + 1 + 1 := e; omega))
         have c1 : W4.cell? ⟨w.heap.size, 1, none⟩ = some (.slice v.Ar v.Z.length v.cr) := blkc (hf4.blk HB1.out (fun e => by have e : w.heap.size = w.heap.size + 1 + 1 := e; omega)) 1 _ rfl
         clear hf4 hb4 HB3 HB2 HB1 HF3)
      | ((with_reducible refine at_load4 65 ?_); refine wpList_load_blk 65 _ (w.heap.size + 1 + 1) 0 65 (nerC e nilV) (nerC e nilV) _ (by rfl) rfl rfl HB4.out Tryz.underlying65 rfl (infoNe _ _) (zero_part _) ?_)
      | ((with_reducible refine at_store4 65 ?_); refine wpList_store_blk 65 _ _ (w.heap.size + 1) 0 65 (nerC eraZ nilV) (nerC e nilV) (nerC e nilV) (by rfl) rfl rfl rfl rfl HR4.out (infoNe _ _) (nerC_one _ ⟨none, 0, []⟩) (show 0 + 14 ≤ 14 by decide) (put_ne _ _ _ _) ?_
         intro W5 hf5 hb5
         have HF5 := Lib.hid (HF4.out.fresh hf5 (fun i e => by have e : i = w.heap.size + 1 := e; omega))
         have HB5 := Lib.hid hb5
         clear hf5 hb5))
    exact bodyPost_ret (results_pick e ⟨none, 0, []⟩ _ _ (w.heap.size + 1) rfl HB5.out) rfl ⟨by rw [HE.out], HF5.out⟩
  | some x =>
    have hi2 := (List.getElem?_eq_some_iff.1 hx).1
    have z0 : (i : Int) < (v.Z.length : Int) := by omega
    have HE := Lib.hid (rusV_some hx)
    have HX := Lib.hid hx
    clear hx
    go_enter Tryz.func21, Tryz.ntmps21
    go_wp2_with (first
      | ((with_reducible refine at_load4 48 ?_); refine wpList_load_at 48 _ b (off + i * 13) (eraC e) _ (by rfl) rfl rfl HCx.out Tryz.underlying48 rfl (infoE _) ?_)
      | ((with_reducible refine at_build 65 ?_); refine wpList_build1 65 #[(0, .tmp 10)] (.agg (nerC e nilV)) (by rfl) rfl (fun w => by kernel_rfl) ?_)
      | ((with_reducible refine at_store4 65 ?_); refine wpList_store_blk 65 _ _ (w.heap.size + 1 + 1) 0 65 (nerC eraZ nilV) (nerC e nilV) (nerC e nilV) (by rfl) rfl rfl rfl rfl HB3.out (infoNe _ _) (nerC_one _ ⟨none, 0, []⟩) (show 0 + 14 ≤ 14 by decide) (put_ne _ _ _ _) ?_
         intro W4 hf4 hb4
         have HF4 := Lib.hid (HF3.out.fresh hf4 (fun i e => by have e : i = w.heap.size + 1 + 1 := e; omega))
         have HB4 := Lib.hid hb4
         have HR4 := Lib.hid (hf4.blk HB2.out (fun e => by have e : w.heap.size + 1 = w.heap.size + 1 + 1 := e; omega))
         obtain ⟨b5, o5, hA5, hc5, hr5⟩ := (HV.out.r.kept HF4.out).at_ HX.out
         have c1 : W4.cell? ⟨w.heap.size, 1, none⟩ = some (.slice v.Ar v.Z.length v.cr) := blkc (hf4.blk HB1.out (fun e => by have e : w.heap.size = w.heap.size + 1 + 1 := e; omega)) 1 _ rfl
         rw [hA5] at c1
         clear hf4 hb4 HB3 HB2 HB1 HF3 hr5)
      | ((with_reducible refine at_store4 51 ?_); refine wpList_store_cell 51 _ _ (w.heap.size + 1 + 1) 13 65 (nerC e nilV) (nerC e (rulV x)) (rulV x) (by rfl) rfl rfl rfl rfl HB4.out (by kernel_rfl) (by simp [rulV, Value.oneCell']) (show 13 < 14 by decide) rfl ?_
         intro W6 hf6 hb6
         have HF6 := Lib.hid (HF4.out.fresh hf6 (fun i e => by have e : i = w.heap.size + 1 + 1 := e; omega))
         have HB6 := Lib.hid hb6
         have HR6 := Lib.hid (hf6.blk HR4.out (fun e => by have e : w.heap.size + 1 = w.heap.size + 1 + 1 := e; omega))
         clear hf6 hb6)
      | ((with_reducible refine at_load4 65 ?_); refine wpList_load_blk 65 _ (w.heap.size + 1 + 1) 0 65 (nerC e (rulV x)) (nerC e (rulV x)) _ (by rfl) rfl rfl HB6.out Tryz.underlying65 rfl (infoNe _ _) (zero_part _) ?_)
      | ((with_reducible refine at_store4 65 ?_); refine wpList_store_blk 65 _ _ (w.heap.size + 1) 0 65 (nerC eraZ nilV) (nerC e (rulV x)) (nerC e (rulV x)) (by rfl) rfl rfl rfl rfl HR6.out (infoNe _ _) (nerC_one _ _) (show 0 + 14 ≤ 14 by decide) (put_ne _ _ _ _) ?_
         intro W5 hf5 hb5
         have HF5 := Lib.hid (HF6.out.fresh hf5 (fun i e => by have e : i = w.heap.size + 1 := e; omega))
         have HB5 := Lib.hid hb5
         clear hf5 hb5))
    exact bodyPost_ret (results_pick e x _ _ (w.heap.size + 1) rfl HB5.out) rfl ⟨by rw [HE.out], HF5.out⟩
end Go.Proofs.YtghcfmoagkimaaaGreatDoor
namespace Go.Proofs.YtghcfmoagkimaaaGreatDoor
open Go.RowKit Go.Mem Go.Lin Go.Xpd Go.Den

/- what a right zone's numbers can't be -/
def badT (s k : Int) : Bool := !decide (within s 604799 ∧ 0 ≤ k ∧ k ≤ 2)
theorem badT_no {s k : Int} (h : ¬ within s 604799) : badT s k = true := by unfold badT; rw [decide_eq_false (fun c => h c.1)]; rfl
theorem badT_yes {s k : Int} (h : within s 604799) : badT s k = (decide (k < 0) || decide (2 < k)) := by
  unfold badT
  by_cases h0 : k < 0
  · rw [decide_eq_true h0, decide_eq_false (fun c => by omega)]; rfl
  · by_cases hk : 2 < k
    · rw [decide_eq_false h0, decide_eq_true hk, decide_eq_false (fun c => by omega)]; rfl
    · rw [decide_eq_false h0, decide_eq_false hk, decide_eq_true ⟨h, by omega, by omega⟩]; rfl
theorem badTime_any (s k : Int) (w : World) : Calls Tryz.prog 108 #[.agg #[intV s, intV k]] w fun e w' => e = .returned (.bool (badT s k)) ∧ Fr w w' (fun _ => False) := by
  have HF := Lib.hid (Fr.new w (.cells #[intV s, intV k] 44) (fun _ => False))
  have HW := Lib.hid (fun w => nwithin_any s 604799 w (by omega))
  cases hb : decide (within s 604799) with
  | false =>
    have HB := Lib.hid (badT_no (k := k) (of_decide_eq_false hb))
    rw [hb] at HW
    clear hb
    go_enter Tryz.func108, Tryz.ntmps108
    go_wp2_with fail
    refine (HW.out _).mono ?_
    rintro e w2 ⟨rfl, rfl⟩
    go_wp2_with fail
    go_ret
    exact ⟨by rw [HB.out]; rfl, HF.out⟩
  | true =>
    have HB := Lib.hid (badT_yes (k := k) (of_decide_eq_true hb))
    rw [hb] at HW
    clear hb
    go_enter Tryz.func108, Tryz.ntmps108
    go_wp2_with fail
    refine (HW.out _).mono ?_
    rintro e w2 ⟨rfl, rfl⟩
    go_wp2_with fail
    · go_ret
      exact ⟨by rw [HB.out]; rfl, HF.out⟩
    · rename_i hk
      go_ret
      exact ⟨by rw [HB.out, decide_eq_true hk]; rfl, HF.out⟩
def badR (r : RuleL) : Bool := !decide (Den.ruleOk r)
theorem badR_no {r : RuleL} (h : ¬ within r.save 86400) : badR r = true := by unfold badR; rw [decide_eq_false (fun c => h c.1)]; rfl
theorem badR_yes {r : RuleL} (h : within r.save 86400) : badR r = badT r.at_.s r.at_.k := by
  unfold badR badT
  congr 1
  rw [decide_eq_decide]
  exact ⟨fun c => ⟨c.2.1, c.2.2.1, c.2.2.2⟩, fun c => ⟨h, c.1, c.2.1, c.2.2⟩⟩
theorem badRule_any (r : RuleL) (w : World) : Calls Tryz.prog 84 #[.agg (ruleC r)] w fun e w' => e = .returned (.bool (badR r)) ∧ Fr w w' (fun _ => False) := by
  have HF := Lib.hid (Fr.new w (.cells (ruleC r) 72) (fun _ => False))
  have hb := Blk.made w 72 (ruleC r)
  have c7 : (w.alloc (.cells (ruleC r) 72)).cell? ⟨w.heap.size, 7, none⟩ = some (.int .i64 r.at_.s) := blkc hb 7 _ rfl
  have c8 : (w.alloc (.cells (ruleC r) 72)).cell? ⟨w.heap.size, 8, none⟩ = some (.int .i64 r.at_.k) := blkc hb 8 _ rfl
  have c9 : (w.alloc (.cells (ruleC r) 72)).cell? ⟨w.heap.size, 9, none⟩ = some (.int .i64 r.save) := blkc hb 9 _ rfl
  have HW := Lib.hid (fun w => nwithin_any r.save 86400 w (by omega))
  have HT := Lib.hid (fun w => badTime_any r.at_.s r.at_.k w)
  clear hb
  cases hb : decide (within r.save 86400) with
  | false =>
    have HB := Lib.hid (badR_no (of_decide_eq_false hb))
    rw [hb] at HW
    clear hb
    go_enter Tryz.func84, Tryz.ntmps84
    go_wp2_with fail
    refine (HW.out _).mono ?_
    rintro e w2 ⟨rfl, rfl⟩
    go_wp2_with fail
    go_ret
    exact ⟨by rw [HB.out]; rfl, HF.out⟩
  | true =>
    have HB := Lib.hid (badR_yes (of_decide_eq_true hb))
    rw [hb] at HW
    clear hb
    generalize badT r.at_.s r.at_.k = b at *
    go_enter Tryz.func84, Tryz.ntmps84
    go_wp2_with fail
    refine (HW.out _).mono ?_
    rintro e w2 ⟨rfl, rfl⟩
    go_wp2_with fail
    refine (HT.out _).mono ?_
    rintro e w3 ⟨rfl, hf3⟩
    go_wp2_with fail
    go_ret
    exact ⟨by rw [HB.out]; rfl, ff4 HF.out hf3⟩
/-- an until's clock, as the program has it -/
def clockN (u : UntilL) : Int × Bool := if u.has = true ∧ (clockD u).2 = true then ((clockD u).1, true) else (0, false)
theorem clockN_has {u : UntilL} (h : u.has = false) : clockN u = (0, false) := if_neg (by rw [h]; simp)
theorem clockN_no {u : UntilL} (h : (clockD u).2 = false) : clockN u = (0, false) := if_neg (by rw [h]; simp)
theorem clockN_yes {u : UntilL} (h : u.has = true) (h2 : (clockD u).2 = true) : clockN u = ((clockD u).1, true) := if_pos ⟨h, h2⟩
theorem clockM_none {u : UntilL} (h : numX u.on u.year u.month = none) : (clockD u).2 = false := by unfold clockD; rw [h]
theorem clockM_some {u : UntilL} {n : Int} (h : numX u.on u.year u.month = some n) : clockD u = (n * 86400 + u.at_.s, decide (1 ≤ u.year ∧ u.year ≤ 9999)) := by unfold clockD; rw [h]
theorem clockM_year {u : UntilL} (h : u.year < 1 ∨ 9999 < u.year) : (clockD u).2 = false := by
  unfold clockD
  split
  · rfl
  · exact decide_eq_false (by omega)
set_option maxHeartbeats 1600000 in
set_option maxRecDepth 100000 in
theorem nclock_any (u : UntilL) (w : World) (hw : S6.WOk w) (hs : -700000 ≤ u.at_.s ∧ u.at_.s ≤ 700000) : Calls Tryz.prog 55 #[.agg (tilC u)] w fun e w' => e = .returned (.tuple #[intV (clockN u).1, .bool (clockN u).2]) ∧ Fr w w' (fun _ => False) := by
  obtain ⟨n, j, hnj⟩ : ∃ n j, S6.ofD u.on.k u.on.d u.on.w u.year u.month = (n, j) := ⟨_, _, rfl⟩
  have HO := Lib.hid (fun W (hW : S6.WOk W) => S6.Of_any u.on.k u.on.d u.on.w u.year u.month W hW n j hnj)
  obtain ⟨N0, N1⟩ := num_of hnj
  have HB := Lib.hid (Blk.made w 46 (tilC u))
  have HF := Lib.hid (Fr.new w (.cells (tilC u) 46) (fun _ => False))
  have HW := Lib.hid (hw.fr HF.out)
  have hb := HB.out
  have c1 : (w.alloc (.cells (tilC u) 46)).cell? ⟨w.heap.size, 1, none⟩ = some (.int .i64 u.year) := blkc hb 1 _ rfl
  have c2 : (w.alloc (.cells (tilC u) 46)).cell? ⟨w.heap.size, 2, none⟩ = some (.int .i64 u.month) := blkc hb 2 _ rfl
  have c3 : (w.alloc (.cells (tilC u) 46)).cell? ⟨w.heap.size, 3, none⟩ = some (.int .i64 u.on.k) := blkc hb 3 _ rfl
  have c4 : (w.alloc (.cells (tilC u) 46)).cell? ⟨w.heap.size, 4, none⟩ = some (.int .i64 u.on.d) := blkc hb 4 _ rfl
  have c5 : (w.alloc (.cells (tilC u) 46)).cell? ⟨w.heap.size, 5, none⟩ = some (.int .i64 u.on.w) := blkc hb 5 _ rfl
  have c0 : (w.alloc (.cells (tilC u) 46)).cell? ⟨w.heap.size, 0, none⟩ = some (.bool u.has) := blkc hb 0 _ rfl
  clear hnj hb hw
  cases hh : u.has with
  | false =>
    have HC := Lib.hid (clockN_has hh)
    rw [hh] at c0
    clear N0 N1 hh
    go_enter Tryz.func55, Tryz.ntmps55
    go_wp2_with fail
    go_ret2
    exact ⟨by rw [HC.out]; rfl, HF.out⟩
  | true =>
    have HH := Lib.hid hh
    rw [hh] at c0
    clear hh
    have h4 : u.year < 1 ∨ (1 ≤ u.year ∧ 9999 < u.year) ∨ (1 ≤ u.year ∧ u.year ≤ 9999 ∧ j ≠ 0) ∨ (1 ≤ u.year ∧ u.year ≤ 9999 ∧ j = 0) := by omega
    rcases h4 with h1 | ⟨h1, h2⟩ | ⟨h1, h2, hj⟩ | ⟨h1, h2, rfl⟩
    · have HC := Lib.hid (clockN_no (clockM_year (.inl h1)))
      clear N0 N1
      go_enter Tryz.func55, Tryz.ntmps55
      go_wp2_with fail
      go_ret2
      exact ⟨by rw [HC.out]; rfl, HF.out⟩
    · have HC := Lib.hid (clockN_no (clockM_year (.inr h2)))
      clear N0 N1
      go_enter Tryz.func55, Tryz.ntmps55
      go_wp2_with fail
      go_ret2
      exact ⟨by rw [HC.out]; rfl, HF.out⟩
    · have HC := Lib.hid (clockN_no (clockM_none (N1 hj)))
      have hj : (j == 0) = false := beq_eq_false_iff_ne.2 hj
      clear N0 N1
      go_enter Tryz.func55, Tryz.ntmps55
      go_wp2_with fail
      refine (HO.out _ HW.out).mono ?_
      rintro e w2 ⟨rfl, hf2⟩
      have HF2 := Lib.hid (ff4 HF.out hf2)
      clear hf2 c0 c1 c2 c3 c4 c5
      go_wp2_with fail
      go_ret2
      exact ⟨by rw [HC.out]; rfl, HF2.out⟩
    · have hnum := N0 rfl
      obtain ⟨r1, r2⟩ := numX_range hnum
      have HC := Lib.hid (show clockN u = (n * 86400 + u.at_.s, true) by
        have h := clockM_some hnum
        rw [clockN_yes HH.out (by rw [h]; exact decide_eq_true ⟨h1, h2⟩), h])
      obtain ⟨s1, s2⟩ := hs
      have hw1 : IntKind.i64.wrap (n * 86400) = n * 86400 := by rw [IntKind.wrap_i64]; omega
      have hw2 : IntKind.i64.wrap (n * 86400 + u.at_.s) = n * 86400 + u.at_.s := by rw [IntKind.wrap_i64]; omega
      clear N0 N1 hnum
      go_enter Tryz.func55, Tryz.ntmps55
      go_wp2_with fail
      refine (HO.out _ HW.out).mono ?_
      rintro e w2 ⟨rfl, hf2⟩
      have HF2 := Lib.hid (ff4 HF.out hf2)
      have hb2 := hf2.blk HB.out (fun h => h)
      have d6 : w2.cell? ⟨w.heap.size, 6, none⟩ = some (.int .i64 u.at_.s) := blkc hb2 6 _ rfl
      clear hf2 hb2 c0 c1 c2 c3 c4 c5
      go_wp2_with fail
      go_ret2
      exact ⟨by rw [HC.out]; rfl, HF2.out⟩
end Go.Proofs.YtghcfmoagkimaaaGreatDoor
