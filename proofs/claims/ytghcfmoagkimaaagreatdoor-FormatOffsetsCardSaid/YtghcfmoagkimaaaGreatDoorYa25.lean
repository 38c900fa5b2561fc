import Derived.Test.YtghcfmoagkimaaaGreatDoorYa24
import Derived.Test.YtghcfmoagkimaaaGreatDoorYa17
import Derived.Test.YtghcfmoagkimaaaGreatDoorYa19
import Derived.Test.YtghcfmoagkimaaaGreatDoorYa12
import Derived.Shelf.SlSortCmp.NoneTotal
import Derived.RangeFuncNested
import Derived.RangeFuncBound
import Derived.RangeFuncCalls
import Derived.RangeFuncLeaves
import Derived.Shelf.Abstract
import Derived.Shelf.RegionOpen
import Derived.WalkKit
import Derived.OwnWalkIn
import Derived.TacticsInMore
import Derived.LoopNIn
import Derived.LoopIn
import Derived.Test.YtghcfmoagkimaaaGreatDoorYa10
import Derived.Test.YtghcfmoagkimaaaGreatDoorYa14
import Derived.Test.YtghcfmoagkimaaaGreatDoorYa16
import Derived.Lib.MinMax
namespace Go.Mem
section
variable {P : Program} {ops : Array Oper} {o : Oper} {a : Act}
theorem yields_build {S : World → Prop} (t : TypeId) (parts : Array (Nat × Operand)) (v : Value) (hgd : Region.wanted o (yielded ops a.tmps) = true) (ho : o.op = .build t parts) (h : ∀ w, (Instr.build t (parts.map fun (i, x) => (i, a.eval x))).run P w = .ok v w) : YieldsIf P ops S o v a :=
  .inl ⟨hgd, fun w _ => by
    unfold execOp
    simp only [ho, Sem.run_bind, h, Sem.run_pure, Result.andThen_ok]⟩
end
end Go.Mem
namespace Go.Proofs.YtghcfmoagkimaaaGreatDoor
open Go.RowKit Go.Mem Go.Lin Go.Xpd

theorem late_i {r : RuleL} {p year : Int} {m : FireL} (h : lateR r p year = some m) : m.i = p := by
  have := (fireR_some.1 (lateR_some h).2.1).2
  rw [this]
set_option maxHeartbeats 3200000 in
set_option maxRecDepth 100000 in
theorem save_any (l : List RuleL) (A : Option Addr) (cap : Nat) (y : Int) (w : World) (hw : S6.WOk w) (hl : RusAt w A l) (hn : l.length ≤ 1000) (hr : ∀ r ∈ l, OkF r) (hy : -20000 ≤ y ∧ y ≤ 20002) :
    Calls Tryz.prog 147 #[.slice A l.length cap, intV y] w fun e w' => e = .returned (intV (befY l y)) ∧ Fr w w' (fun _ => False) := by
  have HW := Lib.hid hw
  have HL := Lib.hid hl
  have HRr := Lib.hid hr
  clear hw hl hr
  go_enter Tryz.func147, Tryz.ntmps147
  go_wp2_with fail
  go_loopg [5, 6, 7, 10] l.length (fun g v5 _ _ v10 wr => ∃ i : Nat, i + g = l.length ∧ v10 = intV i ∧ XFires wr w.heap.size v5 (lateN l y i) ∧ Fr w wr (fun _ => False))
  case atStart => exact ⟨0, by simp, rfl, own_none _ _ _ _ _, Fr.refl _ _⟩
  case round =>
    obtain ⟨i, hi, rfl, ho, hf⟩ := hrel
    obtain ⟨A5, c5, rfl⟩ := ho.slice
    have HF := Lib.hid hf
    have HO := Lib.hid ho
    have hll := lateN_len l y i
    obtain ⟨L, hL⟩ : ∃ L, lateN l y i = L := ⟨_, rfl⟩
    have HLv := Lib.hid hL
    rw [hL] at HO hll ⊢
    clear hf ho hL
    by_cases hlt : i < l.length
    · obtain ⟨r, hri⟩ : ∃ r, l[i]? = some r := ⟨l[i], List.getElem?_eq_getElem hlt⟩
      obtain ⟨b, off, hA, hc⟩ := (HL.out.kept HF.out).at_ hri
      subst hA
      have hok := HRr.out r (List.mem_of_getElem? hri)
      have hto := hok.okR.tt
      have HSr := Lib.hid hok.okR.s
      have HCx := Lib.hid hc
      have HN := Lib.hid (show lateN l y (i + 1) = L ++ (nearD r i (min (y - 1) (withD r.to)) (-1) 8).toList by rw [lateN_some hri, HLv.out]; rfl)
      have i0 : (i : Int) < (l.length : Int) := by omega
      have n2 := Fr.new wr (.cells #[.string ⟨#[]⟩, .int .i64 0, .int .i64 0, .int .i64 0, .int .i64 0, .int .i64 0, .int .i64 0, .int .i64 0, .int .i64 0, .int .i64 0, .string ⟨#[]⟩] 72) (fun _ => False)
      have HF2 := Lib.hid n2
      have HB2 := Lib.hid (show Blk _ wr.heap.size 72 (ruleC ruleZ) from Blk.made wr 72 (ruleC ruleZ))
      have hwd : 1 ≤ withD r.to ∧ withD r.to ≤ 9999 := by unfold withD; omega
      obtain ⟨t1, t2⟩ := hto
      have hwr : IntKind.i64.wrap (y - 1) = y - 1 := by rw [IntKind.wrap_i64]; omega
      clear hc hri hok n2
      go_wp2_with (first
        | ((with_reducible refine at_load4 72 ?_); refine wpList_load_at 72 _ b (off + i * 11) (ruleC r) _ (by rfl) rfl rfl HCx.out Tryz.underlying72 rfl (infoR _) ?_)
        | ((with_reducible refine at_store4 72 ?_); refine wpList_store_blk 72 _ _ wr.heap.size 0 72 (ruleC ruleZ) (ruleC r) (ruleC r) (by rfl) rfl rfl rfl rfl HB2.out (infoR _) (ruleC_one _) (show 0 + 11 ≤ 11 by decide) (put_ra _ _) ?_
           intro W3 hf3 hb3
           have HF3 := Lib.hid (HF2.out.fresh hf3 (fun i e => by have e : i = wr.heap.size := e; omega))
           have HB3 := Lib.hid hb3
           clear hf3 hb3 HF2 HB2))
      refine wp_region_held_drew (S := fun w' => TF w W3 w') (by kernel_rfl) (tf_of (Fr.drew _ _)) (fun hHeld => ?_)
      refine wpAnyH_take (i := 0) (v := ?_) rfl (by kernel_rfl) (by kernel_rfl) (by kernel_rfl) (fun _ _ _ h => h) (Or.inl ⟨by rfl, ?_⟩) (by assumption) ?_
      rotate_left
      · intro w' hSw
        go_simp
        try with_reducible rfl
      try simp only [Act.put, List.setIfInBounds_toArray, List.set_cons_zero, List.set_cons_succ, List.getElem_toArray, List.getElem_cons_zero]
      refine wpAnyH_take (i := 1) (v := _) rfl (by kernel_rfl) (by kernel_rfl) (by kernel_rfl) (fun _ _ _ h => h) ((yields_blk 72 _ wr.heap.size 0 72 (ruleC r) (ruleC r) _ (by rfl) rfl rfl (fun w' hSw => tf_far hSw HB3.out (by decide)) Tryz.underlying72 rfl (infoR _) (zero_part _))) (by assumption) ?_
      try simp only [Act.put, List.setIfInBounds_toArray, List.set_cons_zero, List.set_cons_succ, List.getElem_toArray, List.getElem_cons_succ, List.getElem_cons_zero]
      refine wpAnyH_take (i := 2) (v := ?_) rfl (by kernel_rfl) (by kernel_rfl) (by kernel_rfl) (fun _ _ _ h => h) (Or.inl ⟨by rfl, ?_⟩) (by assumption) ?_
      rotate_left
      · intro w' hSw
        go_simp
        try with_reducible rfl
      try simp only [Act.put, List.setIfInBounds_toArray, List.set_cons_zero, List.set_cons_succ, List.getElem_toArray, List.getElem_cons_succ, List.getElem_cons_zero]
      refine wpAnyH_take (i := 3) (v := _) rfl (by kernel_rfl) (by kernel_rfl) (by kernel_rfl) (fun _ _ _ h => h) ((yields_build 172 #[(0, .tmp 16), (1, .tmp 17)] (.agg (seatC r (i : Int))) (by rfl) rfl (fun w => by kernel_rfl))) (by assumption) ?_
      try simp only [Act.put, List.setIfInBounds_toArray, List.set_cons_zero, List.set_cons_succ, List.getElem_toArray, List.getElem_cons_succ, List.getElem_cons_zero]
      refine wpAnyH_take (i := 4) (v := ?_) rfl (by kernel_rfl) (by kernel_rfl) (by kernel_rfl) (fun _ _ _ h => h) (Or.inl ⟨by rfl, ?_⟩) (by assumption) ?_
      rotate_left
      · intro w' hSw
        go_simp
        try with_reducible rfl
      try simp only [Act.put, List.setIfInBounds_toArray, List.set_cons_zero, List.set_cons_succ, List.getElem_toArray, List.getElem_cons_succ, List.getElem_cons_zero]
      refine wpAnyH_take (i := 5) (v := ?_) rfl (by kernel_rfl) (by kernel_rfl) (by kernel_rfl) (fun _ _ _ h => h) (Or.inl ⟨by rfl, ?_⟩) (by assumption) ?_
      rotate_left
      · intro w' hSw
        go_simp
        try with_reducible rfl
      try simp only [Act.put, List.setIfInBounds_toArray, List.set_cons_zero, List.set_cons_succ, List.getElem_toArray, List.getElem_cons_succ, List.getElem_cons_zero]
      refine wpAnyH_take (i := 6) (v := ?_) rfl (by kernel_rfl) (by kernel_rfl) (by kernel_rfl) (fun _ _ _ h => h) (Or.inl ⟨by rfl, ?_⟩) (by assumption) ?_
      rotate_left
      · intro w' hSw
        go_simp
        try with_reducible rfl
      try simp only [Act.put, List.setIfInBounds_toArray, List.set_cons_zero, List.set_cons_succ, List.getElem_toArray, List.getElem_cons_succ, List.getElem_cons_zero]
      refine wpAnyH_take (i := 7) (v := ?_) rfl (by kernel_rfl) (by kernel_rfl) (by kernel_rfl) (fun _ _ _ h => h) (Or.inl ⟨by rfl, ?_⟩) (by assumption) ?_
      rotate_left
      · intro w' hSw
        go_simp
        try with_reducible rfl
      try simp only [Act.put, List.setIfInBounds_toArray, List.set_cons_zero, List.set_cons_succ, List.getElem_toArray, List.getElem_cons_succ, List.getElem_cons_zero]
      refine wpAnyH_take (i := 8) (v := ?_) rfl (by kernel_rfl) (by kernel_rfl) (by kernel_rfl) (fun _ _ _ h => h) (Or.inl ⟨by rfl, ?_⟩) (by assumption) ?_
      rotate_left
      · intro w' hSw
        have c2 : w'.cell? ⟨wr.heap.size, 2, none⟩ = some (.int .i64 r.to) := blkc (tf_far hSw HB3.out (by decide)) 2 _ rfl
        go_simp
        try with_reducible rfl
      try simp only [Act.put, List.setIfInBounds_toArray, List.set_cons_zero, List.set_cons_succ, List.getElem_toArray, List.getElem_cons_succ, List.getElem_cons_zero]
      refine wpAnyH_ready (rs := [9]) (by kernel_rfl) (by simp) ?_
      refine AllReadyH.cons rfl (fun K hK => ?_) AllReadyH.nil
      go_simp
      refine (within_any r.to _ (by omega)).mono ?_
      rintro e w6 ⟨rfl, rfl⟩
      refine hK.out _ _ (hHeld) (fun hHeld2 => ?_)
      clear hK K hHeld
      rename_i hHeld2
      have hHeld := hHeld2
      clear hHeld2
      try simp only [Act.put, List.setIfInBounds_toArray, List.set_cons_zero, List.set_cons_succ, List.getElem_toArray, List.getElem_cons_succ, List.getElem_cons_zero]
      refine wpAnyH_take (i := 10) (v := ?_) rfl (by kernel_rfl) (by kernel_rfl) (by kernel_rfl) (fun _ _ _ h => h) (Or.inl ⟨by rfl, ?_⟩) (by assumption) ?_
      rotate_left
      · intro w' hSw
        go_simp
        try with_reducible rfl
      try simp only [Act.put, List.setIfInBounds_toArray, List.set_cons_zero, List.set_cons_succ, List.getElem_toArray, List.getElem_cons_succ, List.getElem_cons_zero]
      refine wpAnyH_ready (rs := [11]) (by kernel_rfl) (by simp) ?_
      refine AllReadyH.cons rfl (fun K hK => ?_) AllReadyH.nil
      go_simp
      refine (near_any r (i : Int) L (.slice A5 L.length c5) (min (y - 1) (withD r.to)) w _ HW.out (ff4 HF.out (ff4 HF3.out (Fr.drew _ _))) (HO.out.kept (ff4 HF3.out (Fr.drew _ _))) (by omega) HSr.out (by omega)).mono ?_
      rintro e w7 ⟨v9, rfl, ho9, ht9⟩
      obtain ⟨A9, c9, rfl⟩ := ho9.slice
      refine hK.out _ _ (tf_trans hHeld ht9) (fun hHeld2 => ?_)
      clear hK K hHeld
      rename_i hHeld2
      have hHeld := hHeld2
      clear hHeld2
      have HO9 := Lib.hid ho9
      clear ho9 ht9
      try simp only [Act.put, List.setIfInBounds_toArray, List.set_cons_zero, List.set_cons_succ, List.getElem_toArray, List.getElem_cons_succ, List.getElem_cons_zero]
      refine wpAnyH_take (i := 12) (v := ?_) rfl (by kernel_rfl) (by kernel_rfl) (by kernel_rfl) (fun _ _ _ h => h) (Or.inl ⟨by rfl, ?_⟩) (by assumption) ?_
      rotate_left
      · intro w' hSw
        go_simp
        try with_reducible rfl
      try simp only [Act.put, List.setIfInBounds_toArray, List.set_cons_zero, List.set_cons_succ, List.getElem_toArray, List.getElem_cons_succ, List.getElem_cons_zero]
      refine wpAnyH_done (by kernel_rfl) ?_ _
      have HF9 := Lib.hid (tf_low (ff4 HF.out HF3.out) hHeld)
      clear hHeld
      go_wp2_with fail
      go_roundg (l.length - (i + 1))
      case measure => omega
      case rel => exact ⟨i + 1, by omega, by go_num, by rw [HN.out, ← List.length_append]; exact HO9.out, HF9.out⟩
    · obtain rfl : i = l.length := by omega
      cases L with
      | nil =>
        have HE := Lib.hid (ahead_none HLv.out)
        clear hll
        go_wp2_with fail
        go_ret
        exact ⟨by rw [HE.out]; rfl, HF.out⟩
      | cons g0 t0 =>
        obtain ⟨L, hL⟩ : ∃ L, g0 :: t0 = L := ⟨_, rfl⟩
        have h0 : 0 < L.length := by rw [← hL]; simp
        rw [hL] at HO HLv hll ⊢
        clear hL
        have e0 : ((L.length : Int) == 0) = false := by rw [beq_eq_false_iff_ne]; omega
        obtain ⟨A9, c9, hv9, -, -, hrd⟩ := HO.out.rd
        injection hv9 with h1 _ h3
        rw [← h1] at hrd
        have HQ := Lib.hid (max_any L A5 c5 wr hrd h0 (by omega))
        clear hrd h1 h3 h0
        go_wp2_with fail
        refine HQ.out.mono ?_
        rintro e w2 ⟨m, he, hm, hx, hf2⟩
        have hmm := hm
        rw [← HLv.out] at hm hx
        obtain ⟨k, r, hk, hri, hla⟩ := lateN_mem.1 hm
        have hmi := late_i hla
        have he : e = .returned (.agg #[intV (k : Int), intV m.y, intV m.at_, intV m.bef]) := he.trans (by rw [← hmi]; rfl)
        subst he
        have HE := Lib.hid (show befY l y = r.save by
          rw [ahead_some hm hx]
          unfold savD
          rw [hmi, Int.toNat_natCast, hri])
        have HF2 := Lib.hid (ff4 HF.out hf2)
        obtain ⟨b, off, hA, hc⟩ := (HL.out.kept HF2.out).at_ hri
        subst hA
        have c9 : w2.cell? ⟨b, off + k * 11 + 9, none⟩ = some (.int .i64 r.save) := hc 9 (show 9 < 11 by decide)
        have k0 : (k : Int) < (l.length : Int) := by omega
        have hfi : (Instr.field 166 (.agg #[intV (k : Int), intV m.y, intV m.at_, intV m.bef]) 0).run Tryz.prog w2 = .ok (intV (k : Int)) w2 := by kernel_rfl
        clear he hm hx hmm hf2 hc hla hmi hri
        go_wp2_with fail
        go_ret
        exact ⟨by rw [HE.out]; rfl, HF2.out⟩
end Go.Proofs.YtghcfmoagkimaaaGreatDoor
namespace Go.Proofs.YtghcfmoagkimaaaGreatDoor
open Go.RowKit Go.Mem Go.Lin Go.Xpd

/-- fires that follow one another, each with the saving ahead -/
def markH (l : List RuleL) : List FireL → List FireL
  | [] => []
  | f :: t => markF l (befY l f.y) (f :: t)
set_option maxHeartbeats 3200000 in
set_option maxRecDepth 100000 in
theorem setB_any (l : List RuleL) (A : Option Addr) (cap : Nat) (F : List FireL) (v : Value) (w0 w : World) (hw : S6.WOk w0) (h0 : Fr w0 w (fun _ => False)) (hl : RusAt w0 A l) (hn : l.length ≤ 1000) (hr : ∀ r ∈ l, OkF r)
    (ho : XFires w w0.heap.size v F) (hFl : F.length ≤ 100000) (hF : ∀ f ∈ F, (1 ≤ f.y ∧ f.y ≤ 9999) ∧ ∃ (k : Nat) (r : RuleL), l[k]? = some r ∧ f.i = k) :
    Calls Tryz.prog 142 #[.slice A l.length cap, v] w fun e w' => e = .returned (.tuple #[]) ∧ XFires w' w0.heap.size v (markH l F) ∧ Fr w0 w' (fun _ => False) := by
  obtain ⟨A4, c4, rfl⟩ := ho.slice
  have HL := Lib.hid hl
  have HF0 := Lib.hid h0
  have HO0 := Lib.hid ho
  have HFi := Lib.hid hF
  cases F with
  | nil =>
    clear ho hF h0 hl hw hr
    rw [List.length_nil] at HO0 ⊢
    go_enter Tryz.func142, Tryz.ntmps142
    go_wp2_with fail
    exact bodyPost_ret (results_none rfl _ _ _) rfl ⟨rfl, HO0.out, HF0.out⟩
  | cons f0 t0 =>
    obtain ⟨s, hs⟩ : ∃ s, befY l f0.y = s := ⟨_, rfl⟩
    have HM := Lib.hid (show markH l (f0 :: t0) = markF l s (f0 :: t0) by rw [← hs]; rfl)
    have hy0 := (hF f0 (by simp)).1
    have HQ := Lib.hid (save_any l A cap f0.y w (hw.fr h0) (hl.kept h0) hn hr (by omega))
    rw [hs] at HQ
    obtain ⟨A9, c9, hv9, -, -, hrd⟩ := ho.rd
    injection hv9 with h1 _ h3
    rw [← h1] at hrd
    obtain ⟨b0, o0, e8, hc0⟩ := FiresAt.at_ hrd (i := 0) (f := f0) rfl
    subst e8
    have c1 : w.cell? ⟨b0, o0 + 1, none⟩ = some (.int .i64 f0.y) := by
      have := hc0 1 (show 1 < 4 by decide)
      rw [Nat.zero_mul, Nat.add_zero] at this
      exact this
    obtain ⟨F, hFv⟩ : ∃ F, f0 :: t0 = F := ⟨_, rfl⟩
    have hp : 0 < F.length := by rw [← hFv]; simp
    rw [hFv] at HO0 HFi HM hFl ⊢
    have e0 : ((F.length : Int) == 0) = false := by rw [beq_eq_false_iff_ne]; omega
    have p0 : (0 : Int) < (F.length : Int) := by omega
    clear hFv hF hrd hc0 ho h0 hl hw hr h1 h3 hs
    go_enter Tryz.func142, Tryz.ntmps142
    go_wp2_with fail
    refine HQ.out.mono ?_
    rintro e w2 ⟨rfl, hf2⟩
    have HF2 := Lib.hid (ff4 HF0.out hf2)
    have HO2 := Lib.hid (HO0.out.kept hf2)
    clear hf2 c1 HO0
    go_wp2_with fail
    go_loopg [4, 5, 17] F.length (fun g v4 _ v17 wr => ∃ m : Nat, m + g = F.length ∧ v17 = intV m ∧ v4 = intV (endS l s (F.take m)) ∧ XFires wr w0.heap.size (.slice (some ⟨b0, o0, none⟩) F.length c4) (markF l s (F.take m) ++ F.drop m) ∧ Fr w0 wr (fun _ => False))
    case atStart => exact ⟨0, by simp, rfl, rfl, HO2.out, HF2.out⟩
    case round =>
      obtain ⟨m, hm, rfl, rfl, ho5, hf5⟩ := hrel
      have HF5 := Lib.hid hf5
      by_cases hlt : m < F.length
      · obtain ⟨x, hx⟩ : ∃ x, F[m]? = some x := ⟨F[m], List.getElem?_eq_getElem hlt⟩
        obtain ⟨-, k, r, hk, hxi⟩ := HFi.out x (List.mem_of_getElem? hx)
        have hsv : savD l x.i = r.save := by
          unfold savD
          rw [hxi, Int.toNat_natCast, hk]
        obtain ⟨M1, M2⟩ := markF_next (l := l) (s := s) hx
        have hpl : (markF l s (F.take m)).length = m := by rw [markF_len, List.length_take]; omega
        have hd : F.drop m = x :: F.drop (m + 1) := by
          have := List.getElem?_eq_some_iff.1 hx
          rw [← this.2]; exact List.drop_eq_getElem_cons hlt
        rw [hd] at ho5
        obtain ⟨g, c, cur, hv, hgb, hbk, hsz3, hput⟩ := own_put fireL_len ho5 (show 3 < 4 by decide)
        rw [hpl] at hsz3 hput
        obtain ⟨rfl, rfl, rfl⟩ : b0 = g ∧ o0 = 0 ∧ c4 = c := by
          injection hv with h1 h2 h3
          injection h1 with h1
          injection h1 with h1 h4 _
          exact ⟨h1, h4, h3⟩
        have HSV := Lib.hid (M2.trans hsv)
        obtain ⟨sv, hsve⟩ : ∃ sv, endS l s (F.take m) = sv := ⟨_, rfl⟩
        rw [hsve] at M1 ⊢
        have hput := fun W hW => hput W (intV sv) { x with bef := sv } rfl hW
        rw [show markF l s (F.take m) ++ { x with bef := sv } :: F.drop (m + 1) = markF l s (F.take (m + 1)) ++ F.drop (m + 1) by rw [M1]; simp] at hput
        have HPUT := Lib.hid hput
        have HBK := Lib.hid hbk
        have HK := Lib.hid hk
        have HXI := Lib.hid hxi
        have hgm : (markF l s (F.take (m + 1)) ++ F.drop (m + 1))[m]? = some { x with bef := sv } := by
          rw [M1, List.append_assoc, List.getElem?_append_right (by omega), hpl, Nat.sub_self]; rfl
        have HGM := Lib.hid hgm
        have hml : (markF l s (F.take (m + 1)) ++ F.drop (m + 1)).length = F.length := by rw [List.length_append, markF_len, List.length_take, List.length_drop]; omega
        have HML := Lib.hid hml
        have m0 : (m : Int) < (F.length : Int) := by omega
        have k0 : (k : Int) < (l.length : Int) := by have := (List.getElem?_eq_some_iff.1 hk).1; omega
        clear hx hk hxi hsv M1 M2 hpl hd ho5 hv hbk hput hsve hgm hml hf5
        have hfz : wr.frozen? ⟨b0, m * 4 + 3, none⟩ = false := free_at HBK.out _
        have hce : wr.cell? ⟨b0, m * 4 + 3, none⟩ = some cur[m * 4 + 3] := (cell_at HBK.out _).trans (Array.getElem?_eq_getElem hsz3)
        have hfW := Fr.set (w := wr) (a := ⟨b0, m * 4 + 3, none⟩) (v := intV sv) (S := fun i => i = b0) rfl
        have hbW := HBK.out.put' (m * 4 + 3) (intV sv) rfl
        generalize cur[m * 4 + 3] = old at *
        obtain ⟨W, hW9⟩ : ∃ W, wr.setCell ⟨b0, m * 4 + 3, none⟩ (intV sv) = W := ⟨_, rfl⟩
        rw [hW9] at hfW hbW
        have HFW := Lib.hid (HF5.out.fresh (show Fr _ W (fun i => i = b0) from hfW) fun i h => by have h : i = b0 := h; rw [h]; exact hgb)
        have HOW := Lib.hid (HPUT.out W hbW)
        have c0 : W.cell? ⟨b0, m * 4, none⟩ = some (.int .i64 (k : Int)) := by
          obtain ⟨A9, c9, e9, -, -, hrd⟩ := HOW.out.rd
          rw [HML.out] at e9
          injection e9 with e9 _ _
          rw [← e9] at hrd
          obtain ⟨b9, o9, e8, hc9⟩ := FiresAt.at_ hrd HGM.out
          injection e8 with e8
          injection e8 with e7 e6 _
          have := hc9 0 (show 0 < 4 by decide)
          rw [← e7, ← e6, Nat.zero_add, Nat.add_zero] at this
          rw [this, ← HXI.out]; rfl
        obtain ⟨b, off, hA, hc⟩ := (HL.out.kept HFW.out).at_ HK.out
        subst hA
        have c9 : W.cell? ⟨b, off + k * 11 + 9, none⟩ = some (.int .i64 r.save) := hc 9 (show 9 < 11 by decide)
        clear hc hfW hbW
        subst hW9
        go_wp2_with fail
        go_roundg (F.length - (m + 1))
        case measure => omega
        case rel => exact ⟨m + 1, by omega, by go_num, by rw [HSV.out], HOW.out, HFW.out⟩
      · obtain rfl : m = F.length := by omega
        rw [List.take_length, List.drop_length, List.append_nil] at ho5
        have HO9 := Lib.hid ho5
        clear ho5 hf5
        go_wp2_with fail
        go_end0
        exact ⟨rfl, by rw [HM.out]; exact HO9.out, HF5.out⟩
end Go.Proofs.YtghcfmoagkimaaaGreatDoor
namespace Go.Mem
open Go.Sort
/- a row of the call's own as the library's sort has it -/
theorem flatK_list {X : Type} [Inhabited X] {f : X → List Value} {k : Nat} (hf : ∀ x, (f x).length = k) (l : List X) : (flatK f k l.toArray).toList = l.flatMap f := by
  apply List.ext_getElem
  · simp only [Array.length_toList, size_flatK, List.size_toArray]
    rw [Go.Mem.flat_len f k hf]
  · intro t h1 h2
    have ht : t < l.length * k := by
      simp only [Array.length_toList, size_flatK, List.size_toArray] at h1; exact h1
    have hk : 0 < k := by
      rcases Nat.eq_zero_or_pos k with h | h
      · rw [h] at ht; omega
      · exact h
    have hi : t / k < l.length := (Nat.div_lt_iff_lt_mul hk).2 ht
    have h3 := get_flatK f k l.toArray t (by simpa using ht)
    have h4 := flat_get f k hf (List.getElem?_eq_getElem hi) (t % k) (Nat.mod_lt _ hk)
    rw [show t / k * k + t % k = t from Nat.div_add_mod' t k] at h4
    have h5 : (flatK f k l.toArray)[t]! = (flatK f k l.toArray)[t]'(by simpa using ht) := getElem!_pos _ _ _
    rw [Array.getElem_toList, ← h5, h3, getElem!_pos l.toArray (t / k) (by simpa using hi)]
    have h6 : t % k < (f l[t / k]).length := by rw [hf]; exact Nat.mod_lt _ hk
    have h7 : l.toArray[t / k]'(by simpa using hi) = l[t / k] := by simp
    rw [h7, getElem!_pos (f l[t / k]) (t % k) h6]
    rw [List.getElem?_eq_getElem h2, List.getElem?_eq_getElem h6] at h4
    exact (Option.some.inj h4).symm
theorem put_take (c X : Array Value) (h : X.size ≤ c.size) : (putCells id 0 X c).toList.take X.size = X.toList := by
  apply List.ext_getElem?
  intro i
  unfold putCells
  rw [List.getElem?_take]
  split
  · rename_i hi
    rw [Array.getElem?_toList, Array.getElem?_mapIdx, Array.getElem?_eq_getElem (show i < c.size by omega), Array.getElem?_toList, Array.getElem?_eq_getElem hi]
    simp only [Option.map_some, Nat.zero_le, true_and, Nat.zero_add, hi, if_true, Nat.sub_zero, id]
    rw [getElem!_pos X i hi]
  · rename_i hi
    rw [List.getElem?_eq_none (by simpa using hi)]
theorem blk_put {w : World} {g : Nat} {t : TypeId} {cur : Array Value} (h : Blk w g t cur) (n : Nat) (X : Array Value) (os : Array Obj) : Blk (grow (putRow id (Go.Sort.ahead w n) g 0 X) os) g t (putCells id 0 X cur) := by
  unfold Blk at h ⊢
  have hl := (Array.getElem?_eq_some_iff.1 h).1
  show (w.heap.modify g (onCells (putCells id 0 X)) ++ os)[g]? = _
  rw [Array.getElem?_append_left (by simpa using hl), Array.getElem?_modify, if_pos rfl, h]
  rfl
theorem fr_put (w : World) (g n : Nat) (X : Array Value) (os : Array Obj) : Fr w (grow (putRow id (Go.Sort.ahead w n) g 0 X) os) (fun i => i = g) :=
  ⟨rfl, rfl, rfl, by
    show w.heap.size ≤ (w.heap.modify g (onCells (putCells id 0 X)) ++ os).size
    simp, fun i hi hn => by
    show (w.heap.modify g (onCells (putCells id 0 X)) ++ os)[i]? = _
    rw [Array.getElem?_append_left (by simpa using hi), Array.getElem?_modify, if_neg (fun e => hn e.symm)]⟩
end Go.Mem
namespace Go.Proofs.YtghcfmoagkimaaaGreatDoor
open Go.RowKit Go.Mem Go.Lin Go.Xpd

theorem ltOf_F (x y : FireL) : Go.Proofs.ltOf cfF x y = decide (ltF x y) := by
  unfold Go.Proofs.ltOf
  exact decide_eq_decide.2 cfF_lt
theorem swoF : Go.Sort.SWO (Go.Proofs.ltOf cfF) where
  irrefl x := by rw [ltOf_F]; exact decide_eq_false (ltF_irr x)
  trans x y z h1 h2 := by
    rw [ltOf_F] at *
    exact decide_eq_true (ltF_trans (of_decide_eq_true h1) (of_decide_eq_true h2))
  ntrans x y z h1 h2 := by
    rw [ltOf_F] at *
    exact decide_eq_false (ltF_ntrans (of_decide_eq_false h1) (of_decide_eq_false h2))
theorem sort_any (F : List FireL) (v : Value) (B : Nat) (w : World) (ho : XFires w B v F) (hF : F.length ≤ 1000000) :
    Calls Tryz.prog 141 #[v, .func (.func 123) #[] #[]] w fun e w' => e = .returned (.tuple #[]) ∧ ∃ d : List FireL, d.Perm F ∧ (d.Pairwise fun x y => ¬ ltF y x) ∧ XFires w' B v d ∧ Fr w w' (fun i => some i = v.ownBlock) := by
  have hlen := ho.1
  rcases ho.2 with ⟨h1, h2⟩ | ⟨g, cap, cur, rfl, hg, hb, hn, hm, hs, ht⟩
  · subst h1
    have hF0 : F = [] := by simpa using h2
    subst hF0
    have h := AnyF.slices_SortFunc_none Tryz.sortFi none 0 (.func (.func 123) #[] #[]) w
    change Calls Tryz.prog 141 _ _ _ at h
    refine h.mono ?_
    rintro e w' ⟨rfl, rfl⟩
    exact ⟨rfl, [], List.Perm.refl _, List.Pairwise.nil, own_none _ _ _ _ _, Fr.refl _ _⟩
  · have hb : Blk w g 166 cur := hb
    have hX : (Go.Sort.flatK fireL 4 F.toArray).size = F.length * 4 := by simp
    have hle : F.length * 4 ≤ cur.size := by rw [hs]; exact Nat.mul_le_mul_right 4 hn
    have hH : Go.Sort.HoldsK fireL 4 w g 0 F.toArray := by
      intro j hj
      rw [hX] at hj
      rw [Nat.zero_add]
      refine ⟨?_, free_at hb _⟩
      rw [cell_at hb]
      have h1 : (cur.toList.take (F.length * 4))[j]? = (F.flatMap fireL)[j]? := by rw [ht]
      rw [List.getElem?_take, if_pos hj, ← flatK_list fireL_len, Array.getElem?_toList, Array.getElem?_toList, Array.getElem?_eq_getElem (xs := Go.Sort.flatK fireL 4 F.toArray) (i := j) (by rw [hX]; exact hj)] at h1
      rw [h1, getElem!_pos _ _ (by rw [hX]; exact hj)]
      rfl
    have eg : ∀ args w, (callFunc 123 args).run Tryz.prog w = .ok (.enter 123 args) w := enters_of Tryz.func123 (by kernel_rfl) rfl
    have h := AnyQ.slices_SortFunc Tryz.sortFi 4 Tryz.isAgg166 Tryz.sizeOf166 fireL fireL_len (fun x u hu => by simp [fireL, fireC] at hu; rcases hu with rfl | rfl | rfl | rfl <;> rfl) cfF swoF 123 #[] g 0 cap F.toArray w eg
      (fun m os dk _ x y => order_grw x y _) hH hb.lt (by simp; omega)
    change Calls Tryz.prog 141 _ _ _ at h
    rw [List.size_toArray] at h
    refine h.mono ?_
    rintro e w' ⟨rfl, d', n, os, hp, hso, rfl⟩
    obtain ⟨hd1, -, hd2⟩ := hp
    have hsz : d'.size = F.length := by simpa using hd1
    have e1 : d'.extract 0 F.length = d' := by rw [← hsz]; exact Array.extract_size
    have e2 : F.toArray.extract 0 F.length = F.toArray := by rw [show F.length = F.toArray.size by simp]; exact Array.extract_size
    rw [e1, e2] at hd2
    have hpm : d'.toList.Perm F := by simpa using hd2
    refine ⟨rfl, d'.toList, hpm, ?_, ?_, ?_⟩
    · rw [List.pairwise_iff_getElem]
      intro i j hi hj hij
      have hi' : i < d'.size := by simpa using hi
      have hj' : j < d'.size := by simpa using hj
      have := hso i j (Nat.zero_le _) hij (by omega)
      rw [getElem!_pos d' j hj', getElem!_pos d' i hi', ltOf_F] at this
      simpa using of_decide_eq_false this
    · have hl : d'.toList.length = F.length := by simpa using hsz
      have hk := flatK_list fireL_len d'.toList
      have hX2 : (Go.Sort.flatK fireL 4 d').size = F.length * 4 := by simp [hsz]
      refine ⟨flat_len fireL 4 fireL_len _, .inr ⟨g, cap, _, by rw [hl], hg, blk_put hb n (Go.Sort.flatK fireL 4 d') os, by rw [hl]; exact hn, hm, by unfold Go.Sort.putCells; rw [Array.size_mapIdx]; exact hs, ?_⟩⟩
      rw [hl, ← hX2, put_take _ _ (by rw [hX2]; exact hle)]
      exact hk
    · exact (fr_put w g n _ os).mono fun i _ e => by rw [show i = g from e]; rfl
end Go.Proofs.YtghcfmoagkimaaaGreatDoor
namespace Go.Proofs.YtghcfmoagkimaaaGreatDoor
open Go.RowKit Go.Mem Go.Lin Go.Xpd

theorem markH_from {l : List RuleL} {a b : Int} {d : List FireL} (h : d = yearsN l (max a 1) (min b 9999 + 1 - max a 1).toNat) : markH l d = fromD l a b := by
  unfold fromD
  cases d with
  | nil =>
    have := mark_years l (max a 1) (min b 9999 + 1 - max a 1).toNat
    rw [← h] at this
    exact this
  | cons f t =>
    rw [← mark_first h.symm, ← h]
    rfl
set_option maxHeartbeats 3200000 in
set_option maxRecDepth 100000 in
theorem xFrom_any (l : List RuleL) (A : Option Addr) (cap : Nat) (a b : Int) (w : World) (hw : S6.WOk w) (hl : RusAt w A l) (hn : l.length ≤ 8) (hr : ∀ r ∈ l, OkF r ∧ RuR r) (ha : -20000 ≤ a ∧ a ≤ 20001) (hb : -20000 ≤ b ∧ b ≤ 20000) (hab : b - a ≤ 30) :
    Calls Tryz.prog 134 #[.slice A l.length cap, intV a, intV b] w fun e w' => ∃ v, e = .returned v ∧ XFires w' w.heap.size v (fromD l a b) ∧ Fr w w' (fun _ => False) := by
  have HW := Lib.hid hw
  have HL := Lib.hid hl
  have HRr := Lib.hid (fun r h => (hr r h).1)
  clear hw hl hr
  go_enter Tryz.func134, Tryz.ntmps134
  go_wp2_with fail
  go_loopg [7, 8, 9, 12] l.length (fun g v7 _ _ v12 wr => ∃ i : Nat, i + g = l.length ∧ v12 = intV i ∧ XFires wr w.heap.size v7 (allG l a b i) ∧ Fr w wr (fun _ => False))
  case atStart => exact ⟨0, by simp, rfl, own_none _ _ _ _ _, Fr.refl _ _⟩
  case round =>
    obtain ⟨i, hi, rfl, ho, hf⟩ := hrel
    obtain ⟨A5, c5, rfl⟩ := ho.slice
    have HF := Lib.hid hf
    have HO := Lib.hid ho
    have hll : (allG l a b i).length ≤ 400 := Nat.le_trans (allG_len (m := 31) (by omega) i) (by omega)
    obtain ⟨L, hL⟩ : ∃ L, allG l a b i = L := ⟨_, rfl⟩
    have HLv := Lib.hid hL
    rw [hL] at HO hll ⊢
    clear hf ho hL
    by_cases hlt : i < l.length
    · obtain ⟨r, hri⟩ : ∃ r, l[i]? = some r := ⟨l[i], List.getElem?_eq_getElem hlt⟩
      obtain ⟨b5, off, hA, hc⟩ := (HL.out.kept HF.out).at_ hri
      subst hA
      have hok := HRr.out r (List.mem_of_getElem? hri)
      have hto := hok.okR.tt
      have hfr := hok.okR.fr
      have HSr := Lib.hid hok.okR.s
      have HCx := Lib.hid hc
      have HN := Lib.hid (show allG l a b (i + 1) = L ++ gathD r i (max a (withD r.fr)) (cntY (max a (withD r.fr)) (min b (withD r.to))) by rw [allG_some hri, HLv.out]; rfl)
      have i0 : (i : Int) < (l.length : Int) := by omega
      have n2 := Fr.new wr (.cells #[.string ⟨#[]⟩, .int .i64 0, .int .i64 0, .int .i64 0, .int .i64 0, .int .i64 0, .int .i64 0, .int .i64 0, .int .i64 0, .int .i64 0, .string ⟨#[]⟩] 72) (fun _ => False)
      have HF2 := Lib.hid n2
      have HB2 := Lib.hid (show Blk _ wr.heap.size 72 (ruleC ruleZ) from Blk.made wr 72 (ruleC ruleZ))
      have hwd : 1 ≤ withD r.to ∧ withD r.to ≤ 9999 := by unfold withD; omega
      have hwf : 1 ≤ withD r.fr ∧ withD r.fr ≤ 9999 := by unfold withD; omega
      obtain ⟨t1, t2⟩ := hto
      obtain ⟨t3, t4⟩ := hfr
      clear hc hri hok n2
      go_wp2_with (first
        | ((with_reducible refine at_load4 72 ?_); refine wpList_load_at 72 _ b5 (off + i * 11) (ruleC r) _ (by rfl) rfl rfl HCx.out Tryz.underlying72 rfl (infoR _) ?_)
        | ((with_reducible refine at_store4 72 ?_); refine wpList_store_blk 72 _ _ wr.heap.size 0 72 (ruleC ruleZ) (ruleC r) (ruleC r) (by rfl) rfl rfl rfl rfl HB2.out (infoR _) (ruleC_one _) (show 0 + 11 ≤ 11 by decide) (put_ra _ _) ?_
           intro W3 hf3 hb3
           have HF3 := Lib.hid (HF2.out.fresh hf3 (fun i e => by have e : i = wr.heap.size := e; omega))
           have HB3 := Lib.hid hb3
           clear hf3 hb3 HF2 HB2))
      refine wp_region_held_drew (S := fun w' => TF w W3 w') (by kernel_rfl) (tf_of (Fr.drew _ _)) (fun hHeld => ?_)
      refine wpAnyH_take (i := 0) (v := ?_) rfl (by kernel_rfl) (by kernel_rfl) (by kernel_rfl) (fun _ _ _ h => h) (Or.inl ⟨by rfl, ?_⟩) (by assumption) ?_
      rotate_left
      · intro w' hSw
        go_simp
        try with_reducible rfl
      try simp only [Act.put, List.setIfInBounds_toArray, List.set_cons_zero, List.set_cons_succ, List.getElem_toArray, List.getElem_cons_zero]
      refine wpAnyH_take (i := 1) (v := _) rfl (by kernel_rfl) (by kernel_rfl) (by kernel_rfl) (fun _ _ _ h => h) ((yields_blk 72 _ wr.heap.size 0 72 (ruleC r) (ruleC r) _ (by rfl) rfl rfl (fun w' hSw => tf_far hSw HB3.out (by decide)) Tryz.underlying72 rfl (infoR _) (zero_part _))) (by assumption) ?_
      try simp only [Act.put, List.setIfInBounds_toArray, List.set_cons_zero, List.set_cons_succ, List.getElem_toArray, List.getElem_cons_succ, List.getElem_cons_zero]
      refine wpAnyH_take (i := 2) (v := ?_) rfl (by kernel_rfl) (by kernel_rfl) (by kernel_rfl) (fun _ _ _ h => h) (Or.inl ⟨by rfl, ?_⟩) (by assumption) ?_
      rotate_left
      · intro w' hSw
        go_simp
        try with_reducible rfl
      try simp only [Act.put, List.setIfInBounds_toArray, List.set_cons_zero, List.set_cons_succ, List.getElem_toArray, List.getElem_cons_succ, List.getElem_cons_zero]
      refine wpAnyH_take (i := 3) (v := _) rfl (by kernel_rfl) (by kernel_rfl) (by kernel_rfl) (fun _ _ _ h => h) ((yields_build 172 #[(0, .tmp 18), (1, .tmp 19)] (.agg (seatC r (i : Int))) (by rfl) rfl (fun w => by kernel_rfl))) (by assumption) ?_
      try simp only [Act.put, List.setIfInBounds_toArray, List.set_cons_zero, List.set_cons_succ, List.getElem_toArray, List.getElem_cons_succ, List.getElem_cons_zero]
      refine wpAnyH_take (i := 4) (v := ?_) rfl (by kernel_rfl) (by kernel_rfl) (by kernel_rfl) (fun _ _ _ h => h) (Or.inl ⟨by rfl, ?_⟩) (by assumption) ?_
      rotate_left
      · intro w' hSw
        go_simp
        try with_reducible rfl
      try simp only [Act.put, List.setIfInBounds_toArray, List.set_cons_zero, List.set_cons_succ, List.getElem_toArray, List.getElem_cons_succ, List.getElem_cons_zero]
      refine wpAnyH_take (i := 5) (v := ?_) rfl (by kernel_rfl) (by kernel_rfl) (by kernel_rfl) (fun _ _ _ h => h) (Or.inl ⟨by rfl, ?_⟩) (by assumption) ?_
      rotate_left
      · intro w' hSw
        go_simp
        try with_reducible rfl
      try simp only [Act.put, List.setIfInBounds_toArray, List.set_cons_zero, List.set_cons_succ, List.getElem_toArray, List.getElem_cons_succ, List.getElem_cons_zero]
      refine wpAnyH_take (i := 6) (v := ?_) rfl (by kernel_rfl) (by kernel_rfl) (by kernel_rfl) (fun _ _ _ h => h) (Or.inl ⟨by rfl, ?_⟩) (by assumption) ?_
      rotate_left
      · intro w' hSw
        go_simp
        try with_reducible rfl
      try simp only [Act.put, List.setIfInBounds_toArray, List.set_cons_zero, List.set_cons_succ, List.getElem_toArray, List.getElem_cons_succ, List.getElem_cons_zero]
      refine wpAnyH_take (i := 7) (v := ?_) rfl (by kernel_rfl) (by kernel_rfl) (by kernel_rfl) (fun _ _ _ h => h) (Or.inl ⟨by rfl, ?_⟩) (by assumption) ?_
      rotate_left
      · intro w' hSw
        have c1 : w'.cell? ⟨wr.heap.size, 1, none⟩ = some (.int .i64 r.fr) := blkc (tf_far hSw HB3.out (by decide)) 1 _ rfl
        go_simp
        try with_reducible rfl
      try simp only [Act.put, List.setIfInBounds_toArray, List.set_cons_zero, List.set_cons_succ, List.getElem_toArray, List.getElem_cons_succ, List.getElem_cons_zero]
      refine wpAnyH_take (i := 10) (v := ?_) rfl (by kernel_rfl) (by kernel_rfl) (by kernel_rfl) (fun _ _ _ h => h) (Or.inl ⟨by rfl, ?_⟩) (by assumption) ?_
      rotate_left
      · intro w' hSw
        go_simp
        try with_reducible rfl
      try simp only [Act.put, List.setIfInBounds_toArray, List.set_cons_zero, List.set_cons_succ, List.getElem_toArray, List.getElem_cons_succ, List.getElem_cons_zero]
      refine wpAnyH_take (i := 11) (v := ?_) rfl (by kernel_rfl) (by kernel_rfl) (by kernel_rfl) (fun _ _ _ h => h) (Or.inl ⟨by rfl, ?_⟩) (by assumption) ?_
      rotate_left
      · intro w' hSw
        go_simp
        try with_reducible rfl
      try simp only [Act.put, List.setIfInBounds_toArray, List.set_cons_zero, List.set_cons_succ, List.getElem_toArray, List.getElem_cons_succ, List.getElem_cons_zero]
      refine wpAnyH_take (i := 12) (v := ?_) rfl (by kernel_rfl) (by kernel_rfl) (by kernel_rfl) (fun _ _ _ h => h) (Or.inl ⟨by rfl, ?_⟩) (by assumption) ?_
      rotate_left
      · intro w' hSw
        have c2 : w'.cell? ⟨wr.heap.size, 2, none⟩ = some (.int .i64 r.to) := blkc (tf_far hSw HB3.out (by decide)) 2 _ rfl
        go_simp
        try with_reducible rfl
      try simp only [Act.put, List.setIfInBounds_toArray, List.set_cons_zero, List.set_cons_succ, List.getElem_toArray, List.getElem_cons_succ, List.getElem_cons_zero]
      refine wpAnyH_ready (rs := [8]) (by kernel_rfl) (by simp) ?_
      refine AllReadyH.cons rfl (fun K hK => ?_) AllReadyH.nil
      go_simp
      refine (within_any r.fr _ (by omega)).mono ?_
      rintro e w6 ⟨rfl, rfl⟩
      refine hK.out _ _ (hHeld) (fun hHeld2 => ?_)
      clear hK K hHeld
      rename_i hHeld2
      have hHeld := hHeld2
      clear hHeld2
      try simp only [Act.put, List.setIfInBounds_toArray, List.set_cons_zero, List.set_cons_succ, List.getElem_toArray, List.getElem_cons_succ, List.getElem_cons_zero]
      refine wpAnyH_take (i := 9) (v := ?_) rfl (by kernel_rfl) (by kernel_rfl) (by kernel_rfl) (fun _ _ _ h => h) (Or.inl ⟨by rfl, ?_⟩) (by assumption) ?_
      rotate_left
      · intro w' hSw
        go_simp
        try with_reducible rfl
      try simp only [Act.put, List.setIfInBounds_toArray, List.set_cons_zero, List.set_cons_succ, List.getElem_toArray, List.getElem_cons_succ, List.getElem_cons_zero]
      refine wpAnyH_ready (rs := [13]) (by kernel_rfl) (by simp) ?_
      refine AllReadyH.cons rfl (fun K hK => ?_) AllReadyH.nil
      go_simp
      refine (within_any r.to _ (by omega)).mono ?_
      rintro e w6 ⟨rfl, rfl⟩
      refine hK.out _ _ (hHeld) (fun hHeld2 => ?_)
      clear hK K hHeld
      rename_i hHeld2
      have hHeld := hHeld2
      clear hHeld2
      try simp only [Act.put, List.setIfInBounds_toArray, List.set_cons_zero, List.set_cons_succ, List.getElem_toArray, List.getElem_cons_succ, List.getElem_cons_zero]
      refine wpAnyH_take (i := 14) (v := ?_) rfl (by kernel_rfl) (by kernel_rfl) (by kernel_rfl) (fun _ _ _ h => h) (Or.inl ⟨by rfl, ?_⟩) (by assumption) ?_
      rotate_left
      · intro w' hSw
        go_simp
        try with_reducible rfl
      try simp only [Act.put, List.setIfInBounds_toArray, List.set_cons_zero, List.set_cons_succ, List.getElem_toArray, List.getElem_cons_succ, List.getElem_cons_zero]
      refine wpAnyH_ready (rs := [15]) (by kernel_rfl) (by simp) ?_
      refine AllReadyH.cons rfl (fun K hK => ?_) AllReadyH.nil
      go_simp
      refine (gather_any r (i : Int) L (.slice A5 L.length c5) (max a (withD r.fr)) (min b (withD r.to)) w _ HW.out (ff4 HF.out (ff4 HF3.out (Fr.drew _ _))) (HO.out.kept (ff4 HF3.out (Fr.drew _ _))) (by omega) HSr.out (by omega) (by omega) (by omega)).mono ?_
      rintro e w7 ⟨v9, rfl, ho9, ht9⟩
      obtain ⟨A9, c9, rfl⟩ := ho9.slice
      refine hK.out _ _ (tf_trans hHeld ht9) (fun hHeld2 => ?_)
      clear hK K hHeld
      rename_i hHeld2
      have hHeld := hHeld2
      clear hHeld2
      have HO9 := Lib.hid ho9
      clear ho9 ht9
      try simp only [Act.put, List.setIfInBounds_toArray, List.set_cons_zero, List.set_cons_succ, List.getElem_toArray, List.getElem_cons_succ, List.getElem_cons_zero]
      refine wpAnyH_take (i := 16) (v := ?_) rfl (by kernel_rfl) (by kernel_rfl) (by kernel_rfl) (fun _ _ _ h => h) (Or.inl ⟨by rfl, ?_⟩) (by assumption) ?_
      rotate_left
      · intro w' hSw
        go_simp
        try with_reducible rfl
      try simp only [Act.put, List.setIfInBounds_toArray, List.set_cons_zero, List.set_cons_succ, List.getElem_toArray, List.getElem_cons_succ, List.getElem_cons_zero]
      refine wpAnyH_done (by kernel_rfl) ?_ _
      have HF9 := Lib.hid (tf_low (ff4 HF.out HF3.out) hHeld)
      clear hHeld
      go_wp2_with fail
      go_roundg (l.length - (i + 1))
      case measure => omega
      case rel => exact ⟨i + 1, by omega, by go_num, by rw [HN.out, ← List.length_append]; exact HO9.out, HF9.out⟩
    · obtain rfl : i = l.length := by omega
      have HQ := Lib.hid (sort_any L (.slice A5 L.length c5) w.heap.size wr HO.out (by omega))
      go_wp2_with fail
      refine HQ.out.mono ?_
      rintro e w2 ⟨rfl, d, hp, hs, ho2, hf2⟩
      have hdl : d.length = L.length := hp.length_eq
      have HF2 := Lib.hid (HF.out.fresh hf2 fun i e => (own_block HO.out e.symm).1)
      rw [← HLv.out] at hp
      have HE := Lib.hid (markH_from (sort_years hp hs))
      have HB := Lib.hid (setB_any l A cap d (.slice A5 L.length c5) w w2 HW.out HF2.out HL.out (by omega) HRr.out ho2 (by omega) (fun f hf => by
        obtain ⟨k, r, -, h1, -, -, h4, h5⟩ := allG_mem.1 (hp.mem_iff.1 hf)
        have hla := atR_lasts h4
        unfold lasts at hla
        exact ⟨⟨hla.2.2.1, hla.2.2.2⟩, k, r, h1, by rw [h5]⟩))
      clear hp hs ho2 hf2 hdl
      go_wp2_with fail
      refine HB.out.mono ?_
      rintro e w3 ⟨rfl, ho3, hf3⟩
      have HO3 := Lib.hid ho3
      have HF3 := Lib.hid hf3
      clear ho3 hf3
      go_wp2_with fail
      go_ret
      exact ⟨_, rfl, by rw [← HE.out]; exact HO3.out, HF3.out⟩
end Go.Proofs.YtghcfmoagkimaaaGreatDoor
/- inside a fence: structs loaded and stored -/
namespace Go.Mem
open Go.RowKit
section
variable {F : Fence} {n : Nat} {P : Program} {ops : Array Oper} {rest : List Oper} {o : Oper} {a : Act} {w : World} {Q : Exit → Act → World → Prop}
theorem wpListIn_load_at (ty : TypeId) (x : Operand) (g off : Nat) (cs : Array Value) (d : TypeDesc) (hgd : o.guard = none) (ho : o.op = .load ty x) (hx : a.eval x = .pointer (some ⟨g, off, none⟩)) (hc : ∀ j, j < cs.size → w.cell? ⟨g, off + j, none⟩ = cs[j]?)
    (hu : P.underlying ty = some d) (hd : d.isRow = true) (hi : (P.info? ty).map (·.size) = some cs.size)
    (h : wpListIn F n P ops Q rest (a.put o.dst (.agg cs)) w) : wpListIn F n P ops Q (o :: rest) a w := by
  refine wpListIn_plain hgd fun K hK' => ?_
  unfold Oper.wpIn
  refine ⟨?_, ?_⟩
  · simp [Oper.about, ho]
  · rw [Oper.semAt_plain F _ _ (by rw [ho]; intro c hc'; cases hc')]
    simp only [execOp, ho, hx, Instr.loadAt, Instr.sureAddr, Sem.run_bind, Sem.run_pure, Result.andThen_ok, run_loadVar_at w g off ty cs d hc hu hd hi]
    exact hK' _ _ h
theorem wpListIn_store_blk (ty : TypeId) (x y : Operand) (g off : Nat) (t : TypeId) (old cells new : Array Value) (hgd : o.guard = none) (ho : o.op = .store ty x y) (hd : o.dst = none) (hx : a.eval x = .pointer (some ⟨g, off, none⟩)) (hy : a.eval y = .agg cells)
    (hg : Blk w g t old) (hi : (P.info? ty).map (·.size) = some cells.size) (h1 : cells.all (·.oneCell') = true) (hfit : off + cells.size ≤ old.size) (hnew : setMany old off cells.toList = new)
    (h : ∀ W, Fr w W (fun i => i = g) → Blk W g t new → wpListIn F n P ops Q rest a W) : wpListIn F n P ops Q (o :: rest) a w := by
  refine wpListIn_plain hgd fun K hK' => ?_
  have ht : w.there g off cells.size := fun j hj => ⟨by rw [cell_at hg, Array.getElem?_eq_getElem (by omega)]; rfl, free_at hg _⟩
  unfold Oper.wpIn
  refine ⟨?_, ?_⟩
  · simp [Oper.about, ho]
  · rw [Oper.semAt_plain F _ _ (by rw [ho]; intro c hc'; cases hc')]
    simp only [execOp, ho, hx, hy, run_storeAt_mid w g off ty cells ht hi h1, Sem.run_bind, Sem.run_pure, Result.andThen_ok]
    have := hK' a _ (h _ (Fr.many cells.toList off w) (by have := Blk.many cells.toList off old w hg; rw [hnew] at this; exact this))
    simpa only [Oper.uponIn, hd, Act.put] using this
theorem gi_load4 {d : Option Tmp} {x : Operand} {ty : TypeId} {pos : String} {af : Array Edge} {g : Option (Nat × Bool)} (t : TypeId) (h : wpListIn F n P ops Q (⟨d, .load t x, ty, pos, af, g⟩ :: rest) a w) : wpListIn F n P ops Q (⟨d, .load t x, ty, pos, af, g⟩ :: rest) a w := h
theorem gi_store4 {d : Option Tmp} {x y : Operand} {ty : TypeId} {pos : String} {af : Array Edge} {g : Option (Nat × Bool)} (t : TypeId) (h : wpListIn F n P ops Q (⟨d, .store t x y, ty, pos, af, g⟩ :: rest) a w) : wpListIn F n P ops Q (⟨d, .store t x y, ty, pos, af, g⟩ :: rest) a w := h
end
theorem fr_keeps {W W' : World} (h : Fr W W' (fun _ => False)) (B : Nat) : KeepsFrom B W W' := ⟨h.size, fun k _ _ hk _ => (h.block k (Array.getElem?_eq_some_iff.1 hk).1 (fun h => h)).trans hk⟩
theorem fr_low {W W' : World} (h : Fr W W' (fun _ => False)) {B : Nat} (hB : B ≤ W.heap.size) : Below B W W' := h.below hB (fun _ h => h.elim)
/-- a block of cells that was turned alone -/
theorem keeps_cells {W W' : World} {g : Nat} {t : TypeId} {cs : Array Value} (h : Fr W W' (fun i => i = g)) (hb : Blk W g t cs) (B : Nat) : KeepsFrom B W W' := ⟨h.size, fun k o _ hk ho => by
  by_cases e : k = g
  · subst e
    unfold Blk at hb
    rw [hb] at hk
    cases hk
    cases ho
  · exact (h.block k (Array.getElem?_eq_some_iff.1 hk).1 e).trans hk⟩
theorem ownFrom_blk {β : Type} (B g : Nat) (t : TypeId) (cs : β → Array Value) : OwnFrom B (fun (s : β) W => Blk W g t (cs s)) := fun s W W' row h hg hr => by
  refine (hg.block g h.lt (fun e => ?_)).trans h
  obtain ⟨-, o, ho, hc⟩ := hr g e.symm
  unfold Blk at h
  rw [h] at ho
  cases ho
  cases hc
end Go.Mem
namespace Go.Proofs.YtghcfmoagkimaaaGreatDoor
open Go.RowKit Go.Mem Go.Lin Go.Xpd Go.Shelf
attribute [local go_sem] Oper.semAt_some

/- slices.Backward over fires -/
/-- what has come when m are left -/
def revZ {α : Type} (Z : List α) (m : Nat) : List α := (Z.drop m).reverse
theorem revZ_all {α : Type} (Z : List α) : revZ Z Z.length = [] := by unfold revZ; rw [List.drop_length]; rfl
theorem revZ_step {α : Type} {Z : List α} {m : Nat} {x : α} (h : Z[m]? = some x) : revZ Z m = revZ Z (m + 1) ++ [x] := by
  obtain ⟨hm, e⟩ := List.getElem?_eq_some_iff.1 h
  unfold revZ
  rw [List.drop_eq_getElem_cons hm, List.reverse_cons, e]
theorem revZ_len {α : Type} (Z : List α) (m : Nat) : (revZ Z m).length = Z.length - m := by unfold revZ; simp
theorem revZ_map {α β : Type} (p : α → β) (Z : List α) (m : Nat) : (revZ Z m).map p = revZ (Z.map p) m := by unfold revZ; simp
/-- fires in blocks below -/
structure FiresIn (n₀ : Nat) (W : World) (A : Option Addr) (F : List FireL) : Prop where
  r : Rd W 4 A F.length (F.flatMap fireL)
  low : ∀ b off, A = some ⟨b, off, none⟩ → b < n₀
theorem FiresIn.at_ {n₀ : Nat} {W : World} {A : Option Addr} {F : List FireL} (h : FiresIn n₀ W A F) {i : Nat} {f : FireL} (hf : F[i]? = some f) : ∃ b off, A = some ⟨b, off, none⟩ ∧ b < n₀ ∧ ∀ j, j < (fireC f).size → W.cell? ⟨b, off + i * 4 + j, none⟩ = (fireC f)[j]? := by
  obtain ⟨b, off, e, hc⟩ := rows_at (fun x => (rfl : (fireL x).length = 4)) h.r hf
  refine ⟨b, off, e, h.low b off e, fun j hj => ?_⟩
  rw [hc j hj]
  show (fireC f).toList[j]? = _
  simp
theorem infoFi (f : FireL) : (Tryz.prog.info? 166).map (·.size) = some (fireC f).size := show _ = some 4 by kernel_rfl
set_option maxRecDepth 100000 in
set_option maxHeartbeats 2000000 in
/-- the iterator's body, for every loop body that keeps what lay below -/
theorem back1_in {α : Type} (p : α → FireL × Nat) (Z : List α) (K : Fence) (n : Nat) (h7 : K.fn 133) (hro : K.round = none) (hn : 1 ≤ n) (l Bs n₀ : Nat) (A : Option Addr) (cap : Nat) (F : List FireL) (hZ : Z.map p = F.zipIdx) (J Jx : List α → World → Prop)
    (hY : ∀ pre x W, J pre W → pre.length < F.length → YieldAt K (n - 1) Tryz.prog l #[intV ((p x).2 : Nat), fireV (p x).1] W fun e W' =>
      (e = .returned (.bool true) ∧ J (pre ++ [x]) W' ∧ Below n₀ W W') ∨ (e = .returned (.bool false) ∧ Jx (pre ++ [x]) W'))
    (W : World) (hBs : W.cell? ⟨Bs, 0, none⟩ = some (.slice A F.length cap)) (hBl : Bs < n₀) (hF : FiresIn n₀ W A F) (hlen : F.length ≤ 100000) (h0 : J [] W) :
    CallsIn K n Tryz.prog 133 #[.func (.yield l) #[] #[], .pointer (some ⟨Bs, 0, none⟩)] W fun e W' => (∃ v, e = .returned v) ∧
      ((∃ ys, ys = revZ Z 0 ∧ J ys W') ∨ (∃ pre, (∃ m, m < F.length ∧ pre = revZ Z m) ∧ Jx pre W')) := by
  have hZl : Z.length = F.length := by have := congrArg List.length hZ; simpa using this
  have HZl := Lib.hid hZl
  have HZm := Lib.hid hZ
  clear hZl hZ
  refine callsIn_of_wp Tryz.func133 rfl h7 ?_ hro
  simp only [Tryz.ntmps133, List.size_toArray, List.length_cons, List.length_nil, Nat.reduceAdd, Nat.reduceSub, Array.replicate_succ, Array.replicate_zero, List.push_toArray, List.append_toArray, List.nil_append, List.cons_append]
  have HFi := Lib.hid hF
  have HY := Lib.hid hY
  clear hF hY
  gi_wp2
  gi_loopw [3] (fun i wr => ∃ m : Nat, m ≤ F.length ∧ i = .int .i64 ((m : Int) - 1) ∧ J (revZ Z m) wr ∧ Below n₀ W wr)
    (fun i _ => (intOf i + 1).toNat)
  case atStart => exact ⟨F.length, Nat.le_refl _, rfl, by rw [← HZl.out, revZ_all]; exact h0, Below.refl _ _⟩
  case round =>
    obtain ⟨m, hm, hv, hJs, hnx⟩ := hrel
    have HJ := Lib.hid hJs
    have HX := Lib.hid hnx
    clear hJs hnx
    cases m with
    | zero =>
      obtain rfl := hv
      gi_wp2
      go_end0
      exact ⟨⟨_, rfl⟩, .inl ⟨_, rfl, HJ.out⟩⟩
    | succ m =>
      rw [show ((m + 1 : Nat) : Int) - 1 = (m : Int) by omega] at hv
      subst hv
      obtain ⟨f, hf⟩ : ∃ f, F[m]? = some f := ⟨F[m], List.getElem?_eq_getElem hm⟩
      obtain ⟨b, off, hA, hb, hc⟩ := HFi.out.at_ hf
      subst hA
      obtain ⟨x, hx, hpx⟩ : ∃ x, Z[m]? = some x ∧ p x = (f, m) := by
        have h1 : (Z.map p)[m]? = some (f, m) := by rw [HZm.out, List.getElem?_zipIdx, hf]; simp
        rw [List.getElem?_map] at h1
        cases hz : Z[m]? with
        | none => rw [hz] at h1; cases h1
        | some x => rw [hz] at h1; exact ⟨x, rfl, Option.some.inj h1⟩
      have HSt := Lib.hid (revZ_step hx)
      obtain ⟨fn, tmps, assign, body, hy, hR⟩ := HY.out _ x wr HJ.out (by rw [revZ_len, HZl.out]; omega)
      rw [hpx] at hy
      dsimp only at hy
      have cB : wr.cell? ⟨Bs, 0, none⟩ = some (.slice (some ⟨b, off, none⟩) F.length cap) := (HX.out.cell (p := ⟨Bs, 0, none⟩) hBl).trans hBs
      have HC := Lib.hid (fun j (hj : j < (fireC f).size) => (HX.out.cell (p := ⟨b, off + m * 4 + j, none⟩) hb).trans (hc j hj))
      have m0 : (0 : Int) ≤ (m : Int) := by omega
      have m1 : (m : Int) < (F.length : Int) := by omega
      clear hc hx hf hpx
      gi_wp2_with ((with_reducible refine gi_load4 166 ?_); refine wpListIn_load_at 166 _ b (off + m * 4) (fireC f) _ rfl rfl rfl HC.out Tryz.underlying166 rfl (infoFi _) ?_)
      refine hR.mono ?_
      rintro e W3 (⟨rfl, hJ3, hk3⟩ | ⟨rfl, hJx3⟩)
      · gi_wp2
        go_roundw
        case rel => exact ⟨m, by omega, rfl, by rw [HSt.out]; exact hJ3, HX.out.trans hk3⟩
        case measure => simp [intOf]
      · gi_wp2
        refine bodyPost_ret (results_none rfl _ _ _) rfl ?_
        exact ⟨⟨_, rfl⟩, .inr ⟨_, ⟨m, by omega, HSt.out.symm⟩, hJx3⟩⟩
end Go.Proofs.YtghcfmoagkimaaaGreatDoor
namespace Go.Proofs.YtghcfmoagkimaaaGreatDoor
open Go.RowKit Go.Mem Go.Lin Go.Xpd Go.Den

/- small functions of den -/
theorem size_any (n : Int) (w : World) (hn : S6.inRange n) : Calls Tryz.prog 115 #[intV n] w fun e w' => e = .returned (intV (sizeD n)) ∧ w' = w := by
  obtain ⟨h1, h2⟩ := hn
  have hw : IntKind.i64.wrap (-(max n (-1099511627776))) = -(max n (-1099511627776)) := by rw [IntKind.wrap_i64]; omega
  have HS := Lib.hid (show sizeD n = max (min n 1099511627776) (-(max n (-1099511627776))) from rfl)
  go_enter Tryz.func115, Tryz.ntmps115
  go_wp2_with fail
  go_ret
  exact ⟨by rw [HS.out]; rfl, rfl⟩
theorem nwithin_any (n m : Int) (w : World) (hm : 0 ≤ m ∧ m ≤ 1000000) : Calls Tryz.prog 80 #[intV n, intV m] w fun e w' => e = .returned (.bool (decide (within n m))) ∧ w' = w := by
  by_cases h1 : -m ≤ n
  · by_cases h2 : n ≤ m
    · have H := Lib.hid (show decide (within n m) = true from decide_eq_true ⟨h1, h2⟩)
      go_enter Tryz.func80, Tryz.ntmps80
      go_wp2_with fail
      go_ret
      exact ⟨by rw [H.out]; rfl, rfl⟩
    · have H := Lib.hid (show decide (within n m) = false from decide_eq_false fun h => h2 h.2)
      go_enter Tryz.func80, Tryz.ntmps80
      go_wp2_with fail
      go_ret
      exact ⟨by rw [H.out]; rfl, rfl⟩
  · have H := Lib.hid (show decide (within n m) = false from decide_eq_false fun h => h1 h.1)
    go_enter Tryz.func80, Tryz.ntmps80
    go_wp2_with fail
    go_ret
    exact ⟨by rw [H.out]; rfl, rfl⟩
/-- a year up to which all counts -/
theorem inReach_any (t : Int) (w : World) (hw : S6.WOk w) (ht : S6.inRange t) : Calls Tryz.prog 18 #[intV t] w fun e w' => e = .returned (.bool (reachY t).isSome) ∧ Fr w w' (fun _ => False) := by
  obtain ⟨y, m, d, k, hD⟩ := S6.date_of (t / 86400)
  obtain ⟨h0, h1⟩ := date_reach hD
  have HC := Lib.hid (S6.Clock_any t w ht)
  have HD := Lib.hid (S6.Date_any (t / 86400) y m d k w.drew (by unfold S6.inRange at *; omega) (hw.fr (Fr.drew _ _)).lok hD)
  have hy : -10000 ≤ y ∧ y ≤ 10000 := by
    rcases hD with ⟨-, -, h3, -, -⟩ | ⟨-, rfl, -, -, -⟩
    · have := Go.Civil.rightB_iff.1 h3
      omega
    · omega
  clear hD
  generalize t / 86400 = n at *
  by_cases hk : k = 0
  · have g0 := h0 hk
    clear h0 h1
    subst hk
    by_cases b1 : -9998 ≤ y
    · have H0 := Lib.hid (show (reachY t).isSome = decide (y ≤ 9998) by
        rw [g0]
        by_cases h : y ≤ 9998
        · rw [if_pos ⟨b1, h⟩, decide_eq_true h]; rfl
        · rw [if_neg (fun c => h c.2), decide_eq_false h]; rfl)
      clear g0
      go_enter Tryz.func18, Tryz.ntmps18
      go_wp2_with fail
      refine HC.out.mono ?_
      rintro e w2 ⟨rfl, rfl⟩
      go_wp2_with fail
      refine HD.out.mono ?_
      rintro e w3 ⟨rfl, hf⟩
      go_wp2_with fail
      go_ret
      exact ⟨by rw [H0.out]; rfl, ff4 (Fr.drew _ _) hf⟩
    · have H0 := Lib.hid (show (reachY t).isSome = false by rw [g0, if_neg (fun c => b1 c.1)]; rfl)
      clear g0
      go_enter Tryz.func18, Tryz.ntmps18
      go_wp2_with fail
      refine HC.out.mono ?_
      rintro e w2 ⟨rfl, rfl⟩
      go_wp2_with fail
      refine HD.out.mono ?_
      rintro e w3 ⟨rfl, hf⟩
      go_wp2_with fail
      go_ret
      exact ⟨by rw [H0.out]; rfl, ff4 (Fr.drew _ _) hf⟩
  · have H0 := Lib.hid (show (reachY t).isSome = false by rw [h1 hk]; rfl)
    have k1 : (k == 0) = false := by rw [beq_eq_false_iff_ne]; exact hk
    clear h0 h1 hk
    go_enter Tryz.func18, Tryz.ntmps18
    go_wp2_with fail
    refine HC.out.mono ?_
    rintro e w2 ⟨rfl, rfl⟩
    go_wp2_with fail
    refine HD.out.mono ?_
    rintro e w3 ⟨rfl, hf⟩
    go_wp2_with fail
    go_ret
    exact ⟨by rw [H0.out]; rfl, ff4 (Fr.drew _ _) hf⟩
end Go.Proofs.YtghcfmoagkimaaaGreatDoor
namespace Go.Proofs.YtghcfmoagkimaaaGreatDoor
open Go.RowKit Go.Mem Go.Lin Go.Xpd Go.Den

set_option maxHeartbeats 3200000 in
set_option maxRecDepth 100000 in
theorem latest_any (l : List RuleL) (A : Option Addr) (cap : Nat) (y : Int) (w : World) (hl : RusAt w A l) (hn : l.length ≤ 8) (hr : ∀ r ∈ l, OkF r) (_hy : -20000 ≤ y ∧ y ≤ 20000) :
    Calls Tryz.prog 88 #[.slice A l.length cap, intV y] w fun e w' => e = .returned (intV (latD l y)) ∧ Fr w w' (fun _ => False) := by
  have HL := Lib.hid hl
  have HRr := Lib.hid hr
  clear hl hr
  go_enter Tryz.func88, Tryz.ntmps88
  go_wp2_with fail
  go_loopg [5, 7, 8, 11] l.length (fun g v5 _ _ v11 wr => ∃ i : Nat, i + g = l.length ∧ v11 = intV i ∧ v5 = intV (latN l y i) ∧ Fr w wr (fun _ => False))
  case atStart => exact ⟨0, by simp, rfl, rfl, Fr.refl _ _⟩
  case round =>
    obtain ⟨i, hi, rfl, rfl, hf⟩ := hrel
    have HF := Lib.hid hf
    clear hf
    by_cases hlt : i < l.length
    · obtain ⟨r, hri⟩ : ∃ r, l[i]? = some r := ⟨l[i], List.getElem?_eq_getElem hlt⟩
      obtain ⟨b5, off, hA, hc⟩ := (HL.out.kept HF.out).at_ hri
      subst hA
      have hok := HRr.out r (List.mem_of_getElem? hri)
      have hto := hok.okR.tt
      have hfr := hok.okR.fr
      have HCx := Lib.hid hc
      have i0 : (i : Int) < (l.length : Int) := by omega
      have n2 := Fr.new wr (.cells #[.string ⟨#[]⟩, .int .i64 0, .int .i64 0, .int .i64 0, .int .i64 0, .int .i64 0, .int .i64 0, .int .i64 0, .int .i64 0, .int .i64 0, .string ⟨#[]⟩] 72) (fun _ => False)
      have HF2 := Lib.hid n2
      have HB2 := Lib.hid (show Blk _ wr.heap.size 72 (ruleC ruleZ) from Blk.made wr 72 (ruleC ruleZ))
      obtain ⟨a, ha⟩ : ∃ a, latN l y i = a := ⟨_, rfl⟩
      have HY := Lib.hid (fun h : r.fr ≤ min y r.to => (lat_yes (y := y) hri h).trans (by rw [ha]))
      have HNo := Lib.hid (fun h : ¬ r.fr ≤ min y r.to => (lat_no (y := y) hri h).trans ha)
      rw [ha]
      obtain ⟨t1, t2⟩ := hto
      obtain ⟨t3, t4⟩ := hfr
      clear hc hri hok n2 ha
      by_cases hle : r.fr ≤ min y r.to
      · have HN := Lib.hid (HY.out hle)
        go_wp2_with (first
          | ((with_reducible refine at_load4 72 ?_); refine wpList_load_at 72 _ b5 (off + i * 11) (ruleC r) _ (by rfl) rfl rfl HCx.out Tryz.underlying72 rfl (infoR _) ?_)
          | ((with_reducible refine at_store4 72 ?_); refine wpList_store_blk 72 _ _ wr.heap.size 0 72 (ruleC ruleZ) (ruleC r) (ruleC r) (by rfl) rfl rfl rfl rfl HB2.out (infoR _) (ruleC_one _) (show 0 + 11 ≤ 11 by decide) (put_ra _ _) ?_
             intro W3 hf3 hb3
             have HF3 := Lib.hid (HF2.out.fresh hf3 (fun i e => by have e : i = wr.heap.size := e; omega))
             have c1 : W3.cell? ⟨wr.heap.size, 1, none⟩ = some (.int .i64 r.fr) := blkc hb3 1 _ rfl
             have c2 : W3.cell? ⟨wr.heap.size, 2, none⟩ = some (.int .i64 r.to) := blkc hb3 2 _ rfl
             clear hf3 hb3 HF2 HB2))
        go_roundg (l.length - (i + 1))
        case measure => omega
        case rel => exact ⟨i + 1, by omega, by go_num, by rw [HN.out], ff4 HF.out HF3.out⟩
      · have HN := Lib.hid (HNo.out hle)
        have hle : min y r.to < r.fr := by omega
        go_wp2_with (first
          | ((with_reducible refine at_load4 72 ?_); refine wpList_load_at 72 _ b5 (off + i * 11) (ruleC r) _ (by rfl) rfl rfl HCx.out Tryz.underlying72 rfl (infoR _) ?_)
          | ((with_reducible refine at_store4 72 ?_); refine wpList_store_blk 72 _ _ wr.heap.size 0 72 (ruleC ruleZ) (ruleC r) (ruleC r) (by rfl) rfl rfl rfl rfl HB2.out (infoR _) (ruleC_one _) (show 0 + 11 ≤ 11 by decide) (put_ra _ _) ?_
             intro W3 hf3 hb3
             have HF3 := Lib.hid (HF2.out.fresh hf3 (fun i e => by have e : i = wr.heap.size := e; omega))
             have c1 : W3.cell? ⟨wr.heap.size, 1, none⟩ = some (.int .i64 r.fr) := blkc hb3 1 _ rfl
             have c2 : W3.cell? ⟨wr.heap.size, 2, none⟩ = some (.int .i64 r.to) := blkc hb3 2 _ rfl
             clear hf3 hb3 HF2 HB2))
        go_roundg (l.length - (i + 1))
        case measure => omega
        case rel => exact ⟨i + 1, by omega, by go_num, by rw [HN.out], ff4 HF.out HF3.out⟩
    · obtain rfl : i = l.length := by omega
      go_wp2_with fail
      go_ret
      exact ⟨rfl, HF.out⟩
end Go.Proofs.YtghcfmoagkimaaaGreatDoor
