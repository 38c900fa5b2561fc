import Derived.Test.YtpjmmnhmhjpkkaaDoorYb14
import Derived.RangeFuncNested
import Derived.RangeFuncBound
import Derived.RangeFuncCalls
import Derived.RangeFuncLeaves
import Derived.Shelf.Abstract
import Derived.Shelf.RegionOpen
import Derived.WalkKit
import Derived.OwnWalkIn
import Derived.TacticsInMore
import Derived.LoopNIn
import Derived.LoopIn
import Derived.Test.YtpjmmnhmhjpkkaaDoorYb08
import Derived.Test.YtpjmmnhmhjpkkaaDoorYb11
import Derived.Test.YtpjmmnhmhjpkkaaDoorYb12
import Derived.Lib.MinMax
import Derived.Test.YtpjmmnhmhjpkkaaDoorYb13
namespace Go.Proofs.YtpjmmnhmhjpkkaaDoor
open Go.RowKit Go.Mem Go.Lin Go.Xpd

theorem markH_from {l : List RuleL} {a b : Int} {d : List FireL} (h : d = yearsN l (max a 1) (min b 9999 + 1 - max a 1).toNat) : markH l d = fromD l a b := by
  unfold fromD
  cases d with
  | nil =>
    have := mark_years l (max a 1) (min b 9999 + 1 - max a 1).toNat
    rw [← h] at this
    exact this
  | cons f t =>
    rw [← mark_first h.symm, ← h]
    rfl
set_option maxHeartbeats 3200000 in
set_option maxRecDepth 100000 in
theorem xFrom_any (l : List RuleL) (A : Option Addr) (cap : Nat) (a b : Int) (w : World) (hw : S6.WOk w) (hl : RusAt w A l) (hn : l.length ≤ 8) (hr : ∀ r ∈ l, OkF r ∧ RuR r) (ha : -20000 ≤ a ∧ a ≤ 20001) (hb : -20000 ≤ b ∧ b ≤ 20000) (hab : b - a ≤ 30) :
    Calls Tryd.prog 65 #[.slice A l.length cap, intV a, intV b] w fun e w' => ∃ v, e = .returned v ∧ XFires w' w.heap.size v (fromD l a b) ∧ Fr w w' (fun _ => False) := by
  have HW := Lib.hid hw
  have HL := Lib.hid hl
  have HRr := Lib.hid (fun r h => (hr r h).1)
  clear hw hl hr
  go_enter Tryd.func65, Tryd.ntmps65
  go_wp2_with fail
  go_loopg [7, 8, 9, 12] l.length (fun g v7 _ _ v12 wr => ∃ i : Nat, i + g = l.length ∧ v12 = intV i ∧ XFires wr w.heap.size v7 (allG l a b i) ∧ Fr w wr (fun _ => False))
  case atStart => exact ⟨0, by simp, rfl, own_none _ _ _ _ _, Fr.refl _ _⟩
  case round =>
    obtain ⟨i, hi, rfl, ho, hf⟩ := hrel
    obtain ⟨A5, c5, rfl⟩ := ho.slice
    have HF := Lib.hid hf
    have HO := Lib.hid ho
    have hll : (allG l a b i).length ≤ 400 := Nat.le_trans (allG_len (m := 31) (by omega) i) (by omega)
    obtain ⟨L, hL⟩ : ∃ L, allG l a b i = L := ⟨_, rfl⟩
    have HLv := Lib.hid hL
    rw [hL] at HO hll ⊢
    clear hf ho hL
    by_cases hlt : i < l.length
    · obtain ⟨r, hri⟩ : ∃ r, l[i]? = some r := ⟨l[i], List.getElem?_eq_getElem hlt⟩
      obtain ⟨b5, off, hA, hc⟩ := (HL.out.kept HF.out).at_ hri
      subst hA
      have hok := HRr.out r (List.mem_of_getElem? hri)
      have hto := hok.okR.to
      have hfr := hok.okR.fr
      have HSr := Lib.hid hok.okR.s
      have HCx := Lib.hid hc
      have HN := Lib.hid (show allG l a b (i + 1) = L ++ gathD r i (max a (withD r.fr)) (cntY (max a (withD r.fr)) (min b (withD r.to))) by rw [allG_some hri, HLv.out]; rfl)
      have i0 : (i : Int) < (l.length : Int) := by omega
      have n2 := Fr.new wr (.cells #[.string ⟨#[]⟩, .int .i64 0, .int .i64 0, .int .i64 0, .int .i64 0, .int .i64 0, .int .i64 0, .int .i64 0, .int .i64 0, .int .i64 0, .string ⟨#[]⟩] 49) (fun _ => False)
      have HF2 := Lib.hid n2
      have HB2 := Lib.hid (show Blk _ wr.heap.size 49 (ruleC ruleZ) from Blk.made wr 49 (ruleC ruleZ))
      have hwd : 1 ≤ withD r.to ∧ withD r.to ≤ 9999 := by unfold withD; omega
      have hwf : 1 ≤ withD r.fr ∧ withD r.fr ≤ 9999 := by unfold withD; omega
      obtain ⟨t1, t2⟩ := hto
      obtain ⟨t3, t4⟩ := hfr
      clear hc hri hok n2
      go_wp2_with (first
        | ((with_reducible refine at_load4 49 ?_); refine wpList_load_at 49 _ b5 (off + i * 11) (ruleC r) _ (by rfl) rfl rfl HCx.out Tryd.underlying49 rfl (infoR _) ?_)
        | ((with_reducible refine at_store4 49 ?_); refine wpList_store_blk 49 _ _ wr.heap.size 0 49 (ruleC ruleZ) (ruleC r) (ruleC r) (by rfl) rfl rfl rfl rfl HB2.out (infoR _) (ruleC_one _) (show 0 + 11 ≤ 11 by decide) (put_ra _ _) ?_
           intro W3 hf3 hb3
           have HF3 := Lib.hid (HF2.out.fresh hf3 (fun i e => by have e : i = wr.heap.size := e; omega))
           have HB3 := Lib.hid hb3
           clear hf3 hb3 HF2 HB2))
      refine wp_region_held_drew (S := fun w' => TF w W3 w') (by kernel_rfl) (tf_of (Fr.drew _ _)) (fun hHeld => ?_)
      refine wpAnyH_take (i := 0) (v := ?_) rfl (by kernel_rfl) (by kernel_rfl) (by kernel_rfl) (fun _ _ _ h => h) (Or.inl ⟨by rfl, ?_⟩) (by assumption) ?_
      rotate_left
      · intro w' hSw
        go_simp
        try with_reducible rfl
      try simp only [Act.put, List.setIfInBounds_toArray, List.set_cons_zero, List.set_cons_succ, List.getElem_toArray, List.getElem_cons_zero]
      refine wpAnyH_take (i := 1) (v := _) rfl (by kernel_rfl) (by kernel_rfl) (by kernel_rfl) (fun _ _ _ h => h) ((yields_blk 49 _ wr.heap.size 0 49 (ruleC r) (ruleC r) _ (by rfl) rfl rfl (fun w' hSw => tf_far hSw HB3.out (by decide)) Tryd.underlying49 rfl (infoR _) (zero_part _))) (by assumption) ?_
      try simp only [Act.put, List.setIfInBounds_toArray, List.set_cons_zero, List.set_cons_succ, List.getElem_toArray, List.getElem_cons_succ, List.getElem_cons_zero]
      refine wpAnyH_take (i := 2) (v := ?_) rfl (by kernel_rfl) (by kernel_rfl) (by kernel_rfl) (fun _ _ _ h => h) (Or.inl ⟨by rfl, ?_⟩) (by assumption) ?_
      rotate_left
      · intro w' hSw
        go_simp
        try with_reducible rfl
      try simp only [Act.put, List.setIfInBounds_toArray, List.set_cons_zero, List.set_cons_succ, List.getElem_toArray, List.getElem_cons_succ, List.getElem_cons_zero]
      refine wpAnyH_take (i := 3) (v := _) rfl (by kernel_rfl) (by kernel_rfl) (by kernel_rfl) (fun _ _ _ h => h) ((yields_build 116 #[(0, .tmp 18), (1, .tmp 19)] (.agg (seatC r (i : Int))) (by rfl) rfl (fun w => by kernel_rfl))) (by assumption) ?_
      try simp only [Act.put, List.setIfInBounds_toArray, List.set_cons_zero, List.set_cons_succ, List.getElem_toArray, List.getElem_cons_succ, List.getElem_cons_zero]
      refine wpAnyH_take (i := 4) (v := ?_) rfl (by kernel_rfl) (by kernel_rfl) (by kernel_rfl) (fun _ _ _ h => h) (Or.inl ⟨by rfl, ?_⟩) (by assumption) ?_
      rotate_left
      · intro w' hSw
        go_simp
        try with_reducible rfl
      try simp only [Act.put, List.setIfInBounds_toArray, List.set_cons_zero, List.set_cons_succ, List.getElem_toArray, List.getElem_cons_succ, List.getElem_cons_zero]
      refine wpAnyH_take (i := 5) (v := ?_) rfl (by kernel_rfl) (by kernel_rfl) (by kernel_rfl) (fun _ _ _ h => h) (Or.inl ⟨by rfl, ?_⟩) (by assumption) ?_
      rotate_left
      · intro w' hSw
        go_simp
        try with_reducible rfl
      try simp only [Act.put, List.setIfInBounds_toArray, List.set_cons_zero, List.set_cons_succ, List.getElem_toArray, List.getElem_cons_succ, List.getElem_cons_zero]
      refine wpAnyH_take (i := 6) (v := ?_) rfl (by kernel_rfl) (by kernel_rfl) (by kernel_rfl) (fun _ _ _ h => h) (Or.inl ⟨by rfl, ?_⟩) (by assumption) ?_
      rotate_left
      · intro w' hSw
        go_simp
        try with_reducible rfl
      try simp only [Act.put, List.setIfInBounds_toArray, List.set_cons_zero, List.set_cons_succ, List.getElem_toArray, List.getElem_cons_succ, List.getElem_cons_zero]
      refine wpAnyH_take (i := 7) (v := ?_) rfl (by kernel_rfl) (by kernel_rfl) (by kernel_rfl) (fun _ _ _ h => h) (Or.inl ⟨by rfl, ?_⟩) (by assumption) ?_
      rotate_left
      · intro w' hSw
        have c1 : w'.cell? ⟨wr.heap.size, 1, none⟩ = some (.int .i64 r.fr) := blkc (tf_far hSw HB3.out (by decide)) 1 _ rfl
        go_simp
        try with_reducible rfl
      try simp only [Act.put, List.setIfInBounds_toArray, List.set_cons_zero, List.set_cons_succ, List.getElem_toArray, List.getElem_cons_succ, List.getElem_cons_zero]
      refine wpAnyH_take (i := 10) (v := ?_) rfl (by kernel_rfl) (by kernel_rfl) (by kernel_rfl) (fun _ _ _ h => h) (Or.inl ⟨by rfl, ?_⟩) (by assumption) ?_
      rotate_left
      · intro w' hSw
        go_simp
        try with_reducible rfl
      try simp only [Act.put, List.setIfInBounds_toArray, List.set_cons_zero, List.set_cons_succ, List.getElem_toArray, List.getElem_cons_succ, List.getElem_cons_zero]
      refine wpAnyH_take (i := 11) (v := ?_) rfl (by kernel_rfl) (by kernel_rfl) (by kernel_rfl) (fun _ _ _ h => h) (Or.inl ⟨by rfl, ?_⟩) (by assumption) ?_
      rotate_left
      · intro w' hSw
        go_simp
        try with_reducible rfl
      try simp only [Act.put, List.setIfInBounds_toArray, List.set_cons_zero, List.set_cons_succ, List.getElem_toArray, List.getElem_cons_succ, List.getElem_cons_zero]
      refine wpAnyH_take (i := 12) (v := ?_) rfl (by kernel_rfl) (by kernel_rfl) (by kernel_rfl) (fun _ _ _ h => h) (Or.inl ⟨by rfl, ?_⟩) (by assumption) ?_
      rotate_left
      · intro w' hSw
        have c2 : w'.cell? ⟨wr.heap.size, 2, none⟩ = some (.int .i64 r.to) := blkc (tf_far hSw HB3.out (by decide)) 2 _ rfl
        go_simp
        try with_reducible rfl
      try simp only [Act.put, List.setIfInBounds_toArray, List.set_cons_zero, List.set_cons_succ, List.getElem_toArray, List.getElem_cons_succ, List.getElem_cons_zero]
      refine wpAnyH_ready (rs := [8]) (by kernel_rfl) (by simp) ?_
      refine AllReadyH.cons rfl (fun K hK => ?_) AllReadyH.nil
      go_simp
      refine (within_any r.fr _ (by omega)).mono ?_
      rintro e w6 ⟨rfl, rfl⟩
      refine hK.out _ _ (hHeld) (fun hHeld2 => ?_)
      clear hK K hHeld
      rename_i hHeld2
      have hHeld := hHeld2
      clear hHeld2
      try simp only [Act.put, List.setIfInBounds_toArray, List.set_cons_zero, List.set_cons_succ, List.getElem_toArray, List.getElem_cons_succ, List.getElem_cons_zero]
      refine wpAnyH_take (i := 9) (v := ?_) rfl (by kernel_rfl) (by kernel_rfl) (by kernel_rfl) (fun _ _ _ h => h) (Or.inl ⟨by rfl, ?_⟩) (by assumption) ?_
      rotate_left
      · intro w' hSw
        go_simp
        try with_reducible rfl
      try simp only [Act.put, List.setIfInBounds_toArray, List.set_cons_zero, List.set_cons_succ, List.getElem_toArray, List.getElem_cons_succ, List.getElem_cons_zero]
      refine wpAnyH_ready (rs := [13]) (by kernel_rfl) (by simp) ?_
      refine AllReadyH.cons rfl (fun K hK => ?_) AllReadyH.nil
      go_simp
      refine (within_any r.to _ (by omega)).mono ?_
      rintro e w6 ⟨rfl, rfl⟩
      refine hK.out _ _ (hHeld) (fun hHeld2 => ?_)
      clear hK K hHeld
      rename_i hHeld2
      have hHeld := hHeld2
      clear hHeld2
      try simp only [Act.put, List.setIfInBounds_toArray, List.set_cons_zero, List.set_cons_succ, List.getElem_toArray, List.getElem_cons_succ, List.getElem_cons_zero]
      refine wpAnyH_take (i := 14) (v := ?_) rfl (by kernel_rfl) (by kernel_rfl) (by kernel_rfl) (fun _ _ _ h => h) (Or.inl ⟨by rfl, ?_⟩) (by assumption) ?_
      rotate_left
      · intro w' hSw
        go_simp
        try with_reducible rfl
      try simp only [Act.put, List.setIfInBounds_toArray, List.set_cons_zero, List.set_cons_succ, List.getElem_toArray, List.getElem_cons_succ, List.getElem_cons_zero]
      refine wpAnyH_ready (rs := [15]) (by kernel_rfl) (by simp) ?_
      refine AllReadyH.cons rfl (fun K hK => ?_) AllReadyH.nil
      go_simp
      refine (gather_any r (i : Int) L (.slice A5 L.length c5) (max a (withD r.fr)) (min b (withD r.to)) w _ HW.out (ff4 HF.out (ff4 HF3.out (Fr.drew _ _))) (HO.out.kept (ff4 HF3.out (Fr.drew _ _))) (by omega) HSr.out (by omega) (by omega) (by omega)).mono ?_
      rintro e w7 ⟨v9, rfl, ho9, ht9⟩
      obtain ⟨A9, c9, rfl⟩ := ho9.slice
      refine hK.out _ _ (tf_trans hHeld ht9) (fun hHeld2 => ?_)
      clear hK K hHeld
      rename_i hHeld2
      have hHeld := hHeld2
      clear hHeld2
      have HO9 := Lib.hid ho9
      clear ho9 ht9
      try simp only [Act.put, List.setIfInBounds_toArray, List.set_cons_zero, List.set_cons_succ, List.getElem_toArray, List.getElem_cons_succ, List.getElem_cons_zero]
      refine wpAnyH_take (i := 16) (v := ?_) rfl (by kernel_rfl) (by kernel_rfl) (by kernel_rfl) (fun _ _ _ h => h) (Or.inl ⟨by rfl, ?_⟩) (by assumption) ?_
      rotate_left
      · intro w' hSw
        go_simp
        try with_reducible rfl
      try simp only [Act.put, List.setIfInBounds_toArray, List.set_cons_zero, List.set_cons_succ, List.getElem_toArray, List.getElem_cons_succ, List.getElem_cons_zero]
      refine wpAnyH_done (by kernel_rfl) ?_ _
      have HF9 := Lib.hid (tf_low (ff4 HF.out HF3.out) hHeld)
      clear hHeld
      go_wp2_with fail
      go_roundg (l.length - (i + 1))
      case measure => omega
      case rel => exact ⟨i + 1, by omega, by go_num, by rw [HN.out, ← List.length_append]; exact HO9.out, HF9.out⟩
    · obtain rfl : i = l.length := by omega
      have HQ := Lib.hid (sort_any L (.slice A5 L.length c5) w.heap.size wr HO.out (by omega))
      go_wp2_with fail
      refine HQ.out.mono ?_
      rintro e w2 ⟨rfl, d, hp, hs, ho2, hf2⟩
      have hdl : d.length = L.length := hp.length_eq
      have HF2 := Lib.hid (HF.out.fresh hf2 fun i e => (own_block HO.out e.symm).1)
      rw [← HLv.out] at hp
      have HE := Lib.hid (markH_from (sort_years hp hs))
      have HB := Lib.hid (setB_any l A cap d (.slice A5 L.length c5) w w2 HW.out HF2.out HL.out (by omega) HRr.out ho2 (by omega) (fun f hf => by
        obtain ⟨k, r, -, h1, -, -, h4, h5⟩ := allG_mem.1 (hp.mem_iff.1 hf)
        have hla := atR_lasts h4
        unfold lasts at hla
        exact ⟨⟨hla.2.2.1, hla.2.2.2⟩, k, r, h1, by rw [h5]⟩))
      clear hp hs ho2 hf2 hdl
      go_wp2_with fail
      refine HB.out.mono ?_
      rintro e w3 ⟨rfl, ho3, hf3⟩
      have HO3 := Lib.hid ho3
      have HF3 := Lib.hid hf3
      clear ho3 hf3
      go_wp2_with fail
      go_ret
      exact ⟨_, rfl, by rw [← HE.out]; exact HO3.out, HF3.out⟩
end Go.Proofs.YtpjmmnhmhjpkkaaDoor
/- inside a fence: structs loaded and stored -/
namespace Go.Mem
open Go.RowKit
section
variable {F : Fence} {n : Nat} {P : Program} {ops : Array Oper} {rest : List Oper} {o : Oper} {a : Act} {w : World} {Q : Exit → Act → World → Prop}
theorem wpListIn_load_at (ty : TypeId) (x : Operand) (g off : Nat) (cs : Array Value) (d : TypeDesc) (hgd : o.guard = none) (ho : o.op = .load ty x) (hx : a.eval x = .pointer (some ⟨g, off, none⟩)) (hc : ∀ j, j < cs.size → w.cell? ⟨g, off + j, none⟩ = cs[j]?)
    (hu : P.underlying ty = some d) (hd : d.isRow = true) (hi : (P.info? ty).map (·.size) = some cs.size)
    (h : wpListIn F n P ops Q rest (a.put o.dst (.agg cs)) w) : wpListIn F n P ops Q (o :: rest) a w := by
  refine wpListIn_plain hgd fun K hK' => ?_
  unfold Oper.wpIn
  refine ⟨?_, ?_⟩
  · simp [Oper.about, ho]
  · rw [Oper.semAt_plain F _ _ (by rw [ho]; intro c hc'; cases hc')]
    simp only [execOp, ho, hx, Instr.loadAt, Instr.sureAddr, Sem.run_bind, Sem.run_pure, Result.andThen_ok, run_loadVar_at w g off ty cs d hc hu hd hi]
    exact hK' _ _ h
theorem wpListIn_store_blk (ty : TypeId) (x y : Operand) (g off : Nat) (t : TypeId) (old cells new : Array Value) (hgd : o.guard = none) (ho : o.op = .store ty x y) (hd : o.dst = none) (hx : a.eval x = .pointer (some ⟨g, off, none⟩)) (hy : a.eval y = .agg cells)
    (hg : Blk w g t old) (hi : (P.info? ty).map (·.size) = some cells.size) (h1 : cells.all (·.oneCell') = true) (hfit : off + cells.size ≤ old.size) (hnew : setMany old off cells.toList = new)
    (h : ∀ W, Fr w W (fun i => i = g) → Blk W g t new → wpListIn F n P ops Q rest a W) : wpListIn F n P ops Q (o :: rest) a w := by
  refine wpListIn_plain hgd fun K hK' => ?_
  have ht : w.there g off cells.size := fun j hj => ⟨by rw [cell_at hg, Array.getElem?_eq_getElem (by omega)]; rfl, free_at hg _⟩
  unfold Oper.wpIn
  refine ⟨?_, ?_⟩
  · simp [Oper.about, ho]
  · rw [Oper.semAt_plain F _ _ (by rw [ho]; intro c hc'; cases hc')]
    simp only [execOp, ho, hx, hy, run_storeAt_mid w g off ty cells ht hi h1, Sem.run_bind, Sem.run_pure, Result.andThen_ok]
    have := hK' a _ (h _ (Fr.many cells.toList off w) (by have := Blk.many cells.toList off old w hg; rw [hnew] at this; exact this))
    simpa only [Oper.uponIn, hd, Act.put] using this
theorem gi_load4 {d : Option Tmp} {x : Operand} {ty : TypeId} {pos : String} {af : Array Edge} {g : Option (Nat × Bool)} (t : TypeId) (h : wpListIn F n P ops Q (⟨d, .load t x, ty, pos, af, g⟩ :: rest) a w) : wpListIn F n P ops Q (⟨d, .load t x, ty, pos, af, g⟩ :: rest) a w := h
theorem gi_store4 {d : Option Tmp} {x y : Operand} {ty : TypeId} {pos : String} {af : Array Edge} {g : Option (Nat × Bool)} (t : TypeId) (h : wpListIn F n P ops Q (⟨d, .store t x y, ty, pos, af, g⟩ :: rest) a w) : wpListIn F n P ops Q (⟨d, .store t x y, ty, pos, af, g⟩ :: rest) a w := h
end
theorem fr_keeps {W W' : World} (h : Fr W W' (fun _ => False)) (B : Nat) : KeepsFrom B W W' := ⟨h.size, fun k _ _ hk _ => (h.block k (Array.getElem?_eq_some_iff.1 hk).1 (fun h => h)).trans hk⟩
theorem fr_low {W W' : World} (h : Fr W W' (fun _ => False)) {B : Nat} (hB : B ≤ W.heap.size) : Below B W W' := h.below hB (fun _ h => h.elim)
/-- a block of cells that was turned alone -/
theorem keeps_cells {W W' : World} {g : Nat} {t : TypeId} {cs : Array Value} (h : Fr W W' (fun i => i = g)) (hb : Blk W g t cs) (B : Nat) : KeepsFrom B W W' := ⟨h.size, fun k o _ hk ho => by
  by_cases e : k = g
  · subst e
    unfold Blk at hb
    rw [hb] at hk
    cases hk
    cases ho
  · exact (h.block k (Array.getElem?_eq_some_iff.1 hk).1 e).trans hk⟩
theorem ownFrom_blk {β : Type} (B g : Nat) (t : TypeId) (cs : β → Array Value) : OwnFrom B (fun (s : β) W => Blk W g t (cs s)) := fun s W W' row h hg hr => by
  refine (hg.block g h.lt (fun e => ?_)).trans h
  obtain ⟨-, o, ho, hc⟩ := hr g e.symm
  unfold Blk at h
  rw [h] at ho
  cases ho
  cases hc
end Go.Mem
namespace Go.Proofs.YtpjmmnhmhjpkkaaDoor
open Go.RowKit Go.Mem Go.Lin Go.Xpd Go.Shelf
attribute [local go_sem] Oper.semAt_some

/- slices.Backward over fires -/
/-- what has come when m are left -/
def revZ {α : Type} (Z : List α) (m : Nat) : List α := (Z.drop m).reverse
theorem revZ_all {α : Type} (Z : List α) : revZ Z Z.length = [] := by unfold revZ; rw [List.drop_length]; rfl
theorem revZ_step {α : Type} {Z : List α} {m : Nat} {x : α} (h : Z[m]? = some x) : revZ Z m = revZ Z (m + 1) ++ [x] := by
  obtain ⟨hm, e⟩ := List.getElem?_eq_some_iff.1 h
  unfold revZ
  rw [List.drop_eq_getElem_cons hm, List.reverse_cons, e]
theorem revZ_len {α : Type} (Z : List α) (m : Nat) : (revZ Z m).length = Z.length - m := by unfold revZ; simp
theorem revZ_map {α β : Type} (p : α → β) (Z : List α) (m : Nat) : (revZ Z m).map p = revZ (Z.map p) m := by unfold revZ; simp
/-- fires in blocks below -/
structure FiresIn (n₀ : Nat) (W : World) (A : Option Addr) (F : List FireL) : Prop where
  r : Rd W 4 A F.length (F.flatMap fireL)
  low : ∀ b off, A = some ⟨b, off, none⟩ → b < n₀
theorem FiresIn.at_ {n₀ : Nat} {W : World} {A : Option Addr} {F : List FireL} (h : FiresIn n₀ W A F) {i : Nat} {f : FireL} (hf : F[i]? = some f) : ∃ b off, A = some ⟨b, off, none⟩ ∧ b < n₀ ∧ ∀ j, j < (fireC f).size → W.cell? ⟨b, off + i * 4 + j, none⟩ = (fireC f)[j]? := by
  obtain ⟨b, off, e, hc⟩ := rows_at (fun x => (rfl : (fireL x).length = 4)) h.r hf
  refine ⟨b, off, e, h.low b off e, fun j hj => ?_⟩
  rw [hc j hj]
  show (fireC f).toList[j]? = _
  simp
theorem infoFi (f : FireL) : (Tryd.prog.info? 110).map (·.size) = some (fireC f).size := show _ = some 4 by kernel_rfl
set_option maxRecDepth 100000 in
set_option maxHeartbeats 2000000 in
/-- the iterator's body, for every loop body that keeps what lay below -/
theorem back1_in {α : Type} (p : α → FireL × Nat) (Z : List α) (K : Fence) (n : Nat) (h7 : K.fn 64) (hro : K.round = none) (hn : 1 ≤ n) (l Bs n₀ : Nat) (A : Option Addr) (cap : Nat) (F : List FireL) (hZ : Z.map p = F.zipIdx) (J Jx : List α → World → Prop)
    (hY : ∀ pre x W, J pre W → pre.length < F.length → YieldAt K (n - 1) Tryd.prog l #[intV ((p x).2 : Nat), fireV (p x).1] W fun e W' =>
      (e = .returned (.bool true) ∧ J (pre ++ [x]) W' ∧ Below n₀ W W') ∨ (e = .returned (.bool false) ∧ Jx (pre ++ [x]) W'))
    (W : World) (hBs : W.cell? ⟨Bs, 0, none⟩ = some (.slice A F.length cap)) (hBl : Bs < n₀) (hF : FiresIn n₀ W A F) (hlen : F.length ≤ 100000) (h0 : J [] W) :
    CallsIn K n Tryd.prog 64 #[.func (.yield l) #[] #[], .pointer (some ⟨Bs, 0, none⟩)] W fun e W' => (∃ v, e = .returned v) ∧
      ((∃ ys, ys = revZ Z 0 ∧ J ys W') ∨ (∃ pre, (∃ m, m < F.length ∧ pre = revZ Z m) ∧ Jx pre W')) := by
  have hZl : Z.length = F.length := by have := congrArg List.length hZ; simpa using this
  have HZl := Lib.hid hZl
  have HZm := Lib.hid hZ
  clear hZl hZ
  refine callsIn_of_wp Tryd.func64 rfl h7 ?_ hro
  simp only [Tryd.ntmps64, List.size_toArray, List.length_cons, List.length_nil, Nat.reduceAdd, Nat.reduceSub, Array.replicate_succ, Array.replicate_zero, List.push_toArray, List.append_toArray, List.nil_append, List.cons_append]
  have HFi := Lib.hid hF
  have HY := Lib.hid hY
  clear hF hY
  gi_wp2
  gi_loopw [3] (fun i wr => ∃ m : Nat, m ≤ F.length ∧ i = .int .i64 ((m : Int) - 1) ∧ J (revZ Z m) wr ∧ Below n₀ W wr)
    (fun i _ => (intOf i + 1).toNat)
  case atStart => exact ⟨F.length, Nat.le_refl _, rfl, by rw [← HZl.out, revZ_all]; exact h0, Below.refl _ _⟩
  case round =>
    obtain ⟨m, hm, hv, hJs, hnx⟩ := hrel
    have HJ := Lib.hid hJs
    have HX := Lib.hid hnx
    clear hJs hnx
    cases m with
    | zero =>
      obtain rfl := hv
      gi_wp2
      go_end0
      exact ⟨⟨_, rfl⟩, .inl ⟨_, rfl, HJ.out⟩⟩
    | succ m =>
      rw [show ((m + 1 : Nat) : Int) - 1 = (m : Int) by omega] at hv
      subst hv
      obtain ⟨f, hf⟩ : ∃ f, F[m]? = some f := ⟨F[m], List.getElem?_eq_getElem hm⟩
      obtain ⟨b, off, hA, hb, hc⟩ := HFi.out.at_ hf
      subst hA
      obtain ⟨x, hx, hpx⟩ : ∃ x, Z[m]? = some x ∧ p x = (f, m) := by
        have h1 : (Z.map p)[m]? = some (f, m) := by rw [HZm.out, List.getElem?_zipIdx, hf]; simp
        rw [List.getElem?_map] at h1
        cases hz : Z[m]? with
        | none => rw [hz] at h1; cases h1
        | some x => rw [hz] at h1; exact ⟨x, rfl, Option.some.inj h1⟩
      have HSt := Lib.hid (revZ_step hx)
      obtain ⟨fn, tmps, assign, body, hy, hR⟩ := HY.out _ x wr HJ.out (by rw [revZ_len, HZl.out]; omega)
      rw [hpx] at hy
      dsimp only at hy
      have cB : wr.cell? ⟨Bs, 0, none⟩ = some (.slice (some ⟨b, off, none⟩) F.length cap) := (HX.out.cell (p := ⟨Bs, 0, none⟩) hBl).trans hBs
      have HC := Lib.hid (fun j (hj : j < (fireC f).size) => (HX.out.cell (p := ⟨b, off + m * 4 + j, none⟩) hb).trans (hc j hj))
      have m0 : (0 : Int) ≤ (m : Int) := by omega
      have m1 : (m : Int) < (F.length : Int) := by omega
      clear hc hx hf hpx
      gi_wp2_with ((with_reducible refine gi_load4 110 ?_); refine wpListIn_load_at 110 _ b (off + m * 4) (fireC f) _ rfl rfl rfl HC.out Tryd.underlying110 rfl (infoFi _) ?_)
      refine hR.mono ?_
      rintro e W3 (⟨rfl, hJ3, hk3⟩ | ⟨rfl, hJx3⟩)
      · gi_wp2
        go_roundw
        case rel => exact ⟨m, by omega, rfl, by rw [HSt.out]; exact hJ3, HX.out.trans hk3⟩
        case measure => simp [intOf]
      · gi_wp2
        refine bodyPost_ret (results_none rfl _ _ _) rfl ?_
        exact ⟨⟨_, rfl⟩, .inr ⟨_, ⟨m, by omega, HSt.out.symm⟩, hJx3⟩⟩
end Go.Proofs.YtpjmmnhmhjpkkaaDoor
namespace Go.Proofs.YtpjmmnhmhjpkkaaDoor
open Go.RowKit Go.Mem Go.Lin Go.Xpd Go.Den

/- small functions of den -/
theorem size_any (n : Int) (w : World) (hn : S6.inRange n) : Calls Tryd.prog 55 #[intV n] w fun e w' => e = .returned (intV (sizeD n)) ∧ w' = w := by
  obtain ⟨h1, h2⟩ := hn
  have hw : IntKind.i64.wrap (-(max n (-1099511627776))) = -(max n (-1099511627776)) := by rw [IntKind.wrap_i64]; omega
  have HS := Lib.hid (show sizeD n = max (min n 1099511627776) (-(max n (-1099511627776))) from rfl)
  go_enter Tryd.func55, Tryd.ntmps55
  go_wp2_with fail
  go_ret
  exact ⟨by rw [HS.out]; rfl, rfl⟩
theorem nwithin_any (n m : Int) (w : World) (hm : 0 ≤ m ∧ m ≤ 1000000) : Calls Tryd.prog 41 #[intV n, intV m] w fun e w' => e = .returned (.bool (decide (within n m))) ∧ w' = w := by
  by_cases h1 : -m ≤ n
  · by_cases h2 : n ≤ m
    · have H := Lib.hid (show decide (within n m) = true from decide_eq_true ⟨h1, h2⟩)
      go_enter Tryd.func41, Tryd.ntmps41
      go_wp2_with fail
      go_ret
      exact ⟨by rw [H.out]; rfl, rfl⟩
    · have H := Lib.hid (show decide (within n m) = false from decide_eq_false fun h => h2 h.2)
      go_enter Tryd.func41, Tryd.ntmps41
      go_wp2_with fail
      go_ret
      exact ⟨by rw [H.out]; rfl, rfl⟩
  · have H := Lib.hid (show decide (within n m) = false from decide_eq_false fun h => h1 h.1)
    go_enter Tryd.func41, Tryd.ntmps41
    go_wp2_with fail
    go_ret
    exact ⟨by rw [H.out]; rfl, rfl⟩
/-- a year up to which all counts -/
theorem inReach_any (t : Int) (w : World) (hw : S6.WOk w) (ht : S6.inRange t) : Calls Tryd.prog 13 #[intV t] w fun e w' => e = .returned (.bool (reachY t).isSome) ∧ Fr w w' (fun _ => False) := by
  obtain ⟨y, m, d, k, hD⟩ := S6.date_of (t / 86400)
  obtain ⟨h0, h1⟩ := date_reach hD
  have HC := Lib.hid (S6.Clock_any t w ht)
  have HD := Lib.hid (S6.Date_any (t / 86400) y m d k w.drew (by unfold S6.inRange at *; omega) (hw.fr (Fr.drew _ _)).lok hD)
  have hy : -10000 ≤ y ∧ y ≤ 10000 := by
    rcases hD with ⟨-, -, h3, -, -⟩ | ⟨-, rfl, -, -, -⟩
    · have := Go.Civil.rightB_iff.1 h3
      omega
    · omega
  clear hD
  generalize t / 86400 = n at *
  by_cases hk : k = 0
  · have g0 := h0 hk
    clear h0 h1
    subst hk
    by_cases b1 : -9998 ≤ y
    · have H0 := Lib.hid (show (reachY t).isSome = decide (y ≤ 9998) by
        rw [g0]
        by_cases h : y ≤ 9998
        · rw [if_pos ⟨b1, h⟩, decide_eq_true h]; rfl
        · rw [if_neg (fun c => h c.2), decide_eq_false h]; rfl)
      clear g0
      go_enter Tryd.func13, Tryd.ntmps13
      go_wp2_with fail
      refine HC.out.mono ?_
      rintro e w2 ⟨rfl, rfl⟩
      go_wp2_with fail
      refine HD.out.mono ?_
      rintro e w3 ⟨rfl, hf⟩
      go_wp2_with fail
      go_ret
      exact ⟨by rw [H0.out]; rfl, ff4 (Fr.drew _ _) hf⟩
    · have H0 := Lib.hid (show (reachY t).isSome = false by rw [g0, if_neg (fun c => b1 c.1)]; rfl)
      clear g0
      go_enter Tryd.func13, Tryd.ntmps13
      go_wp2_with fail
      refine HC.out.mono ?_
      rintro e w2 ⟨rfl, rfl⟩
      go_wp2_with fail
      refine HD.out.mono ?_
      rintro e w3 ⟨rfl, hf⟩
      go_wp2_with fail
      go_ret
      exact ⟨by rw [H0.out]; rfl, ff4 (Fr.drew _ _) hf⟩
  · have H0 := Lib.hid (show (reachY t).isSome = false by rw [h1 hk]; rfl)
    have k1 : (k == 0) = false := by rw [beq_eq_false_iff_ne]; exact hk
    clear h0 h1 hk
    go_enter Tryd.func13, Tryd.ntmps13
    go_wp2_with fail
    refine HC.out.mono ?_
    rintro e w2 ⟨rfl, rfl⟩
    go_wp2_with fail
    refine HD.out.mono ?_
    rintro e w3 ⟨rfl, hf⟩
    go_wp2_with fail
    go_ret
    exact ⟨by rw [H0.out]; rfl, ff4 (Fr.drew _ _) hf⟩
end Go.Proofs.YtpjmmnhmhjpkkaaDoor
namespace Go.Proofs.YtpjmmnhmhjpkkaaDoor
open Go.RowKit Go.Mem Go.Lin Go.Xpd Go.Den

set_option maxHeartbeats 3200000 in
set_option maxRecDepth 100000 in
theorem latest_any (l : List RuleL) (A : Option Addr) (cap : Nat) (y : Int) (w : World) (hl : RusAt w A l) (hn : l.length ≤ 8) (hr : ∀ r ∈ l, OkF r) (_hy : -20000 ≤ y ∧ y ≤ 20000) :
    Calls Tryd.prog 48 #[.slice A l.length cap, intV y] w fun e w' => e = .returned (intV (latD l y)) ∧ Fr w w' (fun _ => False) := by
  have HL := Lib.hid hl
  have HRr := Lib.hid hr
  clear hl hr
  go_enter Tryd.func48, Tryd.ntmps48
  go_wp2_with fail
  go_loopg [5, 7, 8, 11] l.length (fun g v5 _ _ v11 wr => ∃ i : Nat, i + g = l.length ∧ v11 = intV i ∧ v5 = intV (latN l y i) ∧ Fr w wr (fun _ => False))
  case atStart => exact ⟨0, by simp, rfl, rfl, Fr.refl _ _⟩
  case round =>
    obtain ⟨i, hi, rfl, rfl, hf⟩ := hrel
    have HF := Lib.hid hf
    clear hf
    by_cases hlt : i < l.length
    · obtain ⟨r, hri⟩ : ∃ r, l[i]? = some r := ⟨l[i], List.getElem?_eq_getElem hlt⟩
      obtain ⟨b5, off, hA, hc⟩ := (HL.out.kept HF.out).at_ hri
      subst hA
      have hok := HRr.out r (List.mem_of_getElem? hri)
      have hto := hok.okR.to
      have hfr := hok.okR.fr
      have HCx := Lib.hid hc
      have i0 : (i : Int) < (l.length : Int) := by omega
      have n2 := Fr.new wr (.cells #[.string ⟨#[]⟩, .int .i64 0, .int .i64 0, .int .i64 0, .int .i64 0, .int .i64 0, .int .i64 0, .int .i64 0, .int .i64 0, .int .i64 0, .string ⟨#[]⟩] 49) (fun _ => False)
      have HF2 := Lib.hid n2
      have HB2 := Lib.hid (show Blk _ wr.heap.size 49 (ruleC ruleZ) from Blk.made wr 49 (ruleC ruleZ))
      obtain ⟨a, ha⟩ : ∃ a, latN l y i = a := ⟨_, rfl⟩
      have HY := Lib.hid (fun h : r.fr ≤ min y r.to => (lat_yes (y := y) hri h).trans (by rw [ha]))
      have HNo := Lib.hid (fun h : ¬ r.fr ≤ min y r.to => (lat_no (y := y) hri h).trans ha)
      rw [ha]
      obtain ⟨t1, t2⟩ := hto
      obtain ⟨t3, t4⟩ := hfr
      clear hc hri hok n2 ha
      by_cases hle : r.fr ≤ min y r.to
      · have HN := Lib.hid (HY.out hle)
        go_wp2_with (first
          | ((with_reducible refine at_load4 49 ?_); refine wpList_load_at 49 _ b5 (off + i * 11) (ruleC r) _ (by rfl) rfl rfl HCx.out Tryd.underlying49 rfl (infoR _) ?_)
          | ((with_reducible refine at_store4 49 ?_); refine wpList_store_blk 49 _ _ wr.heap.size 0 49 (ruleC ruleZ) (ruleC r) (ruleC r) (by rfl) rfl rfl rfl rfl HB2.out (infoR _) (ruleC_one _) (show 0 + 11 ≤ 11 by decide) (put_ra _ _) ?_
             intro W3 hf3 hb3
             have HF3 := Lib.hid (HF2.out.fresh hf3 (fun i e => by have e : i = wr.heap.size := e; omega))
             have c1 : W3.cell? ⟨wr.heap.size, 1, none⟩ = some (.int .i64 r.fr) := blkc hb3 1 _ rfl
             have c2 : W3.cell? ⟨wr.heap.size, 2, none⟩ = some (.int .i64 r.to) := blkc hb3 2 _ rfl
             clear hf3 hb3 HF2 HB2))
        go_roundg (l.length - (i + 1))
        case measure => omega
        case rel => exact ⟨i + 1, by omega, by go_num, by rw [HN.out], ff4 HF.out HF3.out⟩
      · have HN := Lib.hid (HNo.out hle)
        have hle : min y r.to < r.fr := by omega
        go_wp2_with (first
          | ((with_reducible refine at_load4 49 ?_); refine wpList_load_at 49 _ b5 (off + i * 11) (ruleC r) _ (by rfl) rfl rfl HCx.out Tryd.underlying49 rfl (infoR _) ?_)
          | ((with_reducible refine at_store4 49 ?_); refine wpList_store_blk 49 _ _ wr.heap.size 0 49 (ruleC ruleZ) (ruleC r) (ruleC r) (by rfl) rfl rfl rfl rfl HB2.out (infoR _) (ruleC_one _) (show 0 + 11 ≤ 11 by decide) (put_ra _ _) ?_
             intro W3 hf3 hb3
             have HF3 := Lib.hid (HF2.out.fresh hf3 (fun i e => by have e : i = wr.heap.size := e; omega))
             have c1 : W3.cell? ⟨wr.heap.size, 1, none⟩ = some (.int .i64 r.fr) := blkc hb3 1 _ rfl
             have c2 : W3.cell? ⟨wr.heap.size, 2, none⟩ = some (.int .i64 r.to) := blkc hb3 2 _ rfl
             clear hf3 hb3 HF2 HB2))
        go_roundg (l.length - (i + 1))
        case measure => omega
        case rel => exact ⟨i + 1, by omega, by go_num, by rw [HN.out], ff4 HF.out HF3.out⟩
    · obtain rfl : i = l.length := by omega
      go_wp2_with fail
      go_ret
      exact ⟨rfl, HF.out⟩
end Go.Proofs.YtpjmmnhmhjpkkaaDoor
namespace Go.Proofs.YtpjmmnhmhjpkkaaDoor
open Go.RowKit Go.Mem Go.Lin Go.Xpd Go.Den

/-- a year behind which nothing that counts fires -/
def FarR (l : List RuleL) (off t : Int) (w : World) (e : Ending) (w' : World) : Prop := ∃ y : Int, e = .returned (intV y) ∧ Fr w w' (fun _ => False) ∧ -10000 ≤ y ∧ y ≤ 9999 ∧ ∀ x, y < x → lastIn l off t (fromD l x x) = none
theorem far_year {l : List RuleL} (h : OkS l) {off t y m d k : Int} (ho : -100000 ≤ off ∧ off ≤ 100000) (_ht : -400000000000 ≤ t) (hD : S6.DateR (farD l off t) y m d k) :
    (k = 0 → -10000 ≤ y ∧ y ≤ 9999 ∧ ∀ x, y < x → lastIn l off t (fromD l x x) = none) ∧ ∀ x, 9999 < x → lastIn l off t (fromD l x x) = none := by
  refine ⟨fun hk => ?_, fun x hx => high_out hx⟩
  rcases hD with ⟨h1, h2, h3, h4, -⟩ | ⟨-, -, -, -, h5⟩
  · have hn := Go.Civil.numD_in h3
    rw [h4] at hn
    have := Go.Civil.rightB_iff.1 h3
    exact ⟨by omega, by omega, far_fires h ho hn.2.1⟩
  · omega
set_option maxHeartbeats 3200000 in
set_option maxRecDepth 100000 in
theorem lastF_any (l : List RuleL) (A : Option Addr) (cap : Nat) (off t : Int) (w : World) (hw : S6.WOk w) (hl : RusAt w A l) (hn : l.length ≤ 8) (hr : ∀ r ∈ l, OkF r) (ho : -100000 ≤ off ∧ off ≤ 100000) (ht : -400000000000 ≤ t ∧ t ≤ 400000000000) :
    Calls Tryd.prog 49 #[.slice A l.length cap, intV off, intV t] w (FarR l off t w) := by
  have HW := Lib.hid hw
  have HL := Lib.hid hl
  have HRr := Lib.hid hr
  have hok : OkS l := ⟨fun r h => ⟨(hr r h).1, (hr r h).2.1⟩, fun r h => ⟨(hr r h).2.2.1, (hr r h).2.2.2.1⟩⟩
  have HOk := Lib.hid hok
  clear hl hr hw hok
  go_enter Tryd.func49, Tryd.ntmps49
  go_wp2_with fail
  go_loopg [7, 8, 10, 19] l.length (fun g v7 v8 _ v19 wr => ∃ i : Nat, i + g = l.length ∧ v19 = intV i ∧ v7 = intV (mostN (·.at_.s) l i) ∧ v8 = intV (mostN (·.save) l i) ∧ Fr w wr (fun _ => False))
  case atStart => exact ⟨0, by simp, rfl, rfl, rfl, Fr.refl _ _⟩
  case round =>
    obtain ⟨i, hi, rfl, rfl, rfl, hf⟩ := hrel
    have HF := Lib.hid hf
    clear hf
    by_cases hlt : i < l.length
    · obtain ⟨r, hri⟩ : ∃ r, l[i]? = some r := ⟨l[i], List.getElem?_eq_getElem hlt⟩
      obtain ⟨b5, off5, hA, hc⟩ := (HL.out.kept HF.out).at_ hri
      subst hA
      have hok := HRr.out r (List.mem_of_getElem? hri)
      have HCx := Lib.hid hc
      have i0 : (i : Int) < (l.length : Int) := by omega
      have n2 := Fr.new wr (.cells #[.string ⟨#[]⟩, .int .i64 0, .int .i64 0, .int .i64 0, .int .i64 0, .int .i64 0, .int .i64 0, .int .i64 0, .int .i64 0, .int .i64 0, .string ⟨#[]⟩] 49) (fun _ => False)
      have HF2 := Lib.hid n2
      have HB2 := Lib.hid (show Blk _ wr.heap.size 49 (ruleC ruleZ) from Blk.made wr 49 (ruleC ruleZ))
      obtain ⟨a, ha⟩ : ∃ a, mostN (·.at_.s) l i = a := ⟨_, rfl⟩
      obtain ⟨b, hb⟩ : ∃ b, mostN (·.save) l i = b := ⟨_, rfl⟩
      have HSa := Lib.hid (show mostN (·.at_.s) l (i + 1) = max a (sizeD r.at_.s) by rw [most_some hri, ha])
      have HSb := Lib.hid (show mostN (·.save) l (i + 1) = max b (sizeD r.save) by rw [most_some hri, hb])
      have HZa := Lib.hid (fun w => size_any r.at_.s w (by unfold S6.inRange; have := hok.1; have := hok.2.1; omega))
      have HZb := Lib.hid (fun w => size_any r.save w (by unfold S6.inRange; have := hok.2.2.1; have := hok.2.2.2.1; omega))
      rw [ha, hb]
      clear hc hri hok n2 ha hb
      generalize sizeD r.at_.s = x1 at *
      generalize sizeD r.save = x2 at *
      go_wp2_with (first
        | ((with_reducible refine at_load4 49 ?_); refine wpList_load_at 49 _ b5 (off5 + i * 11) (ruleC r) _ (by rfl) rfl rfl HCx.out Tryd.underlying49 rfl (infoR _) ?_)
        | ((with_reducible refine at_store4 49 ?_); refine wpList_store_blk 49 _ _ wr.heap.size 0 49 (ruleC ruleZ) (ruleC r) (ruleC r) (by rfl) rfl rfl rfl rfl HB2.out (infoR _) (ruleC_one _) (show 0 + 11 ≤ 11 by decide) (put_ra _ _) ?_
           intro W3 hf3 hb3
           have HF3 := Lib.hid (HF2.out.fresh hf3 (fun i e => by have e : i = wr.heap.size := e; omega))
           have c1 : W3.cell? ⟨wr.heap.size, 7, none⟩ = some (.int .i64 r.at_.s) := blkc hb3 7 _ rfl
           have c2 : W3.cell? ⟨wr.heap.size, 9, none⟩ = some (.int .i64 r.save) := blkc hb3 9 _ rfl
           clear hf3 hb3 HF2 HB2))
      refine (HZa.out _).mono ?_
      rintro e w4 ⟨rfl, rfl⟩
      go_wp2_with fail
      refine (HZb.out _).mono ?_
      rintro e w5 ⟨rfl, rfl⟩
      go_wp2_with fail
      go_roundg (l.length - (i + 1))
      case measure => omega
      case rel => exact ⟨i + 1, by omega, by go_num, by rw [HSa.out], by rw [HSb.out], ff4 HF.out HF3.out⟩
    · obtain rfl : i = l.length := by omega
      obtain ⟨y, m, d, k, hD⟩ := S6.date_of (farD l off t)
      obtain ⟨q0, q1⟩ := far_year HOk.out ho ht.1 hD
      have m1 := most_in (·.at_.s) l l.length
      have m2 := most_in (·.save) l l.length
      have m3 := size_in off
      have hfd : farD l off t = (t + mostN (·.at_.s) l l.length + mostN (·.save) l l.length + sizeD off) / 86400 + 6 := rfl
      rw [hfd] at hD
      clear hfd
      have HZ := Lib.hid (fun w => size_any off w (by unfold S6.inRange; omega))
      generalize mostN (·.at_.s) l l.length = x1 at *
      generalize mostN (·.save) l l.length = x2 at *
      generalize sizeD off = x3 at *
      have hs1 : IntKind.i64.wrap (t + x1) = t + x1 := by rw [IntKind.wrap_i64]; omega
      have hs2 : IntKind.i64.wrap (t + x1 + x2) = t + x1 + x2 := by rw [IntKind.wrap_i64]; omega
      have hs3 : IntKind.i64.wrap (t + x1 + x2 + x3) = t + x1 + x2 + x3 := by rw [IntKind.wrap_i64]; omega
      have HC := Lib.hid (S6.Clock_any (t + x1 + x2 + x3) wr (by unfold S6.inRange; omega))
      obtain ⟨n, hnn⟩ : ∃ n, (t + x1 + x2 + x3) / 86400 = n := ⟨_, rfl⟩
      have hnb : -10000000000000 ≤ n ∧ n ≤ 10000000000000 := by omega
      rw [hnn] at hD HC
      clear hnn
      have hs4 : IntKind.i64.wrap (n + 6) = n + 6 := by rw [IntKind.wrap_i64]; omega
      have HD := Lib.hid (S6.Date_any (n + 6) y m d k wr.drew (by unfold S6.inRange; omega) (HW.out.fr (ff4 HF.out (Fr.drew _ _))).lok hD)
      clear hD
      by_cases hk : k = 0
      · have q0 := q0 hk
        have HQ := Lib.hid q0
        subst hk
        clear q0 q1
        go_wp2_with fail
        refine (HZ.out _).mono ?_
        rintro e w4 ⟨rfl, rfl⟩
        go_wp2_with fail
        refine HC.out.mono ?_
        rintro e w2 ⟨rfl, rfl⟩
        go_wp2_with fail
        refine HD.out.mono ?_
        rintro e w3 ⟨rfl, hf3⟩
        go_wp2_with fail
        go_ret
        exact ⟨y, rfl, ff4 HF.out (ff4 (Fr.drew _ _) hf3), HQ.out⟩
      · have HQ := Lib.hid q1
        have k1 : (k == 0) = false := by rw [beq_eq_false_iff_ne]; exact hk
        clear q0 q1 hk
        go_wp2_with fail
        refine (HZ.out _).mono ?_
        rintro e w4 ⟨rfl, rfl⟩
        go_wp2_with fail
        refine HC.out.mono ?_
        rintro e w2 ⟨rfl, rfl⟩
        go_wp2_with fail
        refine HD.out.mono ?_
        rintro e w3 ⟨rfl, hf3⟩
        go_wp2_with fail
        go_ret
        exact ⟨9999, rfl, ff4 HF.out (ff4 (Fr.drew _ _) hf3), by omega, by omega, HQ.out⟩
end Go.Proofs.YtpjmmnhmhjpkkaaDoor
namespace Go.Proofs.YtpjmmnhmhjpkkaaDoor
open Go.RowKit Go.Mem Go.Lin Go.Xpd

theorem xYear_any (l : List RuleL) (A : Option Addr) (cap : Nat) (y : Int) (w : World) (hw : S6.WOk w) (hl : RusAt w A l) (hn : l.length ≤ 8) (hr : ∀ r ∈ l, OkF r ∧ RuR r) (hy : -20000 ≤ y ∧ y ≤ 20000) :
    Calls Tryd.prog 57 #[.slice A l.length cap, intV y] w fun e w' => ∃ v, e = .returned v ∧ XFires w' w.heap.size v (fromD l y y) ∧ Fr w w' (fun _ => False) := by
  have HQ := Lib.hid (xFrom_any l A cap y y w hw hl hn hr (by omega) hy (by omega))
  clear hw hl hr
  go_enter Tryd.func57, Tryd.ntmps57
  go_wp2_with fail
  refine HQ.out.mono ?_
  rintro e w2 ⟨v, rfl, ho, hf⟩
  obtain ⟨A2, c2, rfl⟩ := ho.slice
  have HO := Lib.hid ho
  have HF := Lib.hid hf
  clear ho hf
  go_wp2_with fail
  go_ret
  exact ⟨_, rfl, HO.out, HF.out⟩
set_option maxHeartbeats 1600000 in
theorem xInst_any (l : List RuleL) (A : Option Addr) (cap : Nat) (f : FireL) (off : Int) (w : World) (hl : RusAt w A l) (_hn : l.length ≤ 8) (hf : -1000000000000000 ≤ f.at_ ∧ f.at_ ≤ 1000000000000000) (ho : -100000 ≤ off ∧ off ≤ 100000) (hb : -100000 ≤ f.bef ∧ f.bef ≤ 100000) :
    Calls Tryd.prog 58 #[.slice A l.length cap, fireV f, intV off] w fun e w' => e = .returned (intV (instD l f off)) ∧ Fr w w' (fun _ => False) := by
  obtain ⟨i, y, a, b⟩ := f
  obtain ⟨f1, f2⟩ : -1000000000000000 ≤ a ∧ a ≤ 1000000000000000 := hf
  obtain ⟨b1, b2⟩ : -100000 ≤ b ∧ b ≤ 100000 := hb
  have HF := Lib.hid (Fr.new w (.cells #[intV i, intV y, intV a, intV b] 110) (fun _ => False))
  have HL := Lib.hid (hl.kept HF.out)
  unfold fireV fireC
  dsimp only
  clear hl
  by_cases hi : i < 0
  · have HE := Lib.hid (show instD l ⟨i, y, a, b⟩ off = 0 from if_neg (by show ¬ (0 ≤ i); omega))
    go_enter Tryd.func58, Tryd.ntmps58
    go_wp2_with fail
    go_ret
    exact ⟨by rw [HE.out]; rfl, HF.out⟩
  · by_cases hg : (l.length : Int) ≤ i
    · have HE := Lib.hid (show instD l ⟨i, y, a, b⟩ off = 0 by
        unfold instD
        rw [if_pos (by show 0 ≤ i; omega)]
        show (match l[i.toNat]? with | none => _ | some r => _) = _
        rw [List.getElem?_eq_none (by omega)])
      go_enter Tryd.func58, Tryd.ntmps58
      go_wp2_with fail
      go_ret
      exact ⟨by rw [HE.out]; rfl, HF.out⟩
    · obtain ⟨k, rfl⟩ : ∃ k : Nat, i = k := ⟨i.toNat, by omega⟩
      have hk : k < l.length := by omega
      obtain ⟨r, hri⟩ : ∃ r, l[k]? = some r := ⟨l[k], List.getElem?_eq_getElem hk⟩
      obtain ⟨bk, o, hA, hc⟩ := HL.out.at_ hri
      subst hA
      have k0 : (k : Int) < (l.length : Int) := by omega
      have HE := Lib.hid (show instD l ⟨k, y, a, b⟩ off = if r.at_.k = 0 then a - off - b else if r.at_.k = 1 then a - off else a by
        unfold instD
        rw [if_pos (by show (0 : Int) ≤ (k : Int); omega)]
        show (match l[(k : Int).toNat]? with | none => _ | some r => _) = _
        rw [Int.toNat_natCast, hri])
      have c8 : (w.alloc (.cells #[intV k, intV y, intV a, intV b] 110)).cell? ⟨bk, o + k * 11 + 8, none⟩ = some (.int .i64 r.at_.k) := hc 8 (show 8 < 11 by decide)
      have hbk : bk < w.heap.size + 1 := by
        have := World.block_lt_of_cell? _ _ c8
        simpa using this
      clear hc hri hi hg
      by_cases h0 : r.at_.k = 0
      · rw [if_pos h0] at HE
        rw [h0] at c8
        go_enter Tryd.func58, Tryd.ntmps58
        go_wp2_with fail
        go_ret
        exact ⟨by rw [HE.out]; rfl, HF.out⟩
      · rw [if_neg h0] at HE
        by_cases h1 : r.at_.k = 1
        · rw [if_pos h1] at HE
          rw [h1] at c8
          go_enter Tryd.func58, Tryd.ntmps58
          go_wp2_with fail
          go_ret
          exact ⟨by rw [HE.out]; rfl, HF.out⟩
        · rw [if_neg h1] at HE
          have h0 : (r.at_.k == 0) = false := beq_eq_false_iff_ne.2 h0
          have h1 : (r.at_.k == 1) = false := beq_eq_false_iff_ne.2 h1
          go_enter Tryd.func58, Tryd.ntmps58
          go_wp2_with fail
          go_ret
          exact ⟨by rw [HE.out]; rfl, HF.out⟩
end Go.Proofs.YtpjmmnhmhjpkkaaDoor
