import Derived.Test.YtbkjafaijkmpfaaDoorYa13
import Derived.Test.YtbkjafaijkmpfaaDoorYa12
namespace Go.Proofs.YtbkjafaijkmpfaaDoor
open Go.RowKit Go.Mem Go.Lin Go.Xpd

theorem xord_any (a b : FireL) (w : World) : Calls Tryd.prog 21 #[fireV a, fireV b] w fun e w' => e = .returned (intV (cfF a b)) ∧ Fr w w' (fun _ => False) :=
  (order_grw a b w).mono fun _ _ h => ⟨h.1, h.2.fr⟩
theorem results_max (tmps : Array Value) (w : World) (q : Nat) (f : FireL) (hp : tmps.getD 4 undef = .pointer (some ⟨q, 0, none⟩)) (hb : Blk w q 36 (fireC f)) : (results Tryd.f59 tmps).run Tryd.prog w = .ok (fireV f) w :=
  results_cell_row (P := Tryd.prog) (fn := Tryd.f59) (p := 4) (ty := 36) rfl tmps _ q 36 (fireC f) (0, 0) _ hp hb Tryd.underlying36 rfl (infoXF f)
theorem max_step {F : List FireL} {i : Nat} {m x : FireL} (hx : F[i]? = some x) (hm : m ∈ F.take i) (ha : ∀ g ∈ F.take i, ¬ ltF m g) :
    (ltF m x → x ∈ F.take (i + 1) ∧ ∀ g ∈ F.take (i + 1), ¬ ltF x g) ∧ (¬ ltF m x → m ∈ F.take (i + 1) ∧ ∀ g ∈ F.take (i + 1), ¬ ltF m g) := by
  have e : F.take (i + 1) = F.take i ++ [x] := by rw [List.take_add_one, hx]; rfl
  rw [e]
  constructor
  · intro h
    refine ⟨by simp, fun g hg => ?_⟩
    rcases List.mem_append.1 hg with hg | hg
    · exact fun h2 => ha g hg (ltF_trans h h2)
    · rw [show g = x by simpa using hg]; exact ltF_irr x
  · intro h
    refine ⟨by simp [hm], fun g hg => ?_⟩
    rcases List.mem_append.1 hg with hg | hg
    · exact ha g hg
    · rw [show g = x by simpa using hg]; exact h
def MxR (F : List FireL) (w : World) (g : Nat) (v6 : Value) (wr : World) : Prop := ∃ (i : Nat) (m : FireL), v6 = intV i ∧ i + g = F.length ∧ m ∈ F.take i ∧ (∀ g ∈ F.take i, ¬ ltF m g) ∧ Blk wr w.heap.size 36 (fireC f0) ∧ Blk wr (w.heap.size + 1) 36 (fireC m) ∧ Fr w wr (fun _ => False)
set_option maxHeartbeats 3200000 in
set_option maxRecDepth 100000 in
theorem max_any (F : List FireL) (A : Option Addr) (cap : Nat) (w : World) (hF : Rd w 4 A F.length (F.flatMap fireL)) (h0 : 0 < F.length) (hl : F.length ≤ 1000000) :
    Calls Tryd.prog 59 #[.slice A F.length cap, .func (.func 21) #[] #[]] w fun e w' => ∃ m, e = .returned (fireV m) ∧ m ∈ F ∧ (∀ g ∈ F, ¬ ltF m g) ∧ Fr w w' (fun _ => False) := by
  have HR := Lib.hid hF
  obtain ⟨x0, hx0⟩ : ∃ x, F[0]? = some x := ⟨F[0], List.getElem?_eq_getElem h0⟩
  obtain ⟨b, off, hA, hc⟩ := FiresAt.at_ hF hx0
  subst hA
  rw [Nat.zero_mul, Nat.add_zero] at hc
  have hT := Lib.hid (show x0 ∈ F.take 1 ∧ ∀ g ∈ F.take 1, ¬ ltF x0 g by
    have e : F.take 1 = [x0] := by rw [List.take_add_one, hx0]; rfl
    rw [e]
    exact ⟨by simp, fun g hg => by rw [show g = x0 by simpa using hg]; exact ltF_irr _⟩)
  have hl1 : ¬ (F.length : Int) < 1 := by omega
  have hl0 : (0 : Int) < (F.length : Int) := by omega
  have s1 : (w.alloc (.cells (fireC f0) 36)).heap.size = w.heap.size + 1 := by simp
  have n1 := Fr.new w (.cells (fireC f0) 36) (fun _ => False)
  have n2 := Fr.new (w.alloc (.cells (fireC f0) 36)) (.cells (fireC f0) 36) (fun _ => False)
  have b2 := Blk.made (w.alloc (.cells (fireC f0) 36)) 36 (fireC f0)
  rw [s1] at b2
  have HB1 := Lib.hid (n2.blk (Blk.made w 36 (fireC f0)) (fun h => h))
  have HB2 := Lib.hid b2
  have HF2 := Lib.hid (ff4 n1 n2)
  have HC1 := Lib.hid (cells_far n1 hc (Nat.le_refl _) (fun h => h))
  clear s1 n1 n2 b2 hF hx0 hc
  go_enter Tryd.func59, Tryd.ntmps59
  go_wp2_with (first
    | ((with_reducible refine at_load4 36 ?_); refine wpList_load_at 36 _ b off (fireC x0) _ (by rfl) rfl rfl HC1.out Tryd.underlying36 rfl (infoXF _) ?_)
    | ((with_reducible refine at_store4 36 ?_); refine wpList_store_blk 36 _ _ (w.heap.size + 1) 0 36 (fireC f0) (fireC x0) (fireC x0) (by rfl) rfl rfl rfl rfl HB2.out (infoXF _) (fireC_one _) (show 0 + 4 ≤ 4 by decide) (put_fi _ _) ?_
       intro W hf hb
       have HF3 := Lib.hid (HF2.out.fresh hf (fun i e => by have e : i = w.heap.size + 1 := e; omega))
       have HB3 := Lib.hid (hf.blk HB1.out (fun e => by have e : w.heap.size = w.heap.size + 1 := e; omega))
       have HB4 := Lib.hid hb
       clear hf hb HB1 HB2 HF2 HC1))
  go_loopg [6] (F.length - 1) (fun g v6 wr => MxR F w g v6 wr)
  case atStart => exact ⟨1, x0, rfl, by omega, hT.out.1, hT.out.2, HB3.out, HB4.out, HF3.out⟩
  case round =>
    obtain ⟨i, m, rfl, hi, hm, ha, hb0, hb1, hf⟩ := hrel
    have HF := Lib.hid hf
    have HX0 := Lib.hid hb0
    have HX1 := Lib.hid hb1
    by_cases hlt : i < F.length
    · obtain ⟨x, hx⟩ : ∃ x, F[i]? = some x := ⟨F[i], List.getElem?_eq_getElem hlt⟩
      obtain ⟨b', off', hA, hc⟩ := FiresAt.at_ (Rd.fr HR.out hf (fun _ _ _ _ h => h)) hx
      cases hA
      have i1 : (i : Int) < (F.length : Int) := by omega
      have HCx := Lib.hid hc
      obtain ⟨S1, S2⟩ := max_step hx hm ha
      have HS1 := Lib.hid S1
      have HS2 := Lib.hid S2
      have HGt := Lib.hid (cfF_gt (a := x) (b := m))
      obtain ⟨c, hcv⟩ : ∃ c, cfF x m = c := ⟨_, rfl⟩
      have HO := Lib.hid (fun W => xord_any x m W)
      rw [hcv] at HO HGt
      clear hcv S1 S2 hc hx hm ha hb0 hb1 hf
      by_cases hgt : 0 < c
      · have HM := Lib.hid (HS1.out (HGt.out.1 hgt))
        have hgt := hgt
        go_wp2_with fail
        refine wp_region_held_drew (S := fun w' => Fr wr w' (fun _ => False)) (by kernel_rfl) (Fr.drew _ _) (fun hHeld => ?_)
        refine wpAnyH_take (i := 0) (v := ?_) rfl (by kernel_rfl) (by kernel_rfl) (by kernel_rfl) (fun _ _ _ h => h) (Or.inl ⟨by rfl, ?_⟩) (by assumption) ?_
        rotate_left
        · intro w' hSw
          go_simp
          try with_reducible rfl
        try simp only [Act.put, List.setIfInBounds_toArray, List.set_cons_zero, List.set_cons_succ, List.getElem_toArray, List.getElem_cons_zero]
        refine wpAnyH_take (i := 1) (v := ?_) rfl (by kernel_rfl) (by kernel_rfl) (by kernel_rfl) (fun _ _ _ h => h) (Or.inl ⟨by rfl, ?_⟩) (by assumption) ?_
        rotate_left
        · intro w' hSw
          go_simp
          try with_reducible rfl
        try simp only [Act.put, List.setIfInBounds_toArray, List.set_cons_zero, List.set_cons_succ, List.getElem_toArray, List.getElem_cons_succ, List.getElem_cons_zero]
        refine wpAnyH_take (i := 2) (v := ?_) rfl (by kernel_rfl) (by kernel_rfl) (by kernel_rfl) (fun _ _ _ h => h) (Or.inl ⟨by rfl, ?_⟩) (by assumption) ?_
        rotate_left
        · intro w' hSw
          go_simp
          try with_reducible rfl
        try simp only [Act.put, List.setIfInBounds_toArray, List.set_cons_zero, List.set_cons_succ, List.getElem_toArray, List.getElem_cons_succ, List.getElem_cons_zero]
        refine wpAnyH_take (i := 3) (v := ?_) rfl (by kernel_rfl) (by kernel_rfl) (by kernel_rfl) (fun _ _ _ h => h) (Or.inl ⟨by rfl, ?_⟩) (by assumption) ?_
        rotate_left
        · intro w' hSw
          go_simp
          try with_reducible rfl
        try simp only [Act.put, List.setIfInBounds_toArray, List.set_cons_zero, List.set_cons_succ, List.getElem_toArray, List.getElem_cons_succ, List.getElem_cons_zero]
        refine wpAnyH_take (i := 4) (v := _) rfl (by kernel_rfl) (by kernel_rfl) (by kernel_rfl) (fun _ _ _ h => h) ((yields_at 36 _ b (off + i * 4) (fireC x) _ (by rfl) rfl rfl (fun w' hSw => cells_far hSw HCx.out (Nat.le_refl _) (fun h => h)) Tryd.underlying36 rfl (infoXF _))) (by assumption) ?_
        try simp only [Act.put, List.setIfInBounds_toArray, List.set_cons_zero, List.set_cons_succ, List.getElem_toArray, List.getElem_cons_succ, List.getElem_cons_zero]
        refine wpAnyH_take (i := 5) (v := _) rfl (by kernel_rfl) (by kernel_rfl) (by kernel_rfl) (fun _ _ _ h => h) ((yields_blk 36 _ (w.heap.size + 1) 0 36 (fireC m) (fireC m) _ (by rfl) rfl rfl (fun w' hSw => hSw.blk HX1.out (fun h => h)) Tryd.underlying36 rfl (infoXF _) (zero_part _))) (by assumption) ?_
        try simp only [Act.put, List.setIfInBounds_toArray, List.set_cons_zero, List.set_cons_succ, List.getElem_toArray, List.getElem_cons_succ, List.getElem_cons_zero]
        refine wpAnyH_ready (rs := [6]) (by kernel_rfl) (by simp) ?_
        refine AllReadyH.cons rfl (fun K hK => ?_) AllReadyH.nil
        go_simp
        refine (HO.out _).mono ?_
        rintro e w6 ⟨rfl, hf6⟩
        refine hK.out _ _ (ff4 hHeld hf6) (fun hHeld2 => ?_)
        clear hK K hHeld hf6
        rename_i hHeld2
        have hHeld := hHeld2
        clear hHeld2
        try simp only [Act.put, List.setIfInBounds_toArray, List.set_cons_zero, List.set_cons_succ, List.getElem_toArray, List.getElem_cons_succ, List.getElem_cons_zero]
        refine wpAnyH_take (i := 7) (v := ?_) rfl (by kernel_rfl) (by kernel_rfl) (by kernel_rfl) (fun _ _ _ h => h) (Or.inl ⟨by rfl, ?_⟩) (by assumption) ?_
        rotate_left
        · intro w' hSw
          go_simp
          try with_reducible rfl
        try simp only [Act.put, List.setIfInBounds_toArray, List.set_cons_zero, List.set_cons_succ, List.getElem_toArray, List.getElem_cons_succ, List.getElem_cons_zero]
        refine wpAnyH_done (by kernel_rfl) ?_ _
        have HFr := Lib.hid hHeld
        clear hHeld
        go_wp2_with (first
          | ((with_reducible refine at_load4 36 ?_); refine wpList_load_at 36 _ b (off + i * 4) (fireC x) _ (by rfl) rfl rfl (cells_far HFr.out HCx.out (Nat.le_refl _) (fun h => h)) Tryd.underlying36 rfl (infoXF _) ?_)
          | ((with_reducible refine at_store4 36 ?_); refine wpList_store_blk 36 _ _ (w.heap.size + 1) 0 36 (fireC m) (fireC x) (fireC x) (by rfl) rfl rfl rfl rfl (HFr.out.blk HX1.out (fun h => h)) (infoXF _) (fireC_one _) (show 0 + 4 ≤ 4 by decide) (put_fi _ _) ?_
             intro W5 hf5 hb5
             have HF5 := Lib.hid ((ff4 HF.out HFr.out).fresh hf5 (fun i e => by have e : i = w.heap.size + 1 := e; omega))
             have HB5 := Lib.hid (hf5.blk (HFr.out.blk HX0.out (fun h => h)) (fun e => by have e : w.heap.size = w.heap.size + 1 := e; omega))
             have HB6 := Lib.hid hb5
             clear hf5 hb5))
        go_roundg (F.length - (i + 1))
        case measure => omega
        case rel => exact ⟨i + 1, x, by go_num, by omega, HM.out.1, HM.out.2, HB5.out, HB6.out, HF5.out⟩
      · have HM := Lib.hid (HS2.out (fun h => hgt (HGt.out.2 h)))
        go_wp2_with fail
        refine wp_region_held_drew (S := fun w' => Fr wr w' (fun _ => False)) (by kernel_rfl) (Fr.drew _ _) (fun hHeld => ?_)
        refine wpAnyH_take (i := 0) (v := ?_) rfl (by kernel_rfl) (by kernel_rfl) (by kernel_rfl) (fun _ _ _ h => h) (Or.inl ⟨by rfl, ?_⟩) (by assumption) ?_
        rotate_left
        · intro w' hSw
          go_simp
          try with_reducible rfl
        try simp only [Act.put, List.setIfInBounds_toArray, List.set_cons_zero, List.set_cons_succ, List.getElem_toArray, List.getElem_cons_zero]
        refine wpAnyH_take (i := 1) (v := ?_) rfl (by kernel_rfl) (by kernel_rfl) (by kernel_rfl) (fun _ _ _ h => h) (Or.inl ⟨by rfl, ?_⟩) (by assumption) ?_
        rotate_left
        · intro w' hSw
          go_simp
          try with_reducible rfl
        try simp only [Act.put, List.setIfInBounds_toArray, List.set_cons_zero, List.set_cons_succ, List.getElem_toArray, List.getElem_cons_succ, List.getElem_cons_zero]
        refine wpAnyH_take (i := 2) (v := ?_) rfl (by kernel_rfl) (by kernel_rfl) (by kernel_rfl) (fun _ _ _ h => h) (Or.inl ⟨by rfl, ?_⟩) (by assumption) ?_
        rotate_left
        · intro w' hSw
          go_simp
          try with_reducible rfl
        try simp only [Act.put, List.setIfInBounds_toArray, List.set_cons_zero, List.set_cons_succ, List.getElem_toArray, List.getElem_cons_succ, List.getElem_cons_zero]
        refine wpAnyH_take (i := 3) (v := ?_) rfl (by kernel_rfl) (by kernel_rfl) (by kernel_rfl) (fun _ _ _ h => h) (Or.inl ⟨by rfl, ?_⟩) (by assumption) ?_
        rotate_left
        · intro w' hSw
          go_simp
          try with_reducible rfl
        try simp only [Act.put, List.setIfInBounds_toArray, List.set_cons_zero, List.set_cons_succ, List.getElem_toArray, List.getElem_cons_succ, List.getElem_cons_zero]
        refine wpAnyH_take (i := 4) (v := _) rfl (by kernel_rfl) (by kernel_rfl) (by kernel_rfl) (fun _ _ _ h => h) ((yields_at 36 _ b (off + i * 4) (fireC x) _ (by rfl) rfl rfl (fun w' hSw => cells_far hSw HCx.out (Nat.le_refl _) (fun h => h)) Tryd.underlying36 rfl (infoXF _))) (by assumption) ?_
        try simp only [Act.put, List.setIfInBounds_toArray, List.set_cons_zero, List.set_cons_succ, List.getElem_toArray, List.getElem_cons_succ, List.getElem_cons_zero]
        refine wpAnyH_take (i := 5) (v := _) rfl (by kernel_rfl) (by kernel_rfl) (by kernel_rfl) (fun _ _ _ h => h) ((yields_blk 36 _ (w.heap.size + 1) 0 36 (fireC m) (fireC m) _ (by rfl) rfl rfl (fun w' hSw => hSw.blk HX1.out (fun h => h)) Tryd.underlying36 rfl (infoXF _) (zero_part _))) (by assumption) ?_
        try simp only [Act.put, List.setIfInBounds_toArray, List.set_cons_zero, List.set_cons_succ, List.getElem_toArray, List.getElem_cons_succ, List.getElem_cons_zero]
        refine wpAnyH_ready (rs := [6]) (by kernel_rfl) (by simp) ?_
        refine AllReadyH.cons rfl (fun K hK => ?_) AllReadyH.nil
        go_simp
        refine (HO.out _).mono ?_
        rintro e w6 ⟨rfl, hf6⟩
        refine hK.out _ _ (ff4 hHeld hf6) (fun hHeld2 => ?_)
        clear hK K hHeld hf6
        rename_i hHeld2
        have hHeld := hHeld2
        clear hHeld2
        try simp only [Act.put, List.setIfInBounds_toArray, List.set_cons_zero, List.set_cons_succ, List.getElem_toArray, List.getElem_cons_succ, List.getElem_cons_zero]
        refine wpAnyH_take (i := 7) (v := ?_) rfl (by kernel_rfl) (by kernel_rfl) (by kernel_rfl) (fun _ _ _ h => h) (Or.inl ⟨by rfl, ?_⟩) (by assumption) ?_
        rotate_left
        · intro w' hSw
          go_simp
          try with_reducible rfl
        try simp only [Act.put, List.setIfInBounds_toArray, List.set_cons_zero, List.set_cons_succ, List.getElem_toArray, List.getElem_cons_succ, List.getElem_cons_zero]
        refine wpAnyH_done (by kernel_rfl) ?_ _
        have HFr := Lib.hid hHeld
        clear hHeld
        go_wp2_with fail
        go_roundg (F.length - (i + 1))
        case measure => omega
        case rel => exact ⟨i + 1, m, by go_num, by omega, HM.out.1, HM.out.2, HFr.out.blk HX0.out (fun h => h), HFr.out.blk HX1.out (fun h => h), ff4 HF.out HFr.out⟩
    · obtain rfl : i = F.length := by omega
      rw [List.take_length] at hm ha
      have HM := Lib.hid hm
      have HAl := Lib.hid ha
      clear hm ha hb0 hb1 hf
      go_wp2_with (first
        | ((with_reducible refine at_load4 36 ?_); refine wpList_load_blk 36 _ (w.heap.size + 1) 0 36 (fireC m) (fireC m) _ (by rfl) rfl rfl HX1.out Tryd.underlying36 rfl (infoXF _) (zero_part _) ?_)
        | ((with_reducible refine at_store4 36 ?_); refine wpList_store_blk 36 _ _ w.heap.size 0 36 (fireC f0) (fireC m) (fireC m) (by rfl) rfl rfl rfl rfl HX0.out (infoXF _) (fireC_one _) (show 0 + 4 ≤ 4 by decide) (put_fi _ _) ?_
           intro W5 hf5 hb5
           have HF5 := Lib.hid (HF.out.fresh hf5 (fun i e => by have e : i = w.heap.size := e; omega))
           have HB5 := Lib.hid hb5
           clear hf5 hb5))
      exact bodyPost_ret (results_max _ _ w.heap.size m rfl HB5.out) rfl ⟨m, rfl, HM.out, HAl.out, HF5.out⟩
end Go.Proofs.YtbkjafaijkmpfaaDoor
namespace Go.Proofs.YtbkjafaijkmpfaaDoor
open Go.RowKit Go.Mem Go.Lin Go.Xpd

theorem near_none {r : RuleL} {p y : Int} {n : Nat} (h : fireR r p y = none) : nearD r p y (-1) (n + 1) = nearD r p (y + -1) (-1) n := by
  show (match fireR r p y with | some f => some f | none => nearD r p (y + -1) (-1) n) = _
  rw [h]
theorem near_some {r : RuleL} {p y : Int} {n : Nat} {f : FireL} (h : fireR r p y = some f) : nearD r p y (-1) (n + 1) = some f := by
  show (match fireR r p y with | some f => some f | none => nearD r p (y + -1) (-1) n) = _
  rw [h]
set_option maxHeartbeats 3200000 in
set_option maxRecDepth 100000 in
theorem near_any (r : RuleL) (p : Int) (F : List FireL) (v : Value) (y : Int) (w0 w : World) (hw : S6.WOk w0) (hf : Fr w0 w (fun _ => False)) (ho : XFires w w0.heap.size v F) (hF : F.length ≤ 20000) (hs : -700000 ≤ r.at_.s ∧ r.at_.s ≤ 700000)
    (hy : -30000 ≤ y ∧ y ≤ 30000) :
    Calls Tryd.prog 58 #[v, seatM r p, intV y, intV (-1)] w fun e w' => ∃ v', e = .returned v' ∧ XFires w' w0.heap.size v' (F ++ (nearD r p y (-1) 8).toList) ∧ TF w0 w w' := by
  have HWk := Lib.hid hw
  have HSe := Lib.hid hs
  have HF0 := Lib.hid hf
  obtain ⟨A0, c0, rfl⟩ := ho.slice
  have HO0 := Lib.hid ho
  obtain ⟨R, hR⟩ : ∃ R, nearD r p y (-1) 8 = R := ⟨_, rfl⟩
  have HR := Lib.hid hR
  rw [hR]
  clear hf ho hw hs hR
  go_enter Tryd.func58, Tryd.ntmps58
  go_wp2_with fail
  go_loopg [2, 9, 10, 11] 8 (fun g v2 _ _ v11 wr => ∃ i : Nat, i + g = 8 ∧ v11 = intV i ∧ v2 = intV (y - i) ∧ R = nearD r p (y - i) (-1) g ∧ XFires wr w0.heap.size (.slice A0 F.length c0) F ∧ Fr w wr (fun _ => False))
  case atStart => exact ⟨0, rfl, rfl, by rw [show y - ((0 : Nat) : Int) = y by omega], by rw [show y - ((0 : Nat) : Int) = y by omega, HR.out], HO0.out, Fr.refl _ _⟩
  case round =>
    obtain ⟨i, hi, rfl, rfl, hn, ho, hf⟩ := hrel
    obtain ⟨G, hGk⟩ : ∃ G, gk = G := ⟨_, rfl⟩
    rw [hGk] at hi hn
    have HT := Lib.hid hf
    have HF := Lib.hid (ff4 HF0.out hf)
    have HO := Lib.hid ho
    obtain ⟨x, hxv⟩ : ∃ x : Int, y - i = x := ⟨_, rfl⟩
    have HXv := Lib.hid hxv
    have hx1 : -30008 ≤ x ∧ x ≤ 30000 := by omega
    rw [hxv] at hn ⊢
    have HN := Lib.hid hn
    clear hf ho hxv hn
    cases G with
    | zero =>
      obtain rfl : i = 8 := by omega
      have HE := Lib.hid (show F ++ R.toList = F by rw [HN.out]; exact List.append_nil _)
      go_wp2_with fail
      go_ret
      exact ⟨_, rfl, by rw [HE.out]; exact HO.out, tf_of HT.out⟩
    | succ G =>
      have hi8 : (i : Int) < 8 := by omega
      cases ho : fireR r p x with
      | none =>
        have HQ := Lib.hid (fire_none ho wr (HWk.out.fr HF.out) HSe.out)
        have HN2 := Lib.hid (show R = nearD r p (x + -1) (-1) G by rw [HN.out, near_none ho])
        clear ho
        go_wp2_with fail
        refine HQ.out.mono ?_
        rintro e w2 ⟨rfl, hf2⟩
        have HF2 := Lib.hid hf2
        have HO2 := Lib.hid (HO.out.kept hf2)
        have n2 := Fr.new w2 (.cells #[.int .i64 0, .int .i64 0, .int .i64 0, .int .i64 0] 36) (fun _ => False)
        have HF3 := Lib.hid (ff4 HF2.out n2)
        have HO3 := Lib.hid (HO2.out.kept n2)
        have HB := Lib.hid (show Blk _ w2.heap.size 36 (fireC f0) from Blk.made w2 36 (fireC f0))
        clear hf2 n2
        go_wp2_with (
          ((with_reducible refine at_store4 36 ?_); refine wpList_store_blk 36 _ _ w2.heap.size 0 36 (fireC f0) (fireC f0) (fireC f0) (by rfl) rfl rfl rfl rfl HB.out (infoXF _) (fireC_one _) (show 0 + 4 ≤ 4 by decide) (put_fi _ _) ?_
           intro W3 hf3 hb3
           have HF4 := Lib.hid (HF3.out.fresh hf3 (fun i e => by have e : i = w2.heap.size := e; have := HF2.out.size; omega))
           have HO4 := Lib.hid (show XFires W3 w0.heap.size _ F from HO3.out.fr hf3 (fun g hg e => by have e : g = w2.heap.size := e; have := (own_block HO2.out hg).2.1; omega))
           clear hf3 hb3))
        go_roundg G
        case measure => omega
        case rel =>
          have hxv := HXv.out
          have e1 : y - ((i + 1 : Nat) : Int) = x + -1 := by omega
          exact ⟨i + 1, by omega, by go_num, by rw [e1], by rw [e1, HN2.out], HO4.out, ff4 HT.out HF4.out⟩
      | some f =>
        have HQ := Lib.hid (fire_some ho wr (HWk.out.fr HF.out) HSe.out)
        have HN2 := Lib.hid (show F ++ R.toList = F ++ [f] by rw [HN.out, near_some ho]; rfl)
        clear ho
        go_wp2_with fail
        refine HQ.out.mono ?_
        rintro e w2 ⟨rfl, hf2⟩
        have HF2 := Lib.hid hf2
        have HO2 := Lib.hid (HO.out.kept hf2)
        have n2 := Fr.new w2 (.cells #[.int .i64 0, .int .i64 0, .int .i64 0, .int .i64 0] 36) (fun _ => False)
        have HF3 := Lib.hid (ff4 HF2.out n2)
        have HO3 := Lib.hid (HO2.out.kept n2)
        have HB := Lib.hid (show Blk _ w2.heap.size 36 (fireC f0) from Blk.made w2 36 (fireC f0))
        clear hf2 n2
        go_wp2_with (first
          | ((with_reducible refine at_store4 36 ?_); refine wpList_store_blk 36 _ _ w2.heap.size 0 36 (fireC f0) (fireC f) (fireC f) (by rfl) rfl rfl rfl rfl HB.out (infoXF _) (fireC_one _) (show 0 + 4 ≤ 4 by decide) (put_fi _ _) ?_
             intro W3 hf3 hb3
             have HF4 := Lib.hid (HF3.out.fresh hf3 (fun i e => by have e : i = w2.heap.size := e; have := HF2.out.size; omega))
             have HO4 := Lib.hid (show XFires W3 w0.heap.size _ F from HO3.out.fr hf3 (fun g hg e => by have e : g = w2.heap.size := e; have := (own_block HO2.out hg).2.1; omega))
             have HB4 := Lib.hid hb3
             clear hf3 hb3)
          | ((with_reducible refine at_load4 36 ?_); refine wpList_load_blk 36 _ w2.heap.size 0 36 (fireC f) (fireC f) _ (by rfl) rfl rfl HB4.out Tryd.underlying36 rfl (infoXF _) (zero_part _) ?_)
          | ((with_reducible refine at_slice4 (y := .tmp 21) 28 ?_); refine wpList_made (t := 28) (e := 36) (y := .tmp 21) (v := fireV f) (fireC f) (by rfl) rfl rfl (fun _ => by kernel_rfl) ?_
             intro Wm hfm hsm hbm hrm
             have HFm := Lib.hid (ff4 HF4.out hfm)
             have HOm := Lib.hid (HO4.out.kept hfm)
             have HRm := Lib.hid hrm
             clear hfm hsm hbm hrm)
          | ((with_reducible refine at_append4 (.tmp 20) (.tmp 22) ?_); refine wpList_append1 (f := fireL) (.tmp 20) (.tmp 22) 28 rfl rfl w0.heap.size 36 _ 4 32 Tryd.underlying28 info_xfire rfl (by decide) _ rfl HOm.out _ 1 f (fireC f).toList rfl HRm.out rfl (one_made (fireC_one f)) (by omega) (by decide) (Nat.le_trans HF.out.size HFm.out.size) ?_
             intro A2 c2 Wp hop hfp
             have HTp := Lib.hid (tf_trans (tf_of (ff4 HT.out HFm.out)) (tb_own HOm.out hfp))
             have HOp := Lib.hid hop
             clear hop hfp))
        go_ret
        refine ⟨_, rfl, ?_, HTp.out⟩
        rw [HN2.out]
        show Own _ _ _ _ _ _ (F ++ [f])
        exact HOp.out
end Go.Proofs.YtbkjafaijkmpfaaDoor
namespace Go.Mem
section
variable {P : Program} {ops : Array Oper} {o : Oper} {a : Act}
theorem yields_build {S : World → Prop} (t : TypeId) (parts : Array (Nat × Operand)) (v : Value) (hgd : Region.wanted o (yielded ops a.tmps) = true) (ho : o.op = .build t parts) (h : ∀ w, (Instr.build t (parts.map fun (i, x) => (i, a.eval x))).run P w = .ok v w) : YieldsIf P ops S o v a :=
  .inl ⟨hgd, fun w _ => by
    unfold execOp
    simp only [ho, Sem.run_bind, h, Sem.run_pure, Result.andThen_ok]⟩
end
end Go.Mem
namespace Go.Proofs.YtbkjafaijkmpfaaDoor
open Go.RowKit Go.Mem Go.Lin Go.Xpd

theorem late_i {r : RuleL} {p year : Int} {m : FireL} (h : lateR r p year = some m) : m.i = p := by
  have := (fireR_some.1 (lateR_some h).2.1).2
  rw [this]
set_option maxHeartbeats 3200000 in
set_option maxRecDepth 100000 in
theorem save_any (l : List RuleL) (A : Option Addr) (cap : Nat) (y : Int) (w : World) (hw : S6.WOk w) (hl : RusAt w A l) (hn : l.length ≤ 1000) (hr : ∀ r ∈ l, OkF r) (hy : -20000 ≤ y ∧ y ≤ 20002) :
    Calls Tryd.prog 35 #[.slice A l.length cap, intV y] w fun e w' => e = .returned (intV (befY l y)) ∧ Fr w w' (fun _ => False) := by
  have HW := Lib.hid hw
  have HL := Lib.hid hl
  have HRr := Lib.hid hr
  clear hw hl hr
  go_enter Tryd.func35, Tryd.ntmps35
  go_wp2_with fail
  go_loopg [5, 6, 7, 10] l.length (fun g v5 _ _ v10 wr => ∃ i : Nat, i + g = l.length ∧ v10 = intV i ∧ XFires wr w.heap.size v5 (lateN l y i) ∧ Fr w wr (fun _ => False))
  case atStart => exact ⟨0, by simp, rfl, own_none _ _ _ _ _, Fr.refl _ _⟩
  case round =>
    obtain ⟨i, hi, rfl, ho, hf⟩ := hrel
    obtain ⟨A5, c5, rfl⟩ := ho.slice
    have HF := Lib.hid hf
    have HO := Lib.hid ho
    have hll := lateN_len l y i
    obtain ⟨L, hL⟩ : ∃ L, lateN l y i = L := ⟨_, rfl⟩
    have HLv := Lib.hid hL
    rw [hL] at HO hll ⊢
    clear hf ho hL
    by_cases hlt : i < l.length
    · obtain ⟨r, hri⟩ : ∃ r, l[i]? = some r := ⟨l[i], List.getElem?_eq_getElem hlt⟩
      obtain ⟨b, off, hA, hc⟩ := (HL.out.kept HF.out).at_ hri
      subst hA
      have hok := HRr.out r (List.mem_of_getElem? hri)
      have hto := hok.okR.to
      have HSr := Lib.hid hok.okR.s
      have HCx := Lib.hid hc
      have HN := Lib.hid (show lateN l y (i + 1) = L ++ (nearD r i (min (y - 1) (withD r.to)) (-1) 8).toList by rw [lateN_some hri, HLv.out]; rfl)
      have i0 : (i : Int) < (l.length : Int) := by omega
      have n2 := Fr.new wr (.cells #[.string ⟨#[]⟩, .int .i64 0, .int .i64 0, .int .i64 0, .int .i64 0, .int .i64 0, .int .i64 0, .int .i64 0, .int .i64 0, .int .i64 0, .string ⟨#[]⟩] 42) (fun _ => False)
      have HF2 := Lib.hid n2
      have HB2 := Lib.hid (show Blk _ wr.heap.size 42 (ruleC ruleZ) from Blk.made wr 42 (ruleC ruleZ))
      have hwd : 1 ≤ withD r.to ∧ withD r.to ≤ 9999 := by unfold withD; omega
      obtain ⟨t1, t2⟩ := hto
      have hwr : IntKind.i64.wrap (y - 1) = y - 1 := by rw [IntKind.wrap_i64]; omega
      clear hc hri hok n2
      go_wp2_with (first
        | ((with_reducible refine at_load4 42 ?_); refine wpList_load_at 42 _ b (off + i * 11) (ruleC r) _ (by rfl) rfl rfl HCx.out Tryd.underlying42 rfl (infoR _) ?_)
        | ((with_reducible refine at_store4 42 ?_); refine wpList_store_blk 42 _ _ wr.heap.size 0 42 (ruleC ruleZ) (ruleC r) (ruleC r) (by rfl) rfl rfl rfl rfl HB2.out (infoR _) (ruleC_one _) (show 0 + 11 ≤ 11 by decide) (put_ra _ _) ?_
           intro W3 hf3 hb3
           have HF3 := Lib.hid (HF2.out.fresh hf3 (fun i e => by have e : i = wr.heap.size := e; omega))
           have HB3 := Lib.hid hb3
           clear hf3 hb3 HF2 HB2))
      refine wp_region_held_drew (S := fun w' => TF w W3 w') (by kernel_rfl) (tf_of (Fr.drew _ _)) (fun hHeld => ?_)
      refine wpAnyH_take (i := 0) (v := ?_) rfl (by kernel_rfl) (by kernel_rfl) (by kernel_rfl) (fun _ _ _ h => h) (Or.inl ⟨by rfl, ?_⟩) (by assumption) ?_
      rotate_left
      · intro w' hSw
        go_simp
        try with_reducible rfl
      try simp only [Act.put, List.setIfInBounds_toArray, List.set_cons_zero, List.set_cons_succ, List.getElem_toArray, List.getElem_cons_zero]
      refine wpAnyH_take (i := 1) (v := _) rfl (by kernel_rfl) (by kernel_rfl) (by kernel_rfl) (fun _ _ _ h => h) ((yields_blk 42 _ wr.heap.size 0 42 (ruleC r) (ruleC r) _ (by rfl) rfl rfl (fun w' hSw => tf_far hSw HB3.out (by decide)) Tryd.underlying42 rfl (infoR _) (zero_part _))) (by assumption) ?_
      try simp only [Act.put, List.setIfInBounds_toArray, List.set_cons_zero, List.set_cons_succ, List.getElem_toArray, List.getElem_cons_succ, List.getElem_cons_zero]
      refine wpAnyH_take (i := 2) (v := ?_) rfl (by kernel_rfl) (by kernel_rfl) (by kernel_rfl) (fun _ _ _ h => h) (Or.inl ⟨by rfl, ?_⟩) (by assumption) ?_
      rotate_left
      · intro w' hSw
        go_simp
        try with_reducible rfl
      try simp only [Act.put, List.setIfInBounds_toArray, List.set_cons_zero, List.set_cons_succ, List.getElem_toArray, List.getElem_cons_succ, List.getElem_cons_zero]
      refine wpAnyH_take (i := 3) (v := _) rfl (by kernel_rfl) (by kernel_rfl) (by kernel_rfl) (fun _ _ _ h => h) ((yields_build 51 #[(0, .tmp 16), (1, .tmp 17)] (.agg (seatC r (i : Int))) (by rfl) rfl (fun w => by kernel_rfl))) (by assumption) ?_
      try simp only [Act.put, List.setIfInBounds_toArray, List.set_cons_zero, List.set_cons_succ, List.getElem_toArray, List.getElem_cons_succ, List.getElem_cons_zero]
      refine wpAnyH_take (i := 4) (v := ?_) rfl (by kernel_rfl) (by kernel_rfl) (by kernel_rfl) (fun _ _ _ h => h) (Or.inl ⟨by rfl, ?_⟩) (by assumption) ?_
      rotate_left
      · intro w' hSw
        go_simp
        try with_reducible rfl
      try simp only [Act.put, List.setIfInBounds_toArray, List.set_cons_zero, List.set_cons_succ, List.getElem_toArray, List.getElem_cons_succ, List.getElem_cons_zero]
      refine wpAnyH_take (i := 5) (v := ?_) rfl (by kernel_rfl) (by kernel_rfl) (by kernel_rfl) (fun _ _ _ h => h) (Or.inl ⟨by rfl, ?_⟩) (by assumption) ?_
      rotate_left
      · intro w' hSw
        go_simp
        try with_reducible rfl
      try simp only [Act.put, List.setIfInBounds_toArray, List.set_cons_zero, List.set_cons_succ, List.getElem_toArray, List.getElem_cons_succ, List.getElem_cons_zero]
      refine wpAnyH_take (i := 6) (v := ?_) rfl (by kernel_rfl) (by kernel_rfl) (by kernel_rfl) (fun _ _ _ h => h) (Or.inl ⟨by rfl, ?_⟩) (by assumption) ?_
      rotate_left
      · intro w' hSw
        go_simp
        try with_reducible rfl
      try simp only [Act.put, List.setIfInBounds_toArray, List.set_cons_zero, List.set_cons_succ, List.getElem_toArray, List.getElem_cons_succ, List.getElem_cons_zero]
      refine wpAnyH_take (i := 7) (v := ?_) rfl (by kernel_rfl) (by kernel_rfl) (by kernel_rfl) (fun _ _ _ h => h) (Or.inl ⟨by rfl, ?_⟩) (by assumption) ?_
      rotate_left
      · intro w' hSw
        go_simp
        try with_reducible rfl
      try simp only [Act.put, List.setIfInBounds_toArray, List.set_cons_zero, List.set_cons_succ, List.getElem_toArray, List.getElem_cons_succ, List.getElem_cons_zero]
      refine wpAnyH_take (i := 8) (v := ?_) rfl (by kernel_rfl) (by kernel_rfl) (by kernel_rfl) (fun _ _ _ h => h) (Or.inl ⟨by rfl, ?_⟩) (by assumption) ?_
      rotate_left
      · intro w' hSw
        have c2 : w'.cell? ⟨wr.heap.size, 2, none⟩ = some (.int .i64 r.to) := blkc (tf_far hSw HB3.out (by decide)) 2 _ rfl
        go_simp
        try with_reducible rfl
      try simp only [Act.put, List.setIfInBounds_toArray, List.set_cons_zero, List.set_cons_succ, List.getElem_toArray, List.getElem_cons_succ, List.getElem_cons_zero]
      refine wpAnyH_ready (rs := [9]) (by kernel_rfl) (by simp) ?_
      refine AllReadyH.cons rfl (fun K hK => ?_) AllReadyH.nil
      go_simp
      refine (within_any r.to _ (by omega)).mono ?_
      rintro e w6 ⟨rfl, rfl⟩
      refine hK.out _ _ (hHeld) (fun hHeld2 => ?_)
      clear hK K hHeld
      rename_i hHeld2
      have hHeld := hHeld2
      clear hHeld2
      try simp only [Act.put, List.setIfInBounds_toArray, List.set_cons_zero, List.set_cons_succ, List.getElem_toArray, List.getElem_cons_succ, List.getElem_cons_zero]
      refine wpAnyH_take (i := 10) (v := ?_) rfl (by kernel_rfl) (by kernel_rfl) (by kernel_rfl) (fun _ _ _ h => h) (Or.inl ⟨by rfl, ?_⟩) (by assumption) ?_
      rotate_left
      · intro w' hSw
        go_simp
        try with_reducible rfl
      try simp only [Act.put, List.setIfInBounds_toArray, List.set_cons_zero, List.set_cons_succ, List.getElem_toArray, List.getElem_cons_succ, List.getElem_cons_zero]
      refine wpAnyH_ready (rs := [11]) (by kernel_rfl) (by simp) ?_
      refine AllReadyH.cons rfl (fun K hK => ?_) AllReadyH.nil
      go_simp
      refine (near_any r (i : Int) L (.slice A5 L.length c5) (min (y - 1) (withD r.to)) w _ HW.out (ff4 HF.out (ff4 HF3.out (Fr.drew _ _))) (HO.out.kept (ff4 HF3.out (Fr.drew _ _))) (by omega) HSr.out (by omega)).mono ?_
      rintro e w7 ⟨v9, rfl, ho9, ht9⟩
      obtain ⟨A9, c9, rfl⟩ := ho9.slice
      refine hK.out _ _ (tf_trans hHeld ht9) (fun hHeld2 => ?_)
      clear hK K hHeld
      rename_i hHeld2
      have hHeld := hHeld2
      clear hHeld2
      have HO9 := Lib.hid ho9
      clear ho9 ht9
      try simp only [Act.put, List.setIfInBounds_toArray, List.set_cons_zero, List.set_cons_succ, List.getElem_toArray, List.getElem_cons_succ, List.getElem_cons_zero]
      refine wpAnyH_take (i := 12) (v := ?_) rfl (by kernel_rfl) (by kernel_rfl) (by kernel_rfl) (fun _ _ _ h => h) (Or.inl ⟨by rfl, ?_⟩) (by assumption) ?_
      rotate_left
      · intro w' hSw
        go_simp
        try with_reducible rfl
      try simp only [Act.put, List.setIfInBounds_toArray, List.set_cons_zero, List.set_cons_succ, List.getElem_toArray, List.getElem_cons_succ, List.getElem_cons_zero]
      refine wpAnyH_done (by kernel_rfl) ?_ _
      have HF9 := Lib.hid (tf_low (ff4 HF.out HF3.out) hHeld)
      clear hHeld
      go_wp2_with fail
      go_roundg (l.length - (i + 1))
      case measure => omega
      case rel => exact ⟨i + 1, by omega, by go_num, by rw [HN.out, ← List.length_append]; exact HO9.out, HF9.out⟩
    · obtain rfl : i = l.length := by omega
      cases L with
      | nil =>
        have HE := Lib.hid (ahead_none HLv.out)
        clear hll
        go_wp2_with fail
        go_ret
        exact ⟨by rw [HE.out]; rfl, HF.out⟩
      | cons g0 t0 =>
        obtain ⟨L, hL⟩ : ∃ L, g0 :: t0 = L := ⟨_, rfl⟩
        have h0 : 0 < L.length := by rw [← hL]; simp
        rw [hL] at HO HLv hll ⊢
        clear hL
        have e0 : ((L.length : Int) == 0) = false := by rw [beq_eq_false_iff_ne]; omega
        obtain ⟨A9, c9, hv9, -, -, hrd⟩ := HO.out.rd
        injection hv9 with h1 _ h3
        rw [← h1] at hrd
        have HQ := Lib.hid (max_any L A5 c5 wr hrd h0 (by omega))
        clear hrd h1 h3 h0
        go_wp2_with fail
        refine HQ.out.mono ?_
        rintro e w2 ⟨m, he, hm, hx, hf2⟩
        have hmm := hm
        rw [← HLv.out] at hm hx
        obtain ⟨k, r, hk, hri, hla⟩ := lateN_mem.1 hm
        have hmi := late_i hla
        have he : e = .returned (.agg #[intV (k : Int), intV m.y, intV m.at_, intV m.bef]) := he.trans (by rw [← hmi]; rfl)
        subst he
        have HE := Lib.hid (show befY l y = r.save by
          rw [ahead_some hm hx]
          unfold savD
          rw [hmi, Int.toNat_natCast, hri])
        have HF2 := Lib.hid (ff4 HF.out hf2)
        obtain ⟨b, off, hA, hc⟩ := (HL.out.kept HF2.out).at_ hri
        subst hA
        have c9 : w2.cell? ⟨b, off + k * 11 + 9, none⟩ = some (.int .i64 r.save) := hc 9 (show 9 < 11 by decide)
        have k0 : (k : Int) < (l.length : Int) := by omega
        have hfi : (Instr.field 36 (.agg #[intV (k : Int), intV m.y, intV m.at_, intV m.bef]) 0).run Tryd.prog w2 = .ok (intV (k : Int)) w2 := by kernel_rfl
        clear he hm hx hmm hf2 hc hla hmi hri
        go_wp2_with fail
        go_ret
        exact ⟨by rw [HE.out]; rfl, HF2.out⟩
end Go.Proofs.YtbkjafaijkmpfaaDoor
namespace Go.Proofs.YtbkjafaijkmpfaaDoor
open Go.RowKit Go.Mem Go.Lin Go.Xpd

theorem fromN_len (l : List RuleL) (y : Int) : ∀ n : Nat, (fromN l y n).length ≤ l.length * n
  | 0 => Nat.zero_le _
  | n + 1 => by
    have ih := fromN_len l y n
    show (fromN l y n ++ markF l (befY l (y + n)) (yearD l (y + n))).length ≤ _
    rw [List.length_append, markF_len, Nat.mul_add]
    have := yearN_len l (y + n) l.length
    have h2 : (yearD l (y + n)).length ≤ l.length := this
    omega
theorem from_at (l : List RuleL) (a b : Int) {Y : Int} (hY : Y = max a (max 1 (leastD l))) : fromD l a b = fromN l Y (min b 9999 + 1 - Y).toNat := by
  have h := from_skip (l := l) (a := max a 1) (c := Y) (b := b) (by omega) (by omega) fun x h1 h2 => least_none (by omega)
  rw [← h]
  unfold fromD
  rw [show max (max a 1) 1 = max a 1 by omega]
theorem markF_next {l : List RuleL} {s : Int} {F : List FireL} {m : Nat} {x : FireL} (h : F[m]? = some x) : markF l s (F.take (m + 1)) = markF l s (F.take m) ++ [{ x with bef := endS l s (F.take m) }] ∧ endS l s (F.take (m + 1)) = savD l x.i := by
  rw [List.take_add_one, h]
  refine ⟨?_, ?_⟩
  · show markF l s (F.take m ++ [x]) = _
    rw [markF_app]; rfl
  · show endS l s (F.take m ++ [x]) = _
    rw [endS_app]; rfl
set_option maxHeartbeats 3200000 in
set_option maxRecDepth 100000 in
theorem from_any (l : List RuleL) (A : Option Addr) (cap : Nat) (a b : Int) (w : World) (hl : RusAt w A l) (hn : l.length ≤ 1000) (hr : ∀ r ∈ l, OkR r) (ha : -1000000 ≤ a ∧ a ≤ 1000000) (hb : -1000000 ≤ b ∧ b ≤ 1000000) (hw : b - a ≤ 50) :
    Calls Tryd.prog 12 #[.slice A l.length cap, intV a, intV b] w fun e w' => ∃ v, e = .returned v ∧ FiresAt w' w.heap.size v (fromD l a b) ∧ Fr w w' (fun _ => False) := by
  have HL := Lib.hid hl
  have HA := Lib.hid (ahead_any l A cap (max a 1) w hl hn hr (by omega))
  have HLe := Lib.hid (fun (W : World) (f : Fr w W (fun _ => False)) => least_any l A cap W (hl.kept f) hn)
  have HYr := Lib.hid (fun (x : Int) (W : World) (f : Fr w W (fun _ => False)) => year_any l A cap x W (hl.kept f) hn (fun r h => (hr r h).s))
  have hle := least_range l
  have HD := Lib.hid (fun Y hY => from_at l a b (Y := Y) hY)
  have HB0 := Lib.hid (show befY l (max a 1) = befY l (max a (max 1 (leastD l))) from (befY_skip (by omega) fun x h1 h2 => least_none (by omega)).symm)
  clear hl hr
  go_enter Tryd.func12, Tryd.ntmps12
  go_wp2_with fail
  refine HA.out.mono ?_
  rintro e w2 ⟨rfl, hf2⟩
  have HF2 := Lib.hid hf2
  clear hf2
  go_wp2_with fail
  refine (HLe.out w2 HF2.out).mono ?_
  rintro e w3 ⟨rfl, hf3⟩
  have HF3 := Lib.hid (ff4 HF2.out hf3)
  clear hf3 HF2
  go_wp2_with fail
  generalize hY : max a (max 1 (leastD l)) = Y at *
  generalize hBb : min b 9999 = Bb at *
  have hY1 : a ≤ Y := by omega
  have hY3 : 1 ≤ Y ∧ Y ≤ 1000000 := by omega
  have hB1 : Bb ≤ b ∧ Bb ≤ 9999 ∧ -1000000 ≤ Bb := by omega
  have HYe := Lib.hid hY
  have HBe := Lib.hid hBb
  clear hY hBb
  go_loopg [7, 8, 9, 10, 11] 1010001 (fun g v7 v8 v9 _ _ wr => ∃ n : Nat, v9 = intV (Y + n) ∧ (n = 0 ∨ Y + n ≤ Bb + 1) ∧ Bb + 1 - (Y + n) ≤ g ∧ v7 = intV (befY l (Y + n)) ∧ FiresAt wr w.heap.size v8 (fromN l Y n) ∧ Fr w wr (fun _ => False))
  case atStart => exact ⟨0, by rw [show Y + ((0 : Nat) : Int) = Y by omega], .inl rfl, by omega, by rw [show Y + ((0 : Nat) : Int) = Y by omega, ← HB0.out], own_none _ _ _ _ _, HF3.out⟩
  case round =>
    obtain ⟨n, rfl, hn0, hg, rfl, ho, hf⟩ := hrel
    obtain ⟨G, hGk⟩ : ∃ G, gk = G := ⟨_, rfl⟩
    rw [hGk] at hg
    have HF := Lib.hid hf
    have HO := Lib.hid ho
    have hG := fromN_len l Y n
    obtain ⟨y, hyv⟩ : ∃ y : Int, Y + n = y := ⟨_, rfl⟩
    have HYv := Lib.hid hyv
    have HYx := Lib.hid (HYr.out y)
    have hn1 : n ≤ 51 := by omega
    have hy1 : -1000001 ≤ y ∧ y ≤ 1000052 := by omega
    rw [hyv] at hn0 hg ⊢
    clear hf ho
    by_cases hx : y ≤ Bb
    · have hG2 : (fromN l Y n).length ≤ 51000 := Nat.le_trans hG (Nat.le_trans (Nat.mul_le_mul hn hn1) (by decide))
      clear hyv hG
      obtain ⟨s, hs⟩ : ∃ s, befY l y = s := ⟨_, rfl⟩
      have HSv := Lib.hid hs
      rw [hs]
      clear hs
      go_wp2_with fail
      refine (HYx.out wr HF.out).mono ?_
      rintro e w4 ⟨v, rfl, ho4, hf4⟩
      obtain ⟨A4, c4, rfl, -, -, -⟩ := ho4.rd
      have HF4 := Lib.hid hf4
      have HO4 := Lib.hid ho4
      have hFl : (yearD l y).length ≤ 1000 := Nat.le_trans (yearN_len l y l.length) hn
      obtain ⟨F, hFv⟩ : ∃ F, yearD l y = F := ⟨_, rfl⟩
      have HFv := Lib.hid hFv
      rw [hFv] at HO4 hFl ⊢
      clear ho4 hf4 hFv
      go_wp2_with fail
      go_loopg [7, 11] F.length (fun g v7 v11 wr2 => ∃ m : Nat, m + g = F.length ∧ v11 = intV m ∧ v7 = intV (endS l s (F.take m)) ∧ FiresAt wr2 wr.heap.size (.slice A4 F.length c4) (markF l s (F.take m) ++ F.drop m) ∧ Fr w4 wr2 (fun i => wr.heap.size ≤ i))
      case atStart => exact ⟨0, by simp, rfl, rfl, HO4.out, Fr.refl _ _⟩
      case round =>
        obtain ⟨m, hm, rfl, rfl, ho5, hf5⟩ := hrel
        have hsz := HF4.out.size
        have HF5 := Lib.hid (HF4.out.fresh hf5 fun _ h => h)
        by_cases hlt : m < F.length
        · obtain ⟨x, hx⟩ : ∃ x, F[m]? = some x := ⟨F[m], List.getElem?_eq_getElem hlt⟩
          obtain ⟨k, r, hk, hxi, hsv⟩ := sav_of (show x ∈ yearD l y by rw [HFv.out]; exact List.mem_of_getElem? hx)
          obtain ⟨M1, M2⟩ := markF_next (l := l) (s := s) hx
          have hpl : (markF l s (F.take m)).length = m := by rw [markF_len, List.length_take]; omega
          have hd : F.drop m = x :: F.drop (m + 1) := by
            have := List.getElem?_eq_some_iff.1 hx
            rw [← this.2]; exact List.drop_eq_getElem_cons hlt
          rw [hd] at ho5
          obtain ⟨g, c, cur, hv, hgb, hbk, hsz3, hput⟩ := own_put fireL_len ho5 (show 3 < 4 by decide)
          rw [hpl] at hsz3 hput
          obtain ⟨rfl, -, rfl⟩ : A4 = some ⟨g, 0, none⟩ ∧ True ∧ c4 = c := by
            injection hv with h1 h2 h3
            exact ⟨h1, trivial, h3⟩
          have HSV := Lib.hid (M2.trans hsv)
          obtain ⟨sv, hsve⟩ : ∃ sv, endS l s (F.take m) = sv := ⟨_, rfl⟩
          rw [hsve] at M1 ⊢
          have hput := fun W hW => hput W (intV sv) { x with bef := sv } rfl hW
          rw [show markF l s (F.take m) ++ { x with bef := sv } :: F.drop (m + 1) = markF l s (F.take (m + 1)) ++ F.drop (m + 1) by rw [M1]; simp] at hput
          have HPUT := Lib.hid hput
          have HBK := Lib.hid hbk
          have HK := Lib.hid hk
          have HXI := Lib.hid hxi
          have hgm : (markF l s (F.take (m + 1)) ++ F.drop (m + 1))[m]? = some { x with bef := sv } := by
            rw [M1, List.append_assoc, List.getElem?_append_right (by omega), hpl, Nat.sub_self]; rfl
          have HGM := Lib.hid hgm
          have hml : (markF l s (F.take (m + 1)) ++ F.drop (m + 1)).length = F.length := by rw [List.length_append, markF_len, List.length_take, List.length_drop]; omega
          have HML := Lib.hid hml
          have HF5b := Lib.hid hf5
          have m0 : (m : Int) < (F.length : Int) := by omega
          have k0 : (k : Int) < (l.length : Int) := by have := (List.getElem?_eq_some_iff.1 hk).1; omega
          clear hx hk hxi hsv M1 M2 hpl hd ho5 hv hbk hput hsve hgm hml hf5
          have hfz : wr.frozen? ⟨g, m * 4 + 3, none⟩ = false := free_at HBK.out _
          have hce : wr.cell? ⟨g, m * 4 + 3, none⟩ = some cur[m * 4 + 3] := (cell_at HBK.out _).trans (Array.getElem?_eq_getElem hsz3)
          have hfW := Fr.set (w := wr) (a := ⟨g, m * 4 + 3, none⟩) (v := intV sv) (S := fun i => i = g) rfl
          have hbW := HBK.out.put' (m * 4 + 3) (intV sv) rfl
          generalize cur[m * 4 + 3] = old at *
          obtain ⟨W, hW9⟩ : ∃ W, wr.setCell ⟨g, m * 4 + 3, none⟩ (intV sv) = W := ⟨_, rfl⟩
          rw [hW9] at hfW hbW
          have HFW := Lib.hid (HF5b.out.trans hfW (fun _ _ h => h) (fun i _ h => by have h : i = g := h; rw [h]; exact hgb))
          have HFV := Lib.hid (HF5.out.fresh (show Fr _ W (fun i => i = g) from hfW) fun i h => by have h : i = g := h; rw [h]; exact hgb)
          have HOW := Lib.hid (HPUT.out W hbW)
          have c0 : W.cell? ⟨g, m * 4, none⟩ = some (.int .i64 (k : Int)) := by
            obtain ⟨A9, c9, e9, -, -, hrd⟩ := HOW.out.rd
            rw [HML.out] at e9
            injection e9 with e9 _ _
            rw [← e9] at hrd
            obtain ⟨b9, o9, e8, hc9⟩ := FiresAt.at_ hrd HGM.out
            injection e8 with e8
            injection e8 with e7 e6 _
            have := hc9 0 (show 0 < 4 by decide)
            rw [← e7, ← e6, Nat.zero_add, Nat.add_zero] at this
            rw [this, ← HXI.out]; rfl
          obtain ⟨b, off, hA, hc⟩ := (HL.out.kept (ff4 HF.out HFV.out)).at_ HK.out
          subst hA
          have c9 : W.cell? ⟨b, off + k * 11 + 9, none⟩ = some (.int .i64 r.save) := hc 9 (show 9 < 11 by decide)
          clear hc hfW hbW
          subst hW9
          go_wp2_with fail
          go_roundg (F.length - (m + 1))
          case measure => omega
          case rel => exact ⟨m + 1, by omega, by go_num, by rw [HSV.out], HOW.out, HFW.out⟩
        · obtain rfl : m = F.length := by omega
          rw [List.take_length, List.drop_length, List.append_nil] at ho5
          rw [List.take_length]
          obtain ⟨A9, c9, e9, -, -, hrd⟩ := ho5.rd
          rw [markF_len] at e9 hrd
          injection e9 with e9 _ e8
          rw [← e9] at hrd
          obtain ⟨i0, hi0, hz0, hz1, hz2⟩ := info_parts info_rfire
          have HRD := Lib.hid hrd
          have HO6 := Lib.hid (show FiresAt _ w.heap.size _ (fromN l Y n) from (HO.out.kept HF5.out))
          have HONE := Lib.hid (flat_ones4 fireL_one (markF l s F))
          have HF6 := Lib.hid (ff4 HF.out HF5.out)
          have HFN := Lib.hid (show fromN l Y (n + 1) = fromN l Y n ++ markF l s F by
            show fromN l Y n ++ markF l (befY l (Y + n)) (yearD l (Y + n)) = _
            rw [HYv.out, HSv.out, HFv.out])
          have HSN := Lib.hid (show befY l (y + 1) = endS l s F by rw [befY_succ, HSv.out, HFv.out])
          clear ho5 hf5 hrd e9 e8
          go_wp2_with (at_builtin
                       refine wpList_append_rd _ rfl _ _ 26 rfl w.heap.size 47 i0 _ 4 32 Tryd.underlying26 hi0 hz0 hz1 hz2 rfl (by decide) _ (fromN l Y n).length ((fromN l Y n).flatMap fireL) rfl HO6.out A4 F.length c4 ((markF l s F).flatMap fireL) rfl HRD.out HONE.out (by simp only [maxLen]; omega) (by omega) HF6.out.size ?_
                       intro v6 w6 ho6 hg6 _
                       have HO7 := Lib.hid (show FiresAt w6 w.heap.size v6 (fromN l Y (n + 1)) by
                         rw [HFN.out]
                         show w6.ownsRow _ _ _ _ (fromN l Y n ++ markF l s F).length ((fromN l Y n ++ markF l s F).flatMap fireL)
                         rw [List.length_append, markF_len, List.flatMap_append]
                         exact ho6)
                       have HF7 := Lib.hid (own_grown HF6.out HO6.out hg6)
                       clear ho6 hg6)
          go_roundg (G - 1)
          case measure => omega
          case rel =>
            have hyv := HYv.out
            have e1 : Y + ((n + 1 : Nat) : Int) = y + 1 := by omega
            exact ⟨n + 1, by rw [e1], .inr (by omega), by omega, by rw [e1, HSN.out], HO7.out, HF7.out⟩
    · have hnn : (Bb + 1 - Y).toNat = n := by omega
      have HE := Lib.hid (show fromD l a b = fromN l Y n by rw [HD.out Y rfl, hnn])
      clear hyv
      go_wp2_with fail
      go_ret
      exact ⟨_, rfl, by rw [HE.out]; exact HO.out, HF.out⟩
end Go.Proofs.YtbkjafaijkmpfaaDoor
namespace Go.Proofs.YtbkjafaijkmpfaaDoor
open Go.RowKit Go.Mem Go.Lin Go.Xpd

/-- fires that follow one another, each with the saving ahead -/
def markH (l : List RuleL) : List FireL → List FireL
  | [] => []
  | f :: t => markF l (befY l f.y) (f :: t)
set_option maxHeartbeats 3200000 in
set_option maxRecDepth 100000 in
theorem setB_any (l : List RuleL) (A : Option Addr) (cap : Nat) (F : List FireL) (v : Value) (w0 w : World) (hw : S6.WOk w0) (h0 : Fr w0 w (fun _ => False)) (hl : RusAt w0 A l) (hn : l.length ≤ 1000) (hr : ∀ r ∈ l, OkF r)
    (ho : XFires w w0.heap.size v F) (hFl : F.length ≤ 100000) (hF : ∀ f ∈ F, (1 ≤ f.y ∧ f.y ≤ 9999) ∧ ∃ (k : Nat) (r : RuleL), l[k]? = some r ∧ f.i = k) :
    Calls Tryd.prog 22 #[.slice A l.length cap, v] w fun e w' => e = .returned (.tuple #[]) ∧ XFires w' w0.heap.size v (markH l F) ∧ Fr w0 w' (fun _ => False) := by
  obtain ⟨A4, c4, rfl⟩ := ho.slice
  have HL := Lib.hid hl
  have HF0 := Lib.hid h0
  have HO0 := Lib.hid ho
  have HFi := Lib.hid hF
  cases F with
  | nil =>
    clear ho hF h0 hl hw hr
    rw [List.length_nil] at HO0 ⊢
    go_enter Tryd.func22, Tryd.ntmps22
    go_wp2_with fail
    exact bodyPost_ret (results_none rfl _ _ _) rfl ⟨rfl, HO0.out, HF0.out⟩
  | cons f0 t0 =>
    obtain ⟨s, hs⟩ : ∃ s, befY l f0.y = s := ⟨_, rfl⟩
    have HM := Lib.hid (show markH l (f0 :: t0) = markF l s (f0 :: t0) by rw [← hs]; rfl)
    have hy0 := (hF f0 (by simp)).1
    have HQ := Lib.hid (save_any l A cap f0.y w (hw.fr h0) (hl.kept h0) hn hr (by omega))
    rw [hs] at HQ
    obtain ⟨A9, c9, hv9, -, -, hrd⟩ := ho.rd
    injection hv9 with h1 _ h3
    rw [← h1] at hrd
    obtain ⟨b0, o0, e8, hc0⟩ := FiresAt.at_ hrd (i := 0) (f := f0) rfl
    subst e8
    have c1 : w.cell? ⟨b0, o0 + 1, none⟩ = some (.int .i64 f0.y) := by
      have := hc0 1 (show 1 < 4 by decide)
      rw [Nat.zero_mul, Nat.add_zero] at this
      exact this
    obtain ⟨F, hFv⟩ : ∃ F, f0 :: t0 = F := ⟨_, rfl⟩
    have hp : 0 < F.length := by rw [← hFv]; simp
    rw [hFv] at HO0 HFi HM hFl ⊢
    have e0 : ((F.length : Int) == 0) = false := by rw [beq_eq_false_iff_ne]; omega
    have p0 : (0 : Int) < (F.length : Int) := by omega
    clear hFv hF hrd hc0 ho h0 hl hw hr h1 h3 hs
    go_enter Tryd.func22, Tryd.ntmps22
    go_wp2_with fail
    refine HQ.out.mono ?_
    rintro e w2 ⟨rfl, hf2⟩
    have HF2 := Lib.hid (ff4 HF0.out hf2)
    have HO2 := Lib.hid (HO0.out.kept hf2)
    clear hf2 c1 HO0
    go_wp2_with fail
    go_loopg [4, 5, 17] F.length (fun g v4 _ v17 wr => ∃ m : Nat, m + g = F.length ∧ v17 = intV m ∧ v4 = intV (endS l s (F.take m)) ∧ XFires wr w0.heap.size (.slice (some ⟨b0, o0, none⟩) F.length c4) (markF l s (F.take m) ++ F.drop m) ∧ Fr w0 wr (fun _ => False))
    case atStart => exact ⟨0, by simp, rfl, rfl, HO2.out, HF2.out⟩
    case round =>
      obtain ⟨m, hm, rfl, rfl, ho5, hf5⟩ := hrel
      have HF5 := Lib.hid hf5
      by_cases hlt : m < F.length
      · obtain ⟨x, hx⟩ : ∃ x, F[m]? = some x := ⟨F[m], List.getElem?_eq_getElem hlt⟩
        obtain ⟨-, k, r, hk, hxi⟩ := HFi.out x (List.mem_of_getElem? hx)
        have hsv : savD l x.i = r.save := by
          unfold savD
          rw [hxi, Int.toNat_natCast, hk]
        obtain ⟨M1, M2⟩ := markF_next (l := l) (s := s) hx
        have hpl : (markF l s (F.take m)).length = m := by rw [markF_len, List.length_take]; omega
        have hd : F.drop m = x :: F.drop (m + 1) := by
          have := List.getElem?_eq_some_iff.1 hx
          rw [← this.2]; exact List.drop_eq_getElem_cons hlt
        rw [hd] at ho5
        obtain ⟨g, c, cur, hv, hgb, hbk, hsz3, hput⟩ := own_put fireL_len ho5 (show 3 < 4 by decide)
        rw [hpl] at hsz3 hput
        obtain ⟨rfl, rfl, rfl⟩ : b0 = g ∧ o0 = 0 ∧ c4 = c := by
          injection hv with h1 h2 h3
          injection h1 with h1
          injection h1 with h1 h4 _
          exact ⟨h1, h4, h3⟩
        have HSV := Lib.hid (M2.trans hsv)
        obtain ⟨sv, hsve⟩ : ∃ sv, endS l s (F.take m) = sv := ⟨_, rfl⟩
        rw [hsve] at M1 ⊢
        have hput := fun W hW => hput W (intV sv) { x with bef := sv } rfl hW
        rw [show markF l s (F.take m) ++ { x with bef := sv } :: F.drop (m + 1) = markF l s (F.take (m + 1)) ++ F.drop (m + 1) by rw [M1]; simp] at hput
        have HPUT := Lib.hid hput
        have HBK := Lib.hid hbk
        have HK := Lib.hid hk
        have HXI := Lib.hid hxi
        have hgm : (markF l s (F.take (m + 1)) ++ F.drop (m + 1))[m]? = some { x with bef := sv } := by
          rw [M1, List.append_assoc, List.getElem?_append_right (by omega), hpl, Nat.sub_self]; rfl
        have HGM := Lib.hid hgm
        have hml : (markF l s (F.take (m + 1)) ++ F.drop (m + 1)).length = F.length := by rw [List.length_append, markF_len, List.length_take, List.length_drop]; omega
        have HML := Lib.hid hml
        have m0 : (m : Int) < (F.length : Int) := by omega
        have k0 : (k : Int) < (l.length : Int) := by have := (List.getElem?_eq_some_iff.1 hk).1; omega
        clear hx hk hxi hsv M1 M2 hpl hd ho5 hv hbk hput hsve hgm hml hf5
        have hfz : wr.frozen? ⟨b0, m * 4 + 3, none⟩ = false := free_at HBK.out _
        have hce : wr.cell? ⟨b0, m * 4 + 3, none⟩ = some cur[m * 4 + 3] := (cell_at HBK.out _).trans (Array.getElem?_eq_getElem hsz3)
        have hfW := Fr.set (w := wr) (a := ⟨b0, m * 4 + 3, none⟩) (v := intV sv) (S := fun i => i = b0) rfl
        have hbW := HBK.out.put' (m * 4 + 3) (intV sv) rfl
        generalize cur[m * 4 + 3] = old at *
        obtain ⟨W, hW9⟩ : ∃ W, wr.setCell ⟨b0, m * 4 + 3, none⟩ (intV sv) = W := ⟨_, rfl⟩
        rw [hW9] at hfW hbW
        have HFW := Lib.hid (HF5.out.fresh (show Fr _ W (fun i => i = b0) from hfW) fun i h => by have h : i = b0 := h; rw [h]; exact hgb)
        have HOW := Lib.hid (HPUT.out W hbW)
        have c0 : W.cell? ⟨b0, m * 4, none⟩ = some (.int .i64 (k : Int)) := by
          obtain ⟨A9, c9, e9, -, -, hrd⟩ := HOW.out.rd
          rw [HML.out] at e9
          injection e9 with e9 _ _
          rw [← e9] at hrd
          obtain ⟨b9, o9, e8, hc9⟩ := FiresAt.at_ hrd HGM.out
          injection e8 with e8
          injection e8 with e7 e6 _
          have := hc9 0 (show 0 < 4 by decide)
          rw [← e7, ← e6, Nat.zero_add, Nat.add_zero] at this
          rw [this, ← HXI.out]; rfl
        obtain ⟨b, off, hA, hc⟩ := (HL.out.kept HFW.out).at_ HK.out
        subst hA
        have c9 : W.cell? ⟨b, off + k * 11 + 9, none⟩ = some (.int .i64 r.save) := hc 9 (show 9 < 11 by decide)
        clear hc hfW hbW
        subst hW9
        go_wp2_with fail
        go_roundg (F.length - (m + 1))
        case measure => omega
        case rel => exact ⟨m + 1, by omega, by go_num, by rw [HSV.out], HOW.out, HFW.out⟩
      · obtain rfl : m = F.length := by omega
        rw [List.take_length, List.drop_length, List.append_nil] at ho5
        have HO9 := Lib.hid ho5
        clear ho5 hf5
        go_wp2_with fail
        go_end0
        exact ⟨rfl, by rw [HM.out]; exact HO9.out, HF5.out⟩
end Go.Proofs.YtbkjafaijkmpfaaDoor
