import Derived.Test.YtgcheollgnhdlaaGreatDoorShx
import Derived.Great.BuildSlice
namespace Go.Proofs.YtgcheollgnhdlaaGreatDoor
open Go.RowKit Go.Mem Go.Lin

/-- a slice of these texts -/
def SPost (ls : List Bs) (w : World) (e : Ending) (w' : World) : Prop := ∃ A c, e = .returned (.slice A ls.length c) ∧ Rd w' 1 A ls.length (ls.map strV) ∧ Fr w w' (fun _ => False)
theorem text_any (s : Bs) (k : Int) (w : World) : Calls Tryz.prog 35 #[strV s, intV k] w fun e w' => e = .returned (strV s) ∧ Fr w w' (fun _ => False) := by
  go_enter Tryz.func35, Tryz.ntmps35
  go_wp2_with fail
  go_ret
  exact ⟨rfl, Fr.refl _ _⟩
theorem letterText_any (s : Bs) (w : World) (t : Bs) (h : letterX s = t) : Calls Tryz.prog 41 #[strV s] w fun e w' => e = .returned (strV t) ∧ Fr w w' (fun _ => False) := by
  unfold letterX at h
  cases s with
  | nil =>
    rw [if_pos rfl] at h
    subst h
    go_enter Tryz.func41, Tryz.ntmps41
    go_wp2_with fail
    go_ret
    exact ⟨rfl, Fr.refl _ _⟩
  | cons c r =>
    rw [if_neg (by simp)] at h
    subst h
    have h0 : (c :: r == ([] : Bs)) = false := rfl
    go_enter Tryz.func41, Tryz.ntmps41
    go_wp2_with fail
    go_ret
    exact ⟨rfl, Fr.refl _ _⟩
theorem built {w : World} (base : Nat) (cs : Array Value) (ls : List Bs) (hb : base ≤ w.heap.size) (hc : cs.toList = ls.map strV) (hl : ls.length ≤ maxLen) : (w.alloc (.cells cs 9)).ownsRow base 9 1 (.slice (some ⟨w.heap.size, 0, none⟩) ls.length ls.length) ls.length (ls.map strV) := by
  have hs : cs.size = ls.length := by rw [← Array.length_toList, hc, List.length_map]
  refine ⟨by simp, .inr ⟨w.heap.size, ls.length, cs, rfl, hb, Blk.made w 9 cs, Nat.le_refl _, hl, by omega, ?_⟩⟩
  rw [hc, List.take_of_length_le (by simp)]
theorem own_slice {w : World} {base n : Nat} {v : Value} {ls : List Bs} (h : w.ownsRow base 9 1 v n (ls.map strV)) (hn : n = ls.length) : ∃ A c, v = .slice A ls.length c ∧ Rd w 1 A ls.length (ls.map strV) := by
  subst hn
  obtain ⟨A, c, h1, -, -, h2, -⟩ := own_rd h
  exact ⟨A, c, h1, h2⟩
set_option maxRecDepth 100000 in
set_option maxHeartbeats 1600000 in
theorem rulesText_any (e : EraL) (w : World) (hw : LOk w) (t : Bs) (h : rulesX e = t) : Calls Tryz.prog 42 #[.agg (eraC e)] w fun e w' => e = .returned (strV t) ∧ Fr w w' (fun _ => False) := by
  have hb := Blk.made w 31 (eraC e)
  have hf := Fr.new w (.cells (eraC e) 31) (fun _ => False)
  have c1 := blk_cell hb 1 (intV e.kind) rfl
  have c2 := blk_cell hb 2 (intV e.save) rfl
  have c3 := blk_cell hb 3 (strV e.rules) rfl
  have HF := Lib.hid hf
  unfold rulesX at h
  by_cases h0 : e.kind = 0
  · rw [if_pos h0] at h
    subst h
    rw [h0] at c1
    clear hw hb hf
    go_enter Tryz.func42, Tryz.ntmps42
    go_wp2_with fail
    go_ret
    exact ⟨rfl, HF.out⟩
  · rw [if_neg h0] at h
    have e0 : (e.kind == 0) = false := by simpa using h0
    by_cases h1 : e.kind = 1
    · rw [if_pos h1] at h
      rw [h1] at c1
      have HS := Lib.hid (showAmount_any e.save _ (hw.fr hf) (amtS e.save).1 (amtS e.save).2 rfl)
      have HT := Lib.hid (fun k W => text_any (amtS e.save).1 k W)
      generalize (amtS e.save).2 = k at HS
      rw [h] at HS HT
      clear hw hb hf h e0
      go_enter Tryz.func42, Tryz.ntmps42
      go_wp2_with fail
      refine HS.out.mono ?_
      rintro e w2 ⟨rfl, hf2⟩
      have HF2 := Lib.hid (ff HF.out hf2)
      clear hf2
      go_wp2_with fail
      refine (HT.out _ _).mono ?_
      rintro e w3 ⟨rfl, hf3⟩
      have HF3 := Lib.hid (ff HF2.out hf3)
      clear hf3
      go_wp2_with fail
      go_ret
      exact ⟨rfl, HF3.out⟩
    · rw [if_neg h1] at h
      have e1 : (e.kind == 1) = false := by simpa using h1
      by_cases h2 : e.kind = 2
      · rw [if_pos h2] at h
        subst h
        rw [h2] at c1
        clear hw hb hf
        go_enter Tryz.func42, Tryz.ntmps42
        go_wp2_with fail
        go_ret
        exact ⟨rfl, HF.out⟩
      · rw [if_neg h2] at h
        subst h
        have e2 : (e.kind == 2) = false := by simpa using h2
        clear hw hb hf
        go_enter Tryz.func42, Tryz.ntmps42
        go_wp2_with fail
        go_ret
        exact ⟨rfl, HF.out⟩
set_option maxRecDepth 100000 in
set_option maxHeartbeats 1600000 in
theorem same_any (x y : LineL) (b : Bool) (hb : decide (x = y) = b) (w : World) : Calls Tryz.prog 15 #[.agg (lineC x), .agg (lineC y)] w fun e w' => e = .returned (.bool b) ∧ Fr w w' (fun _ => False) := by
  have hf1 := Fr.new w (.cells (lineC x) 34) (fun _ => False)
  have hf2 := Fr.new (w.alloc (.cells (lineC x) 34)) (.cells (lineC y) 34) (fun _ => False)
  have hsz : (w.alloc (.cells (lineC x) 34)).heap.size = w.heap.size + 1 := by simp
  have hb2 := Blk.made (w.alloc (.cells (lineC x) 34)) 34 (lineC y)
  rw [hsz] at hb2
  have HX := Lib.hid (hf2.blk (Blk.made w 34 (lineC x)) (fun h => h))
  have HY := Lib.hid hb2
  have HF := Lib.hid (ff hf1 hf2)
  have E := fun w => eql_line x y w
  rw [hb] at E
  clear hf1 hf2 hsz hb2 hb
  go_enter Tryz.func15, Tryz.ntmps15
  go_wp2_with (first
    | (refine wpList_load_blk 34 _ w.heap.size 0 34 (lineC x) (lineC x) _ (by rfl) rfl rfl HX.out Tryz.underlying34 rfl (infoL _) (zero_part _) ?_)
    | (refine wpList_load_blk 34 _ (w.heap.size + 1) 0 34 (lineC y) (lineC y) _ (by rfl) rfl rfl HY.out Tryz.underlying34 rfl (infoL _) (zero_part _) ?_))
  go_ret
  exact ⟨rfl, HF.out⟩
end Go.Proofs.YtgcheollgnhdlaaGreatDoor
namespace Go.Proofs.YtgcheollgnhdlaaGreatDoor
open Go.RowKit Go.Mem Go.Lin

set_option maxRecDepth 100000 in
set_option maxHeartbeats 6400000 in
theorem ruleTexts_any (r : RuleL) (hr : inR r.fr) (w : World) (hw : LOk w) : Calls Tryz.prog 23 #[.agg (ruleC r)] w (SPost (ruleX r) w) := by
  have hf := Fr.new w (.cells (ruleC r) 27) (fun _ => False)
  have HB := Lib.hid (Blk.made w 27 (ruleC r))
  have HF := Lib.hid hf
  have HW := Lib.hid (fun (W : World) (f : Fr w W (fun _ => False)) => hw.fr f)
  unfold ruleX
  obtain ⟨t4, h4⟩ : ∃ t, Go.Lib.itoa r.fr = t := ⟨_, rfl⟩
  obtain ⟨⟨t9, k9⟩, h9⟩ : ∃ t, Go.Kwd.showToD r.fr r.to = t := ⟨_, rfl⟩
  obtain ⟨t15, h15⟩ : ∃ t, Go.Kwd.showMonthD r.month = t := ⟨_, rfl⟩
  obtain ⟨⟨t18, k18⟩, h18⟩ : ∃ t, dayS r.on = t := ⟨_, rfl⟩
  obtain ⟨⟨t24, k24⟩, h24⟩ : ∃ t, timeS r.at_ = t := ⟨_, rfl⟩
  obtain ⟨⟨t30, k30⟩, h30⟩ : ∃ t, amtS r.save = t := ⟨_, rfl⟩
  obtain ⟨t36, h36⟩ : ∃ t, letterX r.letter = t := ⟨_, rfl⟩
  have H4 := Lib.hid (fun (W : World) (f : Fr w W (fun _ => False)) => (show Calls Tryz.prog 34 #[intV r.fr] W fun e w' => e = .returned (strV t4) ∧ Fr W w' (fun _ => False) by rw [← h4]; exact S6.Itoa_any r.fr hr.1 hr.2 W (HW.out W f).base))
  have H9 := Lib.hid (fun (W : World) (f : Fr w W (fun _ => False)) => showTo_any r.fr r.to W (HW.out W f) t9 k9 h9)
  have H15 := Lib.hid (fun W => showMonth_any r.month W t15 h15)
  have H18 := Lib.hid (fun (W : World) (f : Fr w W (fun _ => False)) => (show Calls Tryz.prog 38 #[.agg (dayC r.on)] W fun e w' => e = .returned (.tuple #[strV t18, intV k18]) ∧ Fr W w' (fun _ => False) from showDay_any r.on W (HW.out W f) t18 k18 h18))
  have H24 := Lib.hid (fun (W : World) (f : Fr w W (fun _ => False)) => (show Calls Tryz.prog 39 #[.agg (atC r.at_)] W fun e w' => e = .returned (.tuple #[strV t24, intV k24]) ∧ Fr W w' (fun _ => False) from showTime_any r.at_ W (HW.out W f) t24 k24 h24))
  have H30 := Lib.hid (fun (W : World) (f : Fr w W (fun _ => False)) => showAmount_any r.save W (HW.out W f) t30 k30 h30)
  have H36 := Lib.hid (fun W => letterText_any r.letter W t36 h36)
  rw [h4, h9, h15, h18, h24, h30, h36]
  clear h4 h9 h15 h18 h24 h30 h36 hw hr hf
  go_enter Tryz.func23, Tryz.ntmps23
  go_wp2_with fail
  refine wp_region_held_drew (S := fun w' => Fr w w' (fun _ => False) ∧ Blk w' w.heap.size 27 (ruleC r)) (by kernel_rfl) (⟨ff HF.out (Fr.drew _ _), (Fr.drew _ (fun _ => False)).blk HB.out (fun h => h)⟩) (fun hHeld => ?_)
  refine wpAnyH_take (i := 0) (v := ?_) rfl (by kernel_rfl) (by kernel_rfl) (by kernel_rfl) (fun _ _ _ h => h) (Or.inl ⟨by rfl, ?_⟩) (by assumption) ?_
  rotate_left
  · intro w' hSw
    have k0 := blk_cell hSw.2 0 (strV r.name) rfl; have k1 := blk_cell hSw.2 1 (intV r.fr) rfl; have k2 := blk_cell hSw.2 2 (intV r.to) rfl; have k3 := blk_cell hSw.2 3 (intV r.month) rfl; have k9 := blk_cell hSw.2 9 (intV r.save) rfl; have k10 := blk_cell hSw.2 10 (strV r.letter) rfl
    go_simp
    try with_reducible rfl
  try simp only [Act.put, List.setIfInBounds_toArray, List.set_cons_zero, List.set_cons_succ, List.getElem_toArray, List.getElem_cons_zero]
  refine wpAnyH_take (i := 1) (v := ?_) rfl (by kernel_rfl) (by kernel_rfl) (by kernel_rfl) (fun _ _ _ h => h) (Or.inl ⟨by rfl, ?_⟩) (by assumption) ?_
  rotate_left
  · intro w' hSw
    have k0 := blk_cell hSw.2 0 (strV r.name) rfl; have k1 := blk_cell hSw.2 1 (intV r.fr) rfl; have k2 := blk_cell hSw.2 2 (intV r.to) rfl; have k3 := blk_cell hSw.2 3 (intV r.month) rfl; have k9 := blk_cell hSw.2 9 (intV r.save) rfl; have k10 := blk_cell hSw.2 10 (strV r.letter) rfl
    go_simp
    try with_reducible rfl
  try simp only [Act.put, List.setIfInBounds_toArray, List.set_cons_zero, List.set_cons_succ, List.getElem_toArray, List.getElem_cons_succ, List.getElem_cons_zero]
  refine wpAnyH_take (i := 2) (v := ?_) rfl (by kernel_rfl) (by kernel_rfl) (by kernel_rfl) (fun _ _ _ h => h) (Or.inl ⟨by rfl, ?_⟩) (by assumption) ?_
  rotate_left
  · intro w' hSw
    have k0 := blk_cell hSw.2 0 (strV r.name) rfl; have k1 := blk_cell hSw.2 1 (intV r.fr) rfl; have k2 := blk_cell hSw.2 2 (intV r.to) rfl; have k3 := blk_cell hSw.2 3 (intV r.month) rfl; have k9 := blk_cell hSw.2 9 (intV r.save) rfl; have k10 := blk_cell hSw.2 10 (strV r.letter) rfl
    go_simp
    try with_reducible rfl
  try simp only [Act.put, List.setIfInBounds_toArray, List.set_cons_zero, List.set_cons_succ, List.getElem_toArray, List.getElem_cons_succ, List.getElem_cons_zero]
  refine wpAnyH_take (i := 3) (v := ?_) rfl (by kernel_rfl) (by kernel_rfl) (by kernel_rfl) (fun _ _ _ h => h) (Or.inl ⟨by rfl, ?_⟩) (by assumption) ?_
  rotate_left
  · intro w' hSw
    have k0 := blk_cell hSw.2 0 (strV r.name) rfl; have k1 := blk_cell hSw.2 1 (intV r.fr) rfl; have k2 := blk_cell hSw.2 2 (intV r.to) rfl; have k3 := blk_cell hSw.2 3 (intV r.month) rfl; have k9 := blk_cell hSw.2 9 (intV r.save) rfl; have k10 := blk_cell hSw.2 10 (strV r.letter) rfl
    go_simp
    try with_reducible rfl
  try simp only [Act.put, List.setIfInBounds_toArray, List.set_cons_zero, List.set_cons_succ, List.getElem_toArray, List.getElem_cons_succ, List.getElem_cons_zero]
  refine wpAnyH_take (i := 5) (v := ?_) rfl (by kernel_rfl) (by kernel_rfl) (by kernel_rfl) (fun _ _ _ h => h) (Or.inl ⟨by rfl, ?_⟩) (by assumption) ?_
  rotate_left
  · intro w' hSw
    have k0 := blk_cell hSw.2 0 (strV r.name) rfl; have k1 := blk_cell hSw.2 1 (intV r.fr) rfl; have k2 := blk_cell hSw.2 2 (intV r.to) rfl; have k3 := blk_cell hSw.2 3 (intV r.month) rfl; have k9 := blk_cell hSw.2 9 (intV r.save) rfl; have k10 := blk_cell hSw.2 10 (strV r.letter) rfl
    go_simp
    try with_reducible rfl
  try simp only [Act.put, List.setIfInBounds_toArray, List.set_cons_zero, List.set_cons_succ, List.getElem_toArray, List.getElem_cons_succ, List.getElem_cons_zero]
  refine wpAnyH_take (i := 6) (v := ?_) rfl (by kernel_rfl) (by kernel_rfl) (by kernel_rfl) (fun _ _ _ h => h) (Or.inl ⟨by rfl, ?_⟩) (by assumption) ?_
  rotate_left
  · intro w' hSw
    have k0 := blk_cell hSw.2 0 (strV r.name) rfl; have k1 := blk_cell hSw.2 1 (intV r.fr) rfl; have k2 := blk_cell hSw.2 2 (intV r.to) rfl; have k3 := blk_cell hSw.2 3 (intV r.month) rfl; have k9 := blk_cell hSw.2 9 (intV r.save) rfl; have k10 := blk_cell hSw.2 10 (strV r.letter) rfl
    go_simp
    try with_reducible rfl
  try simp only [Act.put, List.setIfInBounds_toArray, List.set_cons_zero, List.set_cons_succ, List.getElem_toArray, List.getElem_cons_succ, List.getElem_cons_zero]
  refine wpAnyH_take (i := 7) (v := ?_) rfl (by kernel_rfl) (by kernel_rfl) (by kernel_rfl) (fun _ _ _ h => h) (Or.inl ⟨by rfl, ?_⟩) (by assumption) ?_
  rotate_left
  · intro w' hSw
    have k0 := blk_cell hSw.2 0 (strV r.name) rfl; have k1 := blk_cell hSw.2 1 (intV r.fr) rfl; have k2 := blk_cell hSw.2 2 (intV r.to) rfl; have k3 := blk_cell hSw.2 3 (intV r.month) rfl; have k9 := blk_cell hSw.2 9 (intV r.save) rfl; have k10 := blk_cell hSw.2 10 (strV r.letter) rfl
    go_simp
    try with_reducible rfl
  try simp only [Act.put, List.setIfInBounds_toArray, List.set_cons_zero, List.set_cons_succ, List.getElem_toArray, List.getElem_cons_succ, List.getElem_cons_zero]
  refine wpAnyH_take (i := 8) (v := ?_) rfl (by kernel_rfl) (by kernel_rfl) (by kernel_rfl) (fun _ _ _ h => h) (Or.inl ⟨by rfl, ?_⟩) (by assumption) ?_
  rotate_left
  · intro w' hSw
    have k0 := blk_cell hSw.2 0 (strV r.name) rfl; have k1 := blk_cell hSw.2 1 (intV r.fr) rfl; have k2 := blk_cell hSw.2 2 (intV r.to) rfl; have k3 := blk_cell hSw.2 3 (intV r.month) rfl; have k9 := blk_cell hSw.2 9 (intV r.save) rfl; have k10 := blk_cell hSw.2 10 (strV r.letter) rfl
    go_simp
    try with_reducible rfl
  try simp only [Act.put, List.setIfInBounds_toArray, List.set_cons_zero, List.set_cons_succ, List.getElem_toArray, List.getElem_cons_succ, List.getElem_cons_zero]
  refine wpAnyH_take (i := 13) (v := ?_) rfl (by kernel_rfl) (by kernel_rfl) (by kernel_rfl) (fun _ _ _ h => h) (Or.inl ⟨by rfl, ?_⟩) (by assumption) ?_
  rotate_left
  · intro w' hSw
    have k0 := blk_cell hSw.2 0 (strV r.name) rfl; have k1 := blk_cell hSw.2 1 (intV r.fr) rfl; have k2 := blk_cell hSw.2 2 (intV r.to) rfl; have k3 := blk_cell hSw.2 3 (intV r.month) rfl; have k9 := blk_cell hSw.2 9 (intV r.save) rfl; have k10 := blk_cell hSw.2 10 (strV r.letter) rfl
    go_simp
    try with_reducible rfl
  try simp only [Act.put, List.setIfInBounds_toArray, List.set_cons_zero, List.set_cons_succ, List.getElem_toArray, List.getElem_cons_succ, List.getElem_cons_zero]
  refine wpAnyH_take (i := 14) (v := ?_) rfl (by kernel_rfl) (by kernel_rfl) (by kernel_rfl) (fun _ _ _ h => h) (Or.inl ⟨by rfl, ?_⟩) (by assumption) ?_
  rotate_left
  · intro w' hSw
    have k0 := blk_cell hSw.2 0 (strV r.name) rfl; have k1 := blk_cell hSw.2 1 (intV r.fr) rfl; have k2 := blk_cell hSw.2 2 (intV r.to) rfl; have k3 := blk_cell hSw.2 3 (intV r.month) rfl; have k9 := blk_cell hSw.2 9 (intV r.save) rfl; have k10 := blk_cell hSw.2 10 (strV r.letter) rfl
    go_simp
    try with_reducible rfl
  try simp only [Act.put, List.setIfInBounds_toArray, List.set_cons_zero, List.set_cons_succ, List.getElem_toArray, List.getElem_cons_succ, List.getElem_cons_zero]
  refine wpAnyH_take (i := 16) (v := ?_) rfl (by kernel_rfl) (by kernel_rfl) (by kernel_rfl) (fun _ _ _ h => h) (Or.inl ⟨by rfl, ?_⟩) (by assumption) ?_
  rotate_left
  · intro w' hSw
    have k0 := blk_cell hSw.2 0 (strV r.name) rfl; have k1 := blk_cell hSw.2 1 (intV r.fr) rfl; have k2 := blk_cell hSw.2 2 (intV r.to) rfl; have k3 := blk_cell hSw.2 3 (intV r.month) rfl; have k9 := blk_cell hSw.2 9 (intV r.save) rfl; have k10 := blk_cell hSw.2 10 (strV r.letter) rfl
    go_simp
    try with_reducible rfl
  try simp only [Act.put, List.setIfInBounds_toArray, List.set_cons_zero, List.set_cons_succ, List.getElem_toArray, List.getElem_cons_succ, List.getElem_cons_zero]
  refine wpAnyH_take (i := 17) (v := _) rfl (by kernel_rfl) (by kernel_rfl) (by kernel_rfl) (fun _ _ _ h => h) (yields_blk 23 _ w.heap.size 4 27 (ruleC r) (dayC r.on) _ (by rfl) rfl rfl (fun _ h => h.2) Tryz.underlying23 rfl (infoD _) (part_r4 _)) (by assumption) ?_
  try simp only [Act.put, List.setIfInBounds_toArray, List.set_cons_zero, List.set_cons_succ, List.getElem_toArray, List.getElem_cons_succ, List.getElem_cons_zero]
  refine wpAnyH_take (i := 22) (v := ?_) rfl (by kernel_rfl) (by kernel_rfl) (by kernel_rfl) (fun _ _ _ h => h) (Or.inl ⟨by rfl, ?_⟩) (by assumption) ?_
  rotate_left
  · intro w' hSw
    have k0 := blk_cell hSw.2 0 (strV r.name) rfl; have k1 := blk_cell hSw.2 1 (intV r.fr) rfl; have k2 := blk_cell hSw.2 2 (intV r.to) rfl; have k3 := blk_cell hSw.2 3 (intV r.month) rfl; have k9 := blk_cell hSw.2 9 (intV r.save) rfl; have k10 := blk_cell hSw.2 10 (strV r.letter) rfl
    go_simp
    try with_reducible rfl
  try simp only [Act.put, List.setIfInBounds_toArray, List.set_cons_zero, List.set_cons_succ, List.getElem_toArray, List.getElem_cons_succ, List.getElem_cons_zero]
  refine wpAnyH_take (i := 23) (v := _) rfl (by kernel_rfl) (by kernel_rfl) (by kernel_rfl) (fun _ _ _ h => h) (yields_blk 25 _ w.heap.size 7 27 (ruleC r) (atC r.at_) _ (by rfl) rfl rfl (fun _ h => h.2) Tryz.underlying25 rfl (infoA _) (part_r7 _)) (by assumption) ?_
  try simp only [Act.put, List.setIfInBounds_toArray, List.set_cons_zero, List.set_cons_succ, List.getElem_toArray, List.getElem_cons_succ, List.getElem_cons_zero]
  refine wpAnyH_take (i := 28) (v := ?_) rfl (by kernel_rfl) (by kernel_rfl) (by kernel_rfl) (fun _ _ _ h => h) (Or.inl ⟨by rfl, ?_⟩) (by assumption) ?_
  rotate_left
  · intro w' hSw
    have k0 := blk_cell hSw.2 0 (strV r.name) rfl; have k1 := blk_cell hSw.2 1 (intV r.fr) rfl; have k2 := blk_cell hSw.2 2 (intV r.to) rfl; have k3 := blk_cell hSw.2 3 (intV r.month) rfl; have k9 := blk_cell hSw.2 9 (intV r.save) rfl; have k10 := blk_cell hSw.2 10 (strV r.letter) rfl
    go_simp
    try with_reducible rfl
  try simp only [Act.put, List.setIfInBounds_toArray, List.set_cons_zero, List.set_cons_succ, List.getElem_toArray, List.getElem_cons_succ, List.getElem_cons_zero]
  refine wpAnyH_take (i := 29) (v := ?_) rfl (by kernel_rfl) (by kernel_rfl) (by kernel_rfl) (fun _ _ _ h => h) (Or.inl ⟨by rfl, ?_⟩) (by assumption) ?_
  rotate_left
  · intro w' hSw
    have k0 := blk_cell hSw.2 0 (strV r.name) rfl; have k1 := blk_cell hSw.2 1 (intV r.fr) rfl; have k2 := blk_cell hSw.2 2 (intV r.to) rfl; have k3 := blk_cell hSw.2 3 (intV r.month) rfl; have k9 := blk_cell hSw.2 9 (intV r.save) rfl; have k10 := blk_cell hSw.2 10 (strV r.letter) rfl
    go_simp
    try with_reducible rfl
  try simp only [Act.put, List.setIfInBounds_toArray, List.set_cons_zero, List.set_cons_succ, List.getElem_toArray, List.getElem_cons_succ, List.getElem_cons_zero]
  refine wpAnyH_take (i := 34) (v := ?_) rfl (by kernel_rfl) (by kernel_rfl) (by kernel_rfl) (fun _ _ _ h => h) (Or.inl ⟨by rfl, ?_⟩) (by assumption) ?_
  rotate_left
  · intro w' hSw
    have k0 := blk_cell hSw.2 0 (strV r.name) rfl; have k1 := blk_cell hSw.2 1 (intV r.fr) rfl; have k2 := blk_cell hSw.2 2 (intV r.to) rfl; have k3 := blk_cell hSw.2 3 (intV r.month) rfl; have k9 := blk_cell hSw.2 9 (intV r.save) rfl; have k10 := blk_cell hSw.2 10 (strV r.letter) rfl
    go_simp
    try with_reducible rfl
  try simp only [Act.put, List.setIfInBounds_toArray, List.set_cons_zero, List.set_cons_succ, List.getElem_toArray, List.getElem_cons_succ, List.getElem_cons_zero]
  refine wpAnyH_take (i := 35) (v := ?_) rfl (by kernel_rfl) (by kernel_rfl) (by kernel_rfl) (fun _ _ _ h => h) (Or.inl ⟨by rfl, ?_⟩) (by assumption) ?_
  rotate_left
  · intro w' hSw
    have k0 := blk_cell hSw.2 0 (strV r.name) rfl; have k1 := blk_cell hSw.2 1 (intV r.fr) rfl; have k2 := blk_cell hSw.2 2 (intV r.to) rfl; have k3 := blk_cell hSw.2 3 (intV r.month) rfl; have k9 := blk_cell hSw.2 9 (intV r.save) rfl; have k10 := blk_cell hSw.2 10 (strV r.letter) rfl
    go_simp
    try with_reducible rfl
  try simp only [Act.put, List.setIfInBounds_toArray, List.set_cons_zero, List.set_cons_succ, List.getElem_toArray, List.getElem_cons_succ, List.getElem_cons_zero]
  refine wpAnyH_ready (rs := [4]) (by kernel_rfl) (by simp) ?_
  refine AllReadyH.cons rfl (fun K hK => ?_) AllReadyH.nil
  go_simp
  refine (H4.out _ hHeld.1).mono ?_
  rintro e w10 ⟨rfl, hf10⟩
  refine hK.out _ _ ⟨ff hHeld.1 hf10, hf10.blk hHeld.2 (fun h => h)⟩ (fun hHeld2 => ?_)
  clear hK K hHeld hf10
  rename_i hHeld2
  have hHeld := hHeld2
  clear hHeld2
  try simp only [Act.put, List.setIfInBounds_toArray, List.set_cons_zero, List.set_cons_succ, List.getElem_toArray, List.getElem_cons_succ, List.getElem_cons_zero]
  refine wpAnyH_ready (rs := [9]) (by kernel_rfl) (by simp) ?_
  refine AllReadyH.cons rfl (fun K hK => ?_) AllReadyH.nil
  go_simp
  refine (H9.out _ hHeld.1).mono ?_
  rintro e w11 ⟨rfl, hf11⟩
  refine hK.out _ _ ⟨ff hHeld.1 hf11, hf11.blk hHeld.2 (fun h => h)⟩ (fun hHeld2 => ?_)
  clear hK K hHeld hf11
  rename_i hHeld2
  have hHeld := hHeld2
  clear hHeld2
  try simp only [Act.put, List.setIfInBounds_toArray, List.set_cons_zero, List.set_cons_succ, List.getElem_toArray, List.getElem_cons_succ, List.getElem_cons_zero]
  refine wpAnyH_take (i := 10) (v := ?_) rfl (by kernel_rfl) (by kernel_rfl) (by kernel_rfl) (fun _ _ _ h => h) (Or.inl ⟨by rfl, ?_⟩) (by assumption) ?_
  rotate_left
  · intro w' hSw
    skip
    go_simp
    try with_reducible rfl
  try simp only [Act.put, List.setIfInBounds_toArray, List.set_cons_zero, List.set_cons_succ, List.getElem_toArray, List.getElem_cons_succ, List.getElem_cons_zero]
  refine wpAnyH_take (i := 11) (v := ?_) rfl (by kernel_rfl) (by kernel_rfl) (by kernel_rfl) (fun _ _ _ h => h) (Or.inl ⟨by rfl, ?_⟩) (by assumption) ?_
  rotate_left
  · intro w' hSw
    skip
    go_simp
    try with_reducible rfl
  try simp only [Act.put, List.setIfInBounds_toArray, List.set_cons_zero, List.set_cons_succ, List.getElem_toArray, List.getElem_cons_succ, List.getElem_cons_zero]
  refine wpAnyH_ready (rs := [12]) (by kernel_rfl) (by simp) ?_
  refine AllReadyH.cons rfl (fun K hK => ?_) AllReadyH.nil
  go_simp
  refine (text_any _ _ _).mono ?_
  rintro e w12 ⟨rfl, hf12⟩
  refine hK.out _ _ ⟨ff hHeld.1 hf12, hf12.blk hHeld.2 (fun h => h)⟩ (fun hHeld2 => ?_)
  clear hK K hHeld hf12
  rename_i hHeld2
  have hHeld := hHeld2
  clear hHeld2
  try simp only [Act.put, List.setIfInBounds_toArray, List.set_cons_zero, List.set_cons_succ, List.getElem_toArray, List.getElem_cons_succ, List.getElem_cons_zero]
  refine wpAnyH_ready (rs := [15]) (by kernel_rfl) (by simp) ?_
  refine AllReadyH.cons rfl (fun K hK => ?_) AllReadyH.nil
  go_simp
  refine (H15.out _).mono ?_
  rintro e w13 ⟨rfl, hf13⟩
  refine hK.out _ _ ⟨ff hHeld.1 hf13, hf13.blk hHeld.2 (fun h => h)⟩ (fun hHeld2 => ?_)
  clear hK K hHeld hf13
  rename_i hHeld2
  have hHeld := hHeld2
  clear hHeld2
  try simp only [Act.put, List.setIfInBounds_toArray, List.set_cons_zero, List.set_cons_succ, List.getElem_toArray, List.getElem_cons_succ, List.getElem_cons_zero]
  refine wpAnyH_ready (rs := [18]) (by kernel_rfl) (by simp) ?_
  refine AllReadyH.cons rfl (fun K hK => ?_) AllReadyH.nil
  go_simp
  refine (H18.out _ hHeld.1).mono ?_
  rintro e w14 ⟨rfl, hf14⟩
  refine hK.out _ _ ⟨ff hHeld.1 hf14, hf14.blk hHeld.2 (fun h => h)⟩ (fun hHeld2 => ?_)
  clear hK K hHeld hf14
  rename_i hHeld2
  have hHeld := hHeld2
  clear hHeld2
  try simp only [Act.put, List.setIfInBounds_toArray, List.set_cons_zero, List.set_cons_succ, List.getElem_toArray, List.getElem_cons_succ, List.getElem_cons_zero]
  refine wpAnyH_take (i := 19) (v := ?_) rfl (by kernel_rfl) (by kernel_rfl) (by kernel_rfl) (fun _ _ _ h => h) (Or.inl ⟨by rfl, ?_⟩) (by assumption) ?_
  rotate_left
  · intro w' hSw
    skip
    go_simp
    try with_reducible rfl
  try simp only [Act.put, List.setIfInBounds_toArray, List.set_cons_zero, List.set_cons_succ, List.getElem_toArray, List.getElem_cons_succ, List.getElem_cons_zero]
  refine wpAnyH_take (i := 20) (v := ?_) rfl (by kernel_rfl) (by kernel_rfl) (by kernel_rfl) (fun _ _ _ h => h) (Or.inl ⟨by rfl, ?_⟩) (by assumption) ?_
  rotate_left
  · intro w' hSw
    skip
    go_simp
    try with_reducible rfl
  try simp only [Act.put, List.setIfInBounds_toArray, List.set_cons_zero, List.set_cons_succ, List.getElem_toArray, List.getElem_cons_succ, List.getElem_cons_zero]
  refine wpAnyH_ready (rs := [21]) (by kernel_rfl) (by simp) ?_
  refine AllReadyH.cons rfl (fun K hK => ?_) AllReadyH.nil
  go_simp
  refine (text_any _ _ _).mono ?_
  rintro e w15 ⟨rfl, hf15⟩
  refine hK.out _ _ ⟨ff hHeld.1 hf15, hf15.blk hHeld.2 (fun h => h)⟩ (fun hHeld2 => ?_)
  clear hK K hHeld hf15
  rename_i hHeld2
  have hHeld := hHeld2
  clear hHeld2
  try simp only [Act.put, List.setIfInBounds_toArray, List.set_cons_zero, List.set_cons_succ, List.getElem_toArray, List.getElem_cons_succ, List.getElem_cons_zero]
  refine wpAnyH_ready (rs := [24]) (by kernel_rfl) (by simp) ?_
  refine AllReadyH.cons rfl (fun K hK => ?_) AllReadyH.nil
  go_simp
  refine (H24.out _ hHeld.1).mono ?_
  rintro e w16 ⟨rfl, hf16⟩
  refine hK.out _ _ ⟨ff hHeld.1 hf16, hf16.blk hHeld.2 (fun h => h)⟩ (fun hHeld2 => ?_)
  clear hK K hHeld hf16
  rename_i hHeld2
  have hHeld := hHeld2
  clear hHeld2
  try simp only [Act.put, List.setIfInBounds_toArray, List.set_cons_zero, List.set_cons_succ, List.getElem_toArray, List.getElem_cons_succ, List.getElem_cons_zero]
  refine wpAnyH_take (i := 25) (v := ?_) rfl (by kernel_rfl) (by kernel_rfl) (by kernel_rfl) (fun _ _ _ h => h) (Or.inl ⟨by rfl, ?_⟩) (by assumption) ?_
  rotate_left
  · intro w' hSw
    skip
    go_simp
    try with_reducible rfl
  try simp only [Act.put, List.setIfInBounds_toArray, List.set_cons_zero, List.set_cons_succ, List.getElem_toArray, List.getElem_cons_succ, List.getElem_cons_zero]
  refine wpAnyH_take (i := 26) (v := ?_) rfl (by kernel_rfl) (by kernel_rfl) (by kernel_rfl) (fun _ _ _ h => h) (Or.inl ⟨by rfl, ?_⟩) (by assumption) ?_
  rotate_left
  · intro w' hSw
    skip
    go_simp
    try with_reducible rfl
  try simp only [Act.put, List.setIfInBounds_toArray, List.set_cons_zero, List.set_cons_succ, List.getElem_toArray, List.getElem_cons_succ, List.getElem_cons_zero]
  refine wpAnyH_ready (rs := [27]) (by kernel_rfl) (by simp) ?_
  refine AllReadyH.cons rfl (fun K hK => ?_) AllReadyH.nil
  go_simp
  refine (text_any _ _ _).mono ?_
  rintro e w17 ⟨rfl, hf17⟩
  refine hK.out _ _ ⟨ff hHeld.1 hf17, hf17.blk hHeld.2 (fun h => h)⟩ (fun hHeld2 => ?_)
  clear hK K hHeld hf17
  rename_i hHeld2
  have hHeld := hHeld2
  clear hHeld2
  try simp only [Act.put, List.setIfInBounds_toArray, List.set_cons_zero, List.set_cons_succ, List.getElem_toArray, List.getElem_cons_succ, List.getElem_cons_zero]
  refine wpAnyH_ready (rs := [30]) (by kernel_rfl) (by simp) ?_
  refine AllReadyH.cons rfl (fun K hK => ?_) AllReadyH.nil
  go_simp
  refine (H30.out _ hHeld.1).mono ?_
  rintro e w18 ⟨rfl, hf18⟩
  refine hK.out _ _ ⟨ff hHeld.1 hf18, hf18.blk hHeld.2 (fun h => h)⟩ (fun hHeld2 => ?_)
  clear hK K hHeld hf18
  rename_i hHeld2
  have hHeld := hHeld2
  clear hHeld2
  try simp only [Act.put, List.setIfInBounds_toArray, List.set_cons_zero, List.set_cons_succ, List.getElem_toArray, List.getElem_cons_succ, List.getElem_cons_zero]
  refine wpAnyH_take (i := 31) (v := ?_) rfl (by kernel_rfl) (by kernel_rfl) (by kernel_rfl) (fun _ _ _ h => h) (Or.inl ⟨by rfl, ?_⟩) (by assumption) ?_
  rotate_left
  · intro w' hSw
    skip
    go_simp
    try with_reducible rfl
  try simp only [Act.put, List.setIfInBounds_toArray, List.set_cons_zero, List.set_cons_succ, List.getElem_toArray, List.getElem_cons_succ, List.getElem_cons_zero]
  refine wpAnyH_take (i := 32) (v := ?_) rfl (by kernel_rfl) (by kernel_rfl) (by kernel_rfl) (fun _ _ _ h => h) (Or.inl ⟨by rfl, ?_⟩) (by assumption) ?_
  rotate_left
  · intro w' hSw
    skip
    go_simp
    try with_reducible rfl
  try simp only [Act.put, List.setIfInBounds_toArray, List.set_cons_zero, List.set_cons_succ, List.getElem_toArray, List.getElem_cons_succ, List.getElem_cons_zero]
  refine wpAnyH_ready (rs := [33]) (by kernel_rfl) (by simp) ?_
  refine AllReadyH.cons rfl (fun K hK => ?_) AllReadyH.nil
  go_simp
  refine (text_any _ _ _).mono ?_
  rintro e w19 ⟨rfl, hf19⟩
  refine hK.out _ _ ⟨ff hHeld.1 hf19, hf19.blk hHeld.2 (fun h => h)⟩ (fun hHeld2 => ?_)
  clear hK K hHeld hf19
  rename_i hHeld2
  have hHeld := hHeld2
  clear hHeld2
  try simp only [Act.put, List.setIfInBounds_toArray, List.set_cons_zero, List.set_cons_succ, List.getElem_toArray, List.getElem_cons_succ, List.getElem_cons_zero]
  refine wpAnyH_ready (rs := [36]) (by kernel_rfl) (by simp) ?_
  refine AllReadyH.cons rfl (fun K hK => ?_) AllReadyH.nil
  go_simp
  refine (H36.out _).mono ?_
  rintro e w20 ⟨rfl, hf20⟩
  refine hK.out _ _ ⟨ff hHeld.1 hf20, hf20.blk hHeld.2 (fun h => h)⟩ (fun hHeld2 => ?_)
  clear hK K hHeld hf20
  rename_i hHeld2
  have hHeld := hHeld2
  clear hHeld2
  try simp only [Act.put, List.setIfInBounds_toArray, List.set_cons_zero, List.set_cons_succ, List.getElem_toArray, List.getElem_cons_succ, List.getElem_cons_zero]
  refine wpAnyH_ready (rs := [37]) (by kernel_rfl) (by simp) ?_
  refine AllReadyH.cons rfl (fun K hK => ?_) AllReadyH.nil
  go_simp
  have hfn99 := Fr.new w20 (.cells #[strV ruleW, strV r.name, strV t4, strV t9, strV [45], strV t15, strV t18, strV t24, strV t30, strV t36] 9) (fun _ => False)
  refine hK.out _ _ ⟨ff hHeld.1 hfn99, hfn99.blk hHeld.2 (fun h => h)⟩ (fun hHeld2 => ?_)
  clear hK K
  try simp only [Act.put, List.setIfInBounds_toArray, List.set_cons_zero, List.set_cons_succ, List.getElem_toArray, List.getElem_cons_succ, List.getElem_cons_zero]
  refine wpAnyH_take (i := 38) (v := ?_) rfl (by kernel_rfl) (by kernel_rfl) (by kernel_rfl) (fun _ _ _ h => h) (Or.inl ⟨by rfl, ?_⟩) (by assumption) ?_
  rotate_left
  · intro w' hSw
    skip
    go_simp
    try with_reducible rfl
  try simp only [Act.put, List.setIfInBounds_toArray, List.set_cons_zero, List.set_cons_succ, List.getElem_toArray, List.getElem_cons_succ, List.getElem_cons_zero]
  refine wpAnyH_done (by kernel_rfl) ?_ _
  go_wp2_with fail
  go_ret
  have hB := built w.heap.size #[strV ruleW, strV r.name, strV t4, strV t9, strV [45], strV t15, strV t18, strV t24, strV t30, strV t36] [ruleW, r.name, t4, t9, [45], t15, t18, t24, t30, t36] hHeld.1.size rfl (show 10 ≤ maxLen by decide)
  obtain ⟨A, c, hv, hr⟩ := own_slice hB rfl
  injection hv with e1 _ e3
  subst e1 e3
  exact ⟨_, _, rfl, hr, hHeld2.1⟩
end Go.Proofs.YtgcheollgnhdlaaGreatDoor
namespace Go.Proofs.YtgcheollgnhdlaaGreatDoor
open Go.RowKit Go.Mem Go.Lin

set_option maxRecDepth 100000 in
set_option maxHeartbeats 1600000 in
theorem untilTexts_none (u : UntilL) (hh : u.has = false) (w : World) : Calls Tryz.prog 43 #[.agg (tilC u)] w (SPost (tilX u) w) := by
  have c0 := blk_cell (Blk.made w 29 (tilC u)) 0 (.bool u.has) rfl
  rw [hh] at c0
  have HF := Lib.hid (Fr.new w (.cells (tilC u) 29) (fun _ => False))
  have hx : tilX u = [] := by unfold tilX; rw [hh]; rfl
  rw [hx]
  go_enter Tryz.func43, Tryz.ntmps43
  go_wp2_with fail
  go_ret
  exact ⟨none, 0, rfl, Rd.zero _ _ _, HF.out⟩
theorem built_cut {w : World} (base : Nat) (cs : Array Value) (ls : List Bs) (k : Nat) (hb : base ≤ w.heap.size) (hc : cs.toList = ls.map strV) (hl : ls.length ≤ maxLen) (hk : k ≤ ls.length) : (w.alloc (.cells cs 9)).ownsRow base 9 1 (.slice (some ⟨w.heap.size, 0, none⟩) k ls.length) k ((ls.take k).map strV) := by
  have hs : cs.size = ls.length := by rw [← Array.length_toList, hc, List.length_map]
  refine ⟨by simp; omega, .inr ⟨w.heap.size, ls.length, cs, rfl, hb, Blk.made w 9 cs, hk, hl, by omega, ?_⟩⟩
  rw [hc, Nat.mul_one, List.map_take]
set_option maxRecDepth 100000 in
set_option maxHeartbeats 6400000 in
theorem untilTexts_some (u : UntilL) (hh : u.has = true) (hy : inR u.year) (w : World) (hw : LOk w) : Calls Tryz.prog 43 #[.agg (tilC u)] w (SPost (tilX u) w) := by
  have hf := Fr.new w (.cells (tilC u) 29) (fun _ => False)
  have c0 := blk_cell (Blk.made w 29 (tilC u)) 0 (.bool u.has) rfl
  rw [hh] at c0
  have HB := Lib.hid (Blk.made w 29 (tilC u))
  have HF := Lib.hid hf
  have HW := Lib.hid (fun (W : World) (f : Fr w W (fun _ => False)) => hw.fr f)
  have hx : tilX u = (til4 u).take (tilN u) := by unfold tilX; rw [if_pos hh]
  rw [hx]
  unfold til4
  obtain ⟨t2, h2⟩ : ∃ t, Go.Lib.itoa u.year = t := ⟨_, rfl⟩
  obtain ⟨t5, h5⟩ : ∃ t, Go.Kwd.showMonthD u.month = t := ⟨_, rfl⟩
  obtain ⟨⟨t8, k8⟩, h8⟩ : ∃ t, dayS u.on = t := ⟨_, rfl⟩
  obtain ⟨⟨t14, k14⟩, h14⟩ : ∃ t, timeS u.at_ = t := ⟨_, rfl⟩
  have H2 := Lib.hid (fun (W : World) (f : Fr w W (fun _ => False)) => (show Calls Tryz.prog 34 #[intV u.year] W fun e w' => e = .returned (strV t2) ∧ Fr W w' (fun _ => False) by rw [← h2]; exact S6.Itoa_any u.year hy.1 hy.2 W (HW.out W f).base))
  have H5 := Lib.hid (fun W => showMonth_any u.month W t5 h5)
  have H8 := Lib.hid (fun (W : World) (f : Fr w W (fun _ => False)) => (show Calls Tryz.prog 38 #[.agg (dayC u.on)] W fun e w' => e = .returned (.tuple #[strV t8, intV k8]) ∧ Fr W w' (fun _ => False) from showDay_any u.on W (HW.out W f) t8 k8 h8))
  have H14 := Lib.hid (fun (W : World) (f : Fr w W (fun _ => False)) => (show Calls Tryz.prog 39 #[.agg (atC u.at_)] W fun e w' => e = .returned (.tuple #[strV t14, intV k14]) ∧ Fr W w' (fun _ => False) from showTime_any u.at_ W (HW.out W f) t14 k14 h14))
  have HN := Lib.hid (show tilN u = if u.at_ ≠ atZ then 4 else if u.on ≠ day1 then 3 else if u.month ≠ 1 then 2 else 1 from rfl)
  obtain ⟨xa, hxa⟩ : ∃ x, (!decide (u.at_ = atZ)) = x := ⟨_, rfl⟩
  obtain ⟨xd, hxd⟩ : ∃ x, (!decide (u.on = day1)) = x := ⟨_, rfl⟩
  have EA : ∀ w, (binOp .neq 25 (.agg (atC u.at_)) (.agg (atC atZ))).run Tryz.prog w = .ok (.bool xa) w := fun w => by rw [← hxa]; exact neq_at u.at_ atZ w
  have ED : ∀ w, (binOp .neq 23 (.agg (dayC u.on)) (.agg (dayC day1))).run Tryz.prog w = .ok (.bool xd) w := fun w => by rw [← hxd]; exact neq_day u.on day1 w
  obtain ⟨xm, hxm⟩ : ∃ x, (u.month == 1) = x := ⟨_, rfl⟩
  obtain ⟨N, hN⟩ : ∃ N, tilN u = N := ⟨_, rfl⟩
  have HK := Lib.hid (show N = if xa = true then 4 else if xd = true then 3 else if xm = false then 2 else 1 by
    rw [← hN, HN.out, ← hxa, ← hxd, ← hxm]
    by_cases e1 : u.at_ = atZ
    · by_cases e2 : u.on = day1
      · by_cases e3 : u.month = 1 <;> simp [e1, e2, e3]
      · simp [e1, e2]
    · simp [e1])
  rw [h2, h5, h8, h14, hN]
  clear h2 h5 h8 h14 hw hy hf hxa hxd hN HN hx
  go_enter Tryz.func43, Tryz.ntmps43
  go_wp2_with fail
  refine wp_region_held_drew (S := fun w' => Fr w w' (fun _ => False) ∧ Blk w' w.heap.size 29 (tilC u)) (by kernel_rfl) (⟨ff HF.out (Fr.drew _ _), (Fr.drew _ (fun _ => False)).blk HB.out (fun h => h)⟩) (fun hHeld => ?_)
  refine wpAnyH_take (i := 0) (v := ?_) rfl (by kernel_rfl) (by kernel_rfl) (by kernel_rfl) (fun _ _ _ h => h) (Or.inl ⟨by rfl, ?_⟩) (by assumption) ?_
  rotate_left
  · intro w' hSw
    have k1 := blk_cell hSw.2 1 (intV u.year) rfl; have k2 := blk_cell hSw.2 2 (intV u.month) rfl
    go_simp
    try with_reducible rfl
  try simp only [Act.put, List.setIfInBounds_toArray, List.set_cons_zero, List.set_cons_succ, List.getElem_toArray, List.getElem_cons_zero]
  refine wpAnyH_take (i := 1) (v := ?_) rfl (by kernel_rfl) (by kernel_rfl) (by kernel_rfl) (fun _ _ _ h => h) (Or.inl ⟨by rfl, ?_⟩) (by assumption) ?_
  rotate_left
  · intro w' hSw
    have k1 := blk_cell hSw.2 1 (intV u.year) rfl; have k2 := blk_cell hSw.2 2 (intV u.month) rfl
    go_simp
    try with_reducible rfl
  try simp only [Act.put, List.setIfInBounds_toArray, List.set_cons_zero, List.set_cons_succ, List.getElem_toArray, List.getElem_cons_succ, List.getElem_cons_zero]
  refine wpAnyH_take (i := 3) (v := ?_) rfl (by kernel_rfl) (by kernel_rfl) (by kernel_rfl) (fun _ _ _ h => h) (Or.inl ⟨by rfl, ?_⟩) (by assumption) ?_
  rotate_left
  · intro w' hSw
    have k1 := blk_cell hSw.2 1 (intV u.year) rfl; have k2 := blk_cell hSw.2 2 (intV u.month) rfl
    go_simp
    try with_reducible rfl
  try simp only [Act.put, List.setIfInBounds_toArray, List.set_cons_zero, List.set_cons_succ, List.getElem_toArray, List.getElem_cons_succ, List.getElem_cons_zero]
  refine wpAnyH_take (i := 4) (v := ?_) rfl (by kernel_rfl) (by kernel_rfl) (by kernel_rfl) (fun _ _ _ h => h) (Or.inl ⟨by rfl, ?_⟩) (by assumption) ?_
  rotate_left
  · intro w' hSw
    have k1 := blk_cell hSw.2 1 (intV u.year) rfl; have k2 := blk_cell hSw.2 2 (intV u.month) rfl
    go_simp
    try with_reducible rfl
  try simp only [Act.put, List.setIfInBounds_toArray, List.set_cons_zero, List.set_cons_succ, List.getElem_toArray, List.getElem_cons_succ, List.getElem_cons_zero]
  refine wpAnyH_take (i := 6) (v := ?_) rfl (by kernel_rfl) (by kernel_rfl) (by kernel_rfl) (fun _ _ _ h => h) (Or.inl ⟨by rfl, ?_⟩) (by assumption) ?_
  rotate_left
  · intro w' hSw
    have k1 := blk_cell hSw.2 1 (intV u.year) rfl; have k2 := blk_cell hSw.2 2 (intV u.month) rfl
    go_simp
    try with_reducible rfl
  try simp only [Act.put, List.setIfInBounds_toArray, List.set_cons_zero, List.set_cons_succ, List.getElem_toArray, List.getElem_cons_succ, List.getElem_cons_zero]
  refine wpAnyH_take (i := 7) (v := _) rfl (by kernel_rfl) (by kernel_rfl) (by kernel_rfl) (fun _ _ _ h => h) (yields_blk 23 _ w.heap.size 3 29 (tilC u) (dayC u.on) _ (by rfl) rfl rfl (fun _ h => h.2) Tryz.underlying23 rfl (infoD _) (part_u3 _)) (by assumption) ?_
  try simp only [Act.put, List.setIfInBounds_toArray, List.set_cons_zero, List.set_cons_succ, List.getElem_toArray, List.getElem_cons_succ, List.getElem_cons_zero]
  refine wpAnyH_take (i := 12) (v := ?_) rfl (by kernel_rfl) (by kernel_rfl) (by kernel_rfl) (fun _ _ _ h => h) (Or.inl ⟨by rfl, ?_⟩) (by assumption) ?_
  rotate_left
  · intro w' hSw
    have k1 := blk_cell hSw.2 1 (intV u.year) rfl; have k2 := blk_cell hSw.2 2 (intV u.month) rfl
    go_simp
    try with_reducible rfl
  try simp only [Act.put, List.setIfInBounds_toArray, List.set_cons_zero, List.set_cons_succ, List.getElem_toArray, List.getElem_cons_succ, List.getElem_cons_zero]
  refine wpAnyH_take (i := 13) (v := _) rfl (by kernel_rfl) (by kernel_rfl) (by kernel_rfl) (fun _ _ _ h => h) (yields_blk 25 _ w.heap.size 6 29 (tilC u) (atC u.at_) _ (by rfl) rfl rfl (fun _ h => h.2) Tryz.underlying25 rfl (infoA _) (part_u6 _)) (by assumption) ?_
  try simp only [Act.put, List.setIfInBounds_toArray, List.set_cons_zero, List.set_cons_succ, List.getElem_toArray, List.getElem_cons_succ, List.getElem_cons_zero]
  refine wpAnyH_ready (rs := [2]) (by kernel_rfl) (by simp) ?_
  refine AllReadyH.cons rfl (fun K hK => ?_) AllReadyH.nil
  go_simp
  refine (H2.out _ hHeld.1).mono ?_
  rintro e w10 ⟨rfl, hf10⟩
  refine hK.out _ _ ⟨ff hHeld.1 hf10, hf10.blk hHeld.2 (fun h => h)⟩ (fun hHeld2 => ?_)
  clear hK K hHeld hf10
  rename_i hHeld2
  have hHeld := hHeld2
  clear hHeld2
  try simp only [Act.put, List.setIfInBounds_toArray, List.set_cons_zero, List.set_cons_succ, List.getElem_toArray, List.getElem_cons_succ, List.getElem_cons_zero]
  refine wpAnyH_ready (rs := [5]) (by kernel_rfl) (by simp) ?_
  refine AllReadyH.cons rfl (fun K hK => ?_) AllReadyH.nil
  go_simp
  refine (H5.out _).mono ?_
  rintro e w11 ⟨rfl, hf11⟩
  refine hK.out _ _ ⟨ff hHeld.1 hf11, hf11.blk hHeld.2 (fun h => h)⟩ (fun hHeld2 => ?_)
  clear hK K hHeld hf11
  rename_i hHeld2
  have hHeld := hHeld2
  clear hHeld2
  try simp only [Act.put, List.setIfInBounds_toArray, List.set_cons_zero, List.set_cons_succ, List.getElem_toArray, List.getElem_cons_succ, List.getElem_cons_zero]
  refine wpAnyH_ready (rs := [8]) (by kernel_rfl) (by simp) ?_
  refine AllReadyH.cons rfl (fun K hK => ?_) AllReadyH.nil
  go_simp
  refine (H8.out _ hHeld.1).mono ?_
  rintro e w12 ⟨rfl, hf12⟩
  refine hK.out _ _ ⟨ff hHeld.1 hf12, hf12.blk hHeld.2 (fun h => h)⟩ (fun hHeld2 => ?_)
  clear hK K hHeld hf12
  rename_i hHeld2
  have hHeld := hHeld2
  clear hHeld2
  try simp only [Act.put, List.setIfInBounds_toArray, List.set_cons_zero, List.set_cons_succ, List.getElem_toArray, List.getElem_cons_succ, List.getElem_cons_zero]
  refine wpAnyH_take (i := 9) (v := ?_) rfl (by kernel_rfl) (by kernel_rfl) (by kernel_rfl) (fun _ _ _ h => h) (Or.inl ⟨by rfl, ?_⟩) (by assumption) ?_
  rotate_left
  · intro w' hSw
    skip
    go_simp
    try with_reducible rfl
  try simp only [Act.put, List.setIfInBounds_toArray, List.set_cons_zero, List.set_cons_succ, List.getElem_toArray, List.getElem_cons_succ, List.getElem_cons_zero]
  refine wpAnyH_take (i := 10) (v := ?_) rfl (by kernel_rfl) (by kernel_rfl) (by kernel_rfl) (fun _ _ _ h => h) (Or.inl ⟨by rfl, ?_⟩) (by assumption) ?_
  rotate_left
  · intro w' hSw
    skip
    go_simp
    try with_reducible rfl
  try simp only [Act.put, List.setIfInBounds_toArray, List.set_cons_zero, List.set_cons_succ, List.getElem_toArray, List.getElem_cons_succ, List.getElem_cons_zero]
  refine wpAnyH_ready (rs := [11]) (by kernel_rfl) (by simp) ?_
  refine AllReadyH.cons rfl (fun K hK => ?_) AllReadyH.nil
  go_simp
  refine (text_any _ _ _).mono ?_
  rintro e w13 ⟨rfl, hf13⟩
  refine hK.out _ _ ⟨ff hHeld.1 hf13, hf13.blk hHeld.2 (fun h => h)⟩ (fun hHeld2 => ?_)
  clear hK K hHeld hf13
  rename_i hHeld2
  have hHeld := hHeld2
  clear hHeld2
  try simp only [Act.put, List.setIfInBounds_toArray, List.set_cons_zero, List.set_cons_succ, List.getElem_toArray, List.getElem_cons_succ, List.getElem_cons_zero]
  refine wpAnyH_ready (rs := [14]) (by kernel_rfl) (by simp) ?_
  refine AllReadyH.cons rfl (fun K hK => ?_) AllReadyH.nil
  go_simp
  refine (H14.out _ hHeld.1).mono ?_
  rintro e w14 ⟨rfl, hf14⟩
  refine hK.out _ _ ⟨ff hHeld.1 hf14, hf14.blk hHeld.2 (fun h => h)⟩ (fun hHeld2 => ?_)
  clear hK K hHeld hf14
  rename_i hHeld2
  have hHeld := hHeld2
  clear hHeld2
  try simp only [Act.put, List.setIfInBounds_toArray, List.set_cons_zero, List.set_cons_succ, List.getElem_toArray, List.getElem_cons_succ, List.getElem_cons_zero]
  refine wpAnyH_take (i := 15) (v := ?_) rfl (by kernel_rfl) (by kernel_rfl) (by kernel_rfl) (fun _ _ _ h => h) (Or.inl ⟨by rfl, ?_⟩) (by assumption) ?_
  rotate_left
  · intro w' hSw
    skip
    go_simp
    try with_reducible rfl
  try simp only [Act.put, List.setIfInBounds_toArray, List.set_cons_zero, List.set_cons_succ, List.getElem_toArray, List.getElem_cons_succ, List.getElem_cons_zero]
  refine wpAnyH_take (i := 16) (v := ?_) rfl (by kernel_rfl) (by kernel_rfl) (by kernel_rfl) (fun _ _ _ h => h) (Or.inl ⟨by rfl, ?_⟩) (by assumption) ?_
  rotate_left
  · intro w' hSw
    skip
    go_simp
    try with_reducible rfl
  try simp only [Act.put, List.setIfInBounds_toArray, List.set_cons_zero, List.set_cons_succ, List.getElem_toArray, List.getElem_cons_succ, List.getElem_cons_zero]
  refine wpAnyH_ready (rs := [17]) (by kernel_rfl) (by simp) ?_
  refine AllReadyH.cons rfl (fun K hK => ?_) AllReadyH.nil
  go_simp
  refine (text_any _ _ _).mono ?_
  rintro e w15 ⟨rfl, hf15⟩
  refine hK.out _ _ ⟨ff hHeld.1 hf15, hf15.blk hHeld.2 (fun h => h)⟩ (fun hHeld2 => ?_)
  clear hK K hHeld hf15
  rename_i hHeld2
  have hHeld := hHeld2
  clear hHeld2
  try simp only [Act.put, List.setIfInBounds_toArray, List.set_cons_zero, List.set_cons_succ, List.getElem_toArray, List.getElem_cons_succ, List.getElem_cons_zero]
  refine wpAnyH_ready (rs := [18]) (by kernel_rfl) (by simp) ?_
  refine AllReadyH.cons rfl (fun K hK => ?_) AllReadyH.nil
  go_simp
  have hfn99 := Fr.new w15 (.cells #[strV t2, strV t5, strV t8, strV t14] 9) (fun _ => False)
  refine hK.out _ _ ⟨ff hHeld.1 hfn99, hfn99.blk hHeld.2 (fun h => h)⟩ (fun hHeld2 => ?_)
  clear hK K
  try simp only [Act.put, List.setIfInBounds_toArray, List.set_cons_zero, List.set_cons_succ, List.getElem_toArray, List.getElem_cons_succ, List.getElem_cons_zero]
  refine wpAnyH_take (i := 19) (v := ?_) rfl (by kernel_rfl) (by kernel_rfl) (by kernel_rfl) (fun _ _ _ h => h) (Or.inl ⟨by rfl, ?_⟩) (by assumption) ?_
  rotate_left
  · intro w' hSw
    skip
    go_simp
    try with_reducible rfl
  try simp only [Act.put, List.setIfInBounds_toArray, List.set_cons_zero, List.set_cons_succ, List.getElem_toArray, List.getElem_cons_succ, List.getElem_cons_zero]
  refine wpAnyH_done (by kernel_rfl) ?_ _
  have cy := blk_cell hHeld2.2 1 (intV u.year) rfl
  have hown := built_cut w.heap.size #[strV t2, strV t5, strV t8, strV t14] [t2, t5, t8, t14] N hHeld.1.size rfl (show 4 ≤ maxLen by decide) (by show N ≤ 4; rw [HK.out]; cases xa <;> cases xd <;> cases xm <;> decide)
  have HOwn := Lib.hid hown
  have HH2 := Lib.hid hHeld2
  have hsw := hHeld.1.size
  clear hown hHeld hHeld2 H2 H5 H8 H14 hfn99 c0
  go_wp2_with fail
  refine (onlyYear_any _ _).mono ?_
  rintro e w4 ⟨rfl, hf4⟩
  have hs4 := hf4.size
  simp at hs4
  have HU4 := Lib.hid (hf4.blk HH2.out.2 (fun h => h))
  have HF4 := Lib.hid (ff HH2.out.1 hf4)
  have HO4 := Lib.hid (Fr.own hf4 HOwn.out (fun _ _ h => h))
  clear hf4 cy HOwn HH2
  cases xa with
  | true =>
    go_wp2_with (first
      | (
        refine wpList_store_blk 29 _ _ w4.heap.size 0 29 (tilC tilZ) (tilC ⟨true, u.year, 1, day1, atZ⟩) (tilC ⟨true, u.year, 1, day1, atZ⟩) (by rfl) rfl rfl rfl rfl (Blk.made w4 29 (tilC tilZ)) (infoT _) (tilC_one _) (show 0 + 8 ≤ 8 by decide) (put_ua _ _) ?_
        intro w5 hf5 hb5
        have hf45 := (Fr.new w4 (.cells (tilC tilZ) 29) (fun _ => False)).fresh hf5 (fun i e => by omega)
        have HU5 := Lib.hid (hf45.blk HU4.out (fun h => h))
        have HG5 := Lib.hid hb5
        have cm := blk_cell HU5.out 2 (intV u.month) rfl
        have cg := blk_cell HG5.out 2 (intV 1) rfl
        have HF5 := Lib.hid (ff HF4.out hf45)
        have HO5 := Lib.hid (Fr.own hf45 HO4.out (fun _ _ h => h))
        clear hf5 hb5 hf45 HU4 HF4 HO4)
      | (refine wpList_load_blk 25 _ w.heap.size 6 29 (tilC u) (atC u.at_) _ (by rfl) rfl rfl HU5.out Tryz.underlying25 rfl (infoA _) (part_u6 u) ?_)
      | (refine wpList_load_blk 25 _ w4.heap.size 6 29 (tilC ⟨true, u.year, 1, day1, atZ⟩) (atC atZ) _ (by rfl) rfl rfl HG5.out Tryz.underlying25 rfl (infoA _) (part_u6 ⟨true, u.year, 1, day1, atZ⟩) ?_))
    obtain rfl : N = 4 := HK.out
    go_ret
    obtain ⟨A, c, h1, -, -, h2, -⟩ := own_rd HO5.out
    injection h1 with e1 _ e3
    subst e1 e3
    exact ⟨_, _, rfl, h2, HF5.out⟩
  | false =>
    cases xd with
    | true =>
      go_wp2_with (first
        | (
          refine wpList_store_blk 29 _ _ w4.heap.size 0 29 (tilC tilZ) (tilC ⟨true, u.year, 1, day1, atZ⟩) (tilC ⟨true, u.year, 1, day1, atZ⟩) (by rfl) rfl rfl rfl rfl (Blk.made w4 29 (tilC tilZ)) (infoT _) (tilC_one _) (show 0 + 8 ≤ 8 by decide) (put_ua _ _) ?_
          intro w5 hf5 hb5
          have hf45 := (Fr.new w4 (.cells (tilC tilZ) 29) (fun _ => False)).fresh hf5 (fun i e => by omega)
          have HU5 := Lib.hid (hf45.blk HU4.out (fun h => h))
          have HG5 := Lib.hid hb5
          have cm := blk_cell HU5.out 2 (intV u.month) rfl
          have cg := blk_cell HG5.out 2 (intV 1) rfl
          have HF5 := Lib.hid (ff HF4.out hf45)
          have HO5 := Lib.hid (Fr.own hf45 HO4.out (fun _ _ h => h))
          clear hf5 hb5 hf45 HU4 HF4 HO4)
        | (refine wpList_load_blk 25 _ w.heap.size 6 29 (tilC u) (atC u.at_) _ (by rfl) rfl rfl HU5.out Tryz.underlying25 rfl (infoA _) (part_u6 u) ?_)
        | (refine wpList_load_blk 25 _ w4.heap.size 6 29 (tilC ⟨true, u.year, 1, day1, atZ⟩) (atC atZ) _ (by rfl) rfl rfl HG5.out Tryz.underlying25 rfl (infoA _) (part_u6 ⟨true, u.year, 1, day1, atZ⟩) ?_)
        | (refine wpList_load_blk 23 _ w.heap.size 3 29 (tilC u) (dayC u.on) _ (by rfl) rfl rfl HU5.out Tryz.underlying23 rfl (infoD _) (part_u3 u) ?_)
        | (refine wpList_load_blk 23 _ w4.heap.size 3 29 (tilC ⟨true, u.year, 1, day1, atZ⟩) (dayC day1) _ (by rfl) rfl rfl HG5.out Tryz.underlying23 rfl (infoD _) (part_u3 ⟨true, u.year, 1, day1, atZ⟩) ?_))
      obtain rfl : N = 3 := HK.out
      go_ret
      obtain ⟨A, c, h1, -, -, h2, -⟩ := own_rd HO5.out
      injection h1 with e1 _ e3
      subst e1 e3
      exact ⟨_, _, rfl, h2, HF5.out⟩
    | false =>
      cases xm with
      | true =>
        go_wp2_with (first
          | (
            refine wpList_store_blk 29 _ _ w4.heap.size 0 29 (tilC tilZ) (tilC ⟨true, u.year, 1, day1, atZ⟩) (tilC ⟨true, u.year, 1, day1, atZ⟩) (by rfl) rfl rfl rfl rfl (Blk.made w4 29 (tilC tilZ)) (infoT _) (tilC_one _) (show 0 + 8 ≤ 8 by decide) (put_ua _ _) ?_
            intro w5 hf5 hb5
            have hf45 := (Fr.new w4 (.cells (tilC tilZ) 29) (fun _ => False)).fresh hf5 (fun i e => by omega)
            have HU5 := Lib.hid (hf45.blk HU4.out (fun h => h))
            have HG5 := Lib.hid hb5
            have cm := blk_cell HU5.out 2 (intV u.month) rfl
            have cg := blk_cell HG5.out 2 (intV 1) rfl
            have HF5 := Lib.hid (ff HF4.out hf45)
            have HO5 := Lib.hid (Fr.own hf45 HO4.out (fun _ _ h => h))
            clear hf5 hb5 hf45 HU4 HF4 HO4)
          | (refine wpList_load_blk 25 _ w.heap.size 6 29 (tilC u) (atC u.at_) _ (by rfl) rfl rfl HU5.out Tryz.underlying25 rfl (infoA _) (part_u6 u) ?_)
          | (refine wpList_load_blk 25 _ w4.heap.size 6 29 (tilC ⟨true, u.year, 1, day1, atZ⟩) (atC atZ) _ (by rfl) rfl rfl HG5.out Tryz.underlying25 rfl (infoA _) (part_u6 ⟨true, u.year, 1, day1, atZ⟩) ?_)
          | (refine wpList_load_blk 23 _ w.heap.size 3 29 (tilC u) (dayC u.on) _ (by rfl) rfl rfl HU5.out Tryz.underlying23 rfl (infoD _) (part_u3 u) ?_)
          | (refine wpList_load_blk 23 _ w4.heap.size 3 29 (tilC ⟨true, u.year, 1, day1, atZ⟩) (dayC day1) _ (by rfl) rfl rfl HG5.out Tryz.underlying23 rfl (infoD _) (part_u3 ⟨true, u.year, 1, day1, atZ⟩) ?_))
        obtain rfl : N = 1 := HK.out
        go_ret
        obtain ⟨A, c, h1, -, -, h2, -⟩ := own_rd HO5.out
        injection h1 with e1 _ e3
        subst e1 e3
        exact ⟨_, _, rfl, h2, HF5.out⟩
      | false =>
        go_wp2_with (first
          | (
            refine wpList_store_blk 29 _ _ w4.heap.size 0 29 (tilC tilZ) (tilC ⟨true, u.year, 1, day1, atZ⟩) (tilC ⟨true, u.year, 1, day1, atZ⟩) (by rfl) rfl rfl rfl rfl (Blk.made w4 29 (tilC tilZ)) (infoT _) (tilC_one _) (show 0 + 8 ≤ 8 by decide) (put_ua _ _) ?_
            intro w5 hf5 hb5
            have hf45 := (Fr.new w4 (.cells (tilC tilZ) 29) (fun _ => False)).fresh hf5 (fun i e => by omega)
            have HU5 := Lib.hid (hf45.blk HU4.out (fun h => h))
            have HG5 := Lib.hid hb5
            have cm := blk_cell HU5.out 2 (intV u.month) rfl
            have cg := blk_cell HG5.out 2 (intV 1) rfl
            have HF5 := Lib.hid (ff HF4.out hf45)
            have HO5 := Lib.hid (Fr.own hf45 HO4.out (fun _ _ h => h))
            clear hf5 hb5 hf45 HU4 HF4 HO4)
          | (refine wpList_load_blk 25 _ w.heap.size 6 29 (tilC u) (atC u.at_) _ (by rfl) rfl rfl HU5.out Tryz.underlying25 rfl (infoA _) (part_u6 u) ?_)
          | (refine wpList_load_blk 25 _ w4.heap.size 6 29 (tilC ⟨true, u.year, 1, day1, atZ⟩) (atC atZ) _ (by rfl) rfl rfl HG5.out Tryz.underlying25 rfl (infoA _) (part_u6 ⟨true, u.year, 1, day1, atZ⟩) ?_)
          | (refine wpList_load_blk 23 _ w.heap.size 3 29 (tilC u) (dayC u.on) _ (by rfl) rfl rfl HU5.out Tryz.underlying23 rfl (infoD _) (part_u3 u) ?_)
          | (refine wpList_load_blk 23 _ w4.heap.size 3 29 (tilC ⟨true, u.year, 1, day1, atZ⟩) (dayC day1) _ (by rfl) rfl rfl HG5.out Tryz.underlying23 rfl (infoD _) (part_u3 ⟨true, u.year, 1, day1, atZ⟩) ?_))
        obtain rfl : N = 2 := HK.out
        go_ret
        obtain ⟨A, c, h1, -, -, h2, -⟩ := own_rd HO5.out
        injection h1 with e1 _ e3
        subst e1 e3
        exact ⟨_, _, rfl, h2, HF5.out⟩
theorem untilTexts_any (u : UntilL) (hy : inR u.year) (w : World) (hw : LOk w) : Calls Tryz.prog 43 #[.agg (tilC u)] w (SPost (tilX u) w) := by
  cases hh : u.has with
  | false => exact untilTexts_none u hh w
  | true => exact untilTexts_some u hh hy w hw
end Go.Proofs.YtgcheollgnhdlaaGreatDoor
namespace Go.Proofs.YtgcheollgnhdlaaGreatDoor
open Go.RowKit Go.Mem Go.Lin

set_option maxRecDepth 100000 in
set_option maxHeartbeats 6400000 in
theorem eraTexts_any (e : EraL) (hy : inR e.til.year) (w : World) (hw : LOk w) : Calls Tryz.prog 24 #[.agg (eraC e)] w (SPost (eraX e) w) := by
  have hf := Fr.new w (.cells (eraC e) 31) (fun _ => False)
  have HB := Lib.hid (Blk.made w 31 (eraC e))
  have HF := Lib.hid hf
  have HW := Lib.hid (fun (W : World) (f : Fr w W (fun _ => False)) => hw.fr f)
  obtain ⟨i0, hi0, hz0, hz1, hz2⟩ := info_parts S8.infoS
  unfold eraX era3
  have hXl := til_len e.til
  obtain ⟨⟨t2, k2⟩, h2⟩ : ∃ t, amtS e.off = t := ⟨_, rfl⟩
  obtain ⟨t7, h7⟩ : ∃ t, rulesX e = t := ⟨_, rfl⟩
  have H2 := Lib.hid (fun (W : World) (f : Fr w W (fun _ => False)) => showAmount_any e.off W (HW.out W f) t2 k2 h2)
  have H7 := Lib.hid (fun (W : World) (f : Fr w W (fun _ => False)) => rulesText_any e W (HW.out W f) t7 h7)
  have H13 := Lib.hid (fun (W : World) (f : Fr w W (fun _ => False)) => untilTexts_any e.til hy W (HW.out W f))
  obtain ⟨X, hX⟩ : ∃ X, tilX e.til = X := ⟨_, rfl⟩
  rw [hX] at hXl H13 ⊢
  rw [h2, h7]
  clear h2 h7 hX hw hy hf
  go_enter Tryz.func24, Tryz.ntmps24
  go_wp2_with fail
  refine wp_region_held_drew (S := fun w' => Fr w w' (fun _ => False) ∧ Blk w' w.heap.size 31 (eraC e)) (by kernel_rfl) (⟨ff HF.out (Fr.drew _ _), (Fr.drew _ (fun _ => False)).blk HB.out (fun h => h)⟩) (fun hHeld => ?_)
  refine wpAnyH_take (i := 0) (v := ?_) rfl (by kernel_rfl) (by kernel_rfl) (by kernel_rfl) (fun _ _ _ h => h) (Or.inl ⟨by rfl, ?_⟩) (by assumption) ?_
  rotate_left
  · intro w' hSw
    have k0 := blk_cell hSw.2 0 (intV e.off) rfl; have k4 := blk_cell hSw.2 4 (strV e.format) rfl
    go_simp
    try with_reducible rfl
  try simp only [Act.put, List.setIfInBounds_toArray, List.set_cons_zero, List.set_cons_succ, List.getElem_toArray, List.getElem_cons_zero]
  refine wpAnyH_take (i := 1) (v := ?_) rfl (by kernel_rfl) (by kernel_rfl) (by kernel_rfl) (fun _ _ _ h => h) (Or.inl ⟨by rfl, ?_⟩) (by assumption) ?_
  rotate_left
  · intro w' hSw
    have k0 := blk_cell hSw.2 0 (intV e.off) rfl; have k4 := blk_cell hSw.2 4 (strV e.format) rfl
    go_simp
    try with_reducible rfl
  try simp only [Act.put, List.setIfInBounds_toArray, List.set_cons_zero, List.set_cons_succ, List.getElem_toArray, List.getElem_cons_succ, List.getElem_cons_zero]
  refine wpAnyH_take (i := 6) (v := _) rfl (by kernel_rfl) (by kernel_rfl) (by kernel_rfl) (fun _ _ _ h => h) (yields_blk 31 _ w.heap.size 0 31 (eraC e) (eraC e) _ (by rfl) rfl rfl (fun _ h => h.2) Tryz.underlying31 rfl (infoE _) (zero_part _)) (by assumption) ?_
  try simp only [Act.put, List.setIfInBounds_toArray, List.set_cons_zero, List.set_cons_succ, List.getElem_toArray, List.getElem_cons_succ, List.getElem_cons_zero]
  refine wpAnyH_take (i := 8) (v := ?_) rfl (by kernel_rfl) (by kernel_rfl) (by kernel_rfl) (fun _ _ _ h => h) (Or.inl ⟨by rfl, ?_⟩) (by assumption) ?_
  rotate_left
  · intro w' hSw
    have k0 := blk_cell hSw.2 0 (intV e.off) rfl; have k4 := blk_cell hSw.2 4 (strV e.format) rfl
    go_simp
    try with_reducible rfl
  try simp only [Act.put, List.setIfInBounds_toArray, List.set_cons_zero, List.set_cons_succ, List.getElem_toArray, List.getElem_cons_succ, List.getElem_cons_zero]
  refine wpAnyH_take (i := 9) (v := ?_) rfl (by kernel_rfl) (by kernel_rfl) (by kernel_rfl) (fun _ _ _ h => h) (Or.inl ⟨by rfl, ?_⟩) (by assumption) ?_
  rotate_left
  · intro w' hSw
    have k0 := blk_cell hSw.2 0 (intV e.off) rfl; have k4 := blk_cell hSw.2 4 (strV e.format) rfl
    go_simp
    try with_reducible rfl
  try simp only [Act.put, List.setIfInBounds_toArray, List.set_cons_zero, List.set_cons_succ, List.getElem_toArray, List.getElem_cons_succ, List.getElem_cons_zero]
  refine wpAnyH_take (i := 11) (v := ?_) rfl (by kernel_rfl) (by kernel_rfl) (by kernel_rfl) (fun _ _ _ h => h) (Or.inl ⟨by rfl, ?_⟩) (by assumption) ?_
  rotate_left
  · intro w' hSw
    have k0 := blk_cell hSw.2 0 (intV e.off) rfl; have k4 := blk_cell hSw.2 4 (strV e.format) rfl
    go_simp
    try with_reducible rfl
  try simp only [Act.put, List.setIfInBounds_toArray, List.set_cons_zero, List.set_cons_succ, List.getElem_toArray, List.getElem_cons_succ, List.getElem_cons_zero]
  refine wpAnyH_take (i := 12) (v := _) rfl (by kernel_rfl) (by kernel_rfl) (by kernel_rfl) (fun _ _ _ h => h) (yields_blk 29 _ w.heap.size 5 31 (eraC e) (tilC e.til) _ (by rfl) rfl rfl (fun _ h => h.2) Tryz.underlying29 rfl (infoT _) (part_e5 _)) (by assumption) ?_
  try simp only [Act.put, List.setIfInBounds_toArray, List.set_cons_zero, List.set_cons_succ, List.getElem_toArray, List.getElem_cons_succ, List.getElem_cons_zero]
  refine wpAnyH_ready (rs := [2]) (by kernel_rfl) (by simp) ?_
  refine AllReadyH.cons rfl (fun K hK => ?_) AllReadyH.nil
  go_simp
  refine (H2.out _ hHeld.1).mono ?_
  rintro e w10 ⟨rfl, hf10⟩
  refine hK.out _ _ ⟨ff hHeld.1 hf10, hf10.blk hHeld.2 (fun h => h)⟩ (fun hHeld2 => ?_)
  clear hK K hHeld hf10
  rename_i hHeld2
  have hHeld := hHeld2
  clear hHeld2
  try simp only [Act.put, List.setIfInBounds_toArray, List.set_cons_zero, List.set_cons_succ, List.getElem_toArray, List.getElem_cons_succ, List.getElem_cons_zero]
  refine wpAnyH_take (i := 3) (v := ?_) rfl (by kernel_rfl) (by kernel_rfl) (by kernel_rfl) (fun _ _ _ h => h) (Or.inl ⟨by rfl, ?_⟩) (by assumption) ?_
  rotate_left
  · intro w' hSw
    skip
    go_simp
    try with_reducible rfl
  try simp only [Act.put, List.setIfInBounds_toArray, List.set_cons_zero, List.set_cons_succ, List.getElem_toArray, List.getElem_cons_succ, List.getElem_cons_zero]
  refine wpAnyH_take (i := 4) (v := ?_) rfl (by kernel_rfl) (by kernel_rfl) (by kernel_rfl) (fun _ _ _ h => h) (Or.inl ⟨by rfl, ?_⟩) (by assumption) ?_
  rotate_left
  · intro w' hSw
    skip
    go_simp
    try with_reducible rfl
  try simp only [Act.put, List.setIfInBounds_toArray, List.set_cons_zero, List.set_cons_succ, List.getElem_toArray, List.getElem_cons_succ, List.getElem_cons_zero]
  refine wpAnyH_ready (rs := [5]) (by kernel_rfl) (by simp) ?_
  refine AllReadyH.cons rfl (fun K hK => ?_) AllReadyH.nil
  go_simp
  refine (text_any _ _ _).mono ?_
  rintro e w11 ⟨rfl, hf11⟩
  refine hK.out _ _ ⟨ff hHeld.1 hf11, hf11.blk hHeld.2 (fun h => h)⟩ (fun hHeld2 => ?_)
  clear hK K hHeld hf11
  rename_i hHeld2
  have hHeld := hHeld2
  clear hHeld2
  try simp only [Act.put, List.setIfInBounds_toArray, List.set_cons_zero, List.set_cons_succ, List.getElem_toArray, List.getElem_cons_succ, List.getElem_cons_zero]
  refine wpAnyH_ready (rs := [7]) (by kernel_rfl) (by simp) ?_
  refine AllReadyH.cons rfl (fun K hK => ?_) AllReadyH.nil
  go_simp
  refine (H7.out _ hHeld.1).mono ?_
  rintro e w12 ⟨rfl, hf12⟩
  refine hK.out _ _ ⟨ff hHeld.1 hf12, hf12.blk hHeld.2 (fun h => h)⟩ (fun hHeld2 => ?_)
  clear hK K hHeld hf12
  rename_i hHeld2
  have hHeld := hHeld2
  clear hHeld2
  try simp only [Act.put, List.setIfInBounds_toArray, List.set_cons_zero, List.set_cons_succ, List.getElem_toArray, List.getElem_cons_succ, List.getElem_cons_zero]
  refine wpAnyH_ready (rs := [10, 13]) (by kernel_rfl) (by simp) ?_
  refine AllReadyH.cons rfl (fun K hK => ?_) (AllReadyH.cons rfl (fun K hK => ?_) AllReadyH.nil)
  ·
    go_simp
    have hfn := Fr.new w12 (.cells #[strV t2, strV t7, strV e.format] 9) (fun _ => False)
    refine hK.out _ _ ⟨ff hHeld.1 hfn, hfn.blk hHeld.2 (fun h => h)⟩ (fun hHeld2 => ?_)
    clear hK K
    try simp only [Act.put, List.setIfInBounds_toArray, List.set_cons_zero, List.set_cons_succ, List.getElem_toArray, List.getElem_cons_succ, List.getElem_cons_zero]
    have hown0 := built w.heap.size #[strV t2, strV t7, strV e.format] [t2, t7, e.format] hHeld.1.size rfl (show 3 ≤ maxLen by decide)
    refine wpAnyH_ready (rs := [13]) (by kernel_rfl) (by simp) ?_
    refine AllReadyH.cons rfl (fun K hK => ?_) AllReadyH.nil
    go_simp
    refine (H13.out _ hHeld2.1).mono ?_
    rintro e9 wc ⟨A, c, rfl, hrd, hfc⟩
    refine hK.out _ _ ⟨ff hHeld2.1 hfc, hfc.blk hHeld2.2 (fun h => h)⟩ (fun hHeld3 => ?_)
    clear hK K
    try simp only [Act.put, List.setIfInBounds_toArray, List.set_cons_zero, List.set_cons_succ, List.getElem_toArray, List.getElem_cons_succ, List.getElem_cons_zero]
    have hown := Fr.own hfc hown0 (fun _ _ h => h)
    have hrd2 := hrd
    have hlt : w.heap.size < w12.heap.size := hHeld.2.lt
    refine wpAnyH_ready (rs := [14]) (by kernel_rfl) (by simp) ?_
    refine AllReadyH.cons rfl (fun K hK => ?_) AllReadyH.nil
    refine wp_append_rd _ (.tmp 13) (.tmp 16) 44 rfl w.heap.size 9 i0 _ 1 16 Tryz.underlying44 hi0 hz0 hz1 hz2 rfl (by decide) _ 3 ([t2, t7, e.format].map strV) rfl hown _ X.length c (X.map strV) rfl hrd2 (by intro u hu; obtain ⟨y, -, rfl⟩ := List.mem_map.1 hu; rfl) (by simp only [maxLen]; omega) (by omega) (Nat.le_trans hHeld3.1.size (Nat.le_refl _)) ?_
    intro v9 w9 hown9 hg9 _
    have hf9 := Fr.ofGrown hg9
    obtain ⟨A9, c9, rfl, hr9⟩ := own_slice (ls := [t2, t7, e.format] ++ X) (by rw [List.map_append]; exact hown9) (by simp; omega)
    have hS9 : Fr w w9 (fun _ => False) := hHeld3.1.fresh hf9 (fun i e => by have e : i = w12.heap.size := Option.some.inj e; omega)
    refine hK.out _ _ ⟨hS9, hf9.blk hHeld3.2 (fun e => by have e : w.heap.size = w12.heap.size := Option.some.inj e; omega)⟩ (fun hHeld9 => ?_)
    clear hK K
    try simp only [Act.put, List.setIfInBounds_toArray, List.set_cons_zero, List.set_cons_succ, List.getElem_toArray, List.getElem_cons_succ, List.getElem_cons_zero]
    refine wpAnyH_take (i := 15) (v := ?_) rfl (by kernel_rfl) (by kernel_rfl) (by kernel_rfl) (fun _ _ _ h => h) (Or.inl ⟨by rfl, ?_⟩) (by assumption) ?_
    rotate_left
    · intro w' hSw
      skip
      go_simp
      try with_reducible rfl
    try simp only [Act.put, List.setIfInBounds_toArray, List.set_cons_zero, List.set_cons_succ, List.getElem_toArray, List.getElem_cons_succ, List.getElem_cons_zero]
    refine wpAnyH_done (by kernel_rfl) ?_ _
    go_wp2_with fail
    go_ret
    exact ⟨_, _, rfl, hr9, hS9⟩
  ·
    go_simp
    refine (H13.out _ hHeld.1).mono ?_
    rintro e9 wc ⟨A, c, rfl, hrd, hfc⟩
    refine hK.out _ _ ⟨ff hHeld.1 hfc, hfc.blk hHeld.2 (fun h => h)⟩ (fun hHeld2 => ?_)
    clear hK K
    try simp only [Act.put, List.setIfInBounds_toArray, List.set_cons_zero, List.set_cons_succ, List.getElem_toArray, List.getElem_cons_succ, List.getElem_cons_zero]
    refine wpAnyH_ready (rs := [10]) (by kernel_rfl) (by simp) ?_
    refine AllReadyH.cons rfl (fun K hK => ?_) AllReadyH.nil
    go_simp
    have hfn := Fr.new wc (.cells #[strV t2, strV t7, strV e.format] 9) (fun _ => False)
    refine hK.out _ _ ⟨ff hHeld2.1 hfn, hfn.blk hHeld2.2 (fun h => h)⟩ (fun hHeld3 => ?_)
    clear hK K
    try simp only [Act.put, List.setIfInBounds_toArray, List.set_cons_zero, List.set_cons_succ, List.getElem_toArray, List.getElem_cons_succ, List.getElem_cons_zero]
    have hown := built w.heap.size #[strV t2, strV t7, strV e.format] [t2, t7, e.format] hHeld2.1.size rfl (show 3 ≤ maxLen by decide)
    have hrd2 := hrd.fr hfn (fun _ _ _ _ h => h)
    have hlt : w.heap.size < wc.heap.size := hHeld2.2.lt
    refine wpAnyH_ready (rs := [14]) (by kernel_rfl) (by simp) ?_
    refine AllReadyH.cons rfl (fun K hK => ?_) AllReadyH.nil
    refine wp_append_rd _ (.tmp 13) (.tmp 16) 44 rfl w.heap.size 9 i0 _ 1 16 Tryz.underlying44 hi0 hz0 hz1 hz2 rfl (by decide) _ 3 ([t2, t7, e.format].map strV) rfl hown _ X.length c (X.map strV) rfl hrd2 (by intro u hu; obtain ⟨y, -, rfl⟩ := List.mem_map.1 hu; rfl) (by simp only [maxLen]; omega) (by omega) (Nat.le_trans hHeld3.1.size (Nat.le_refl _)) ?_
    intro v9 w9 hown9 hg9 _
    have hf9 := Fr.ofGrown hg9
    obtain ⟨A9, c9, rfl, hr9⟩ := own_slice (ls := [t2, t7, e.format] ++ X) (by rw [List.map_append]; exact hown9) (by simp; omega)
    have hS9 : Fr w w9 (fun _ => False) := hHeld3.1.fresh hf9 (fun i e => by have e : i = wc.heap.size := Option.some.inj e; omega)
    refine hK.out _ _ ⟨hS9, hf9.blk hHeld3.2 (fun e => by have e : w.heap.size = wc.heap.size := Option.some.inj e; omega)⟩ (fun hHeld9 => ?_)
    clear hK K
    try simp only [Act.put, List.setIfInBounds_toArray, List.set_cons_zero, List.set_cons_succ, List.getElem_toArray, List.getElem_cons_succ, List.getElem_cons_zero]
    refine wpAnyH_take (i := 15) (v := ?_) rfl (by kernel_rfl) (by kernel_rfl) (by kernel_rfl) (fun _ _ _ h => h) (Or.inl ⟨by rfl, ?_⟩) (by assumption) ?_
    rotate_left
    · intro w' hSw
      skip
      go_simp
      try with_reducible rfl
    try simp only [Act.put, List.setIfInBounds_toArray, List.set_cons_zero, List.set_cons_succ, List.getElem_toArray, List.getElem_cons_succ, List.getElem_cons_zero]
    refine wpAnyH_done (by kernel_rfl) ?_ _
    go_wp2_with fail
    go_ret
    exact ⟨_, _, rfl, hr9, hS9⟩
set_option maxRecDepth 100000 in
set_option maxHeartbeats 6400000 in
theorem texts_zone (l : LineL) (hk : l.kind = 2) (hy : FitP l) (w : World) (hw : LOk w) : Calls Tryz.prog 14 #[.agg (lineC l)] w (SPost ([zoneW, l.name] ++ eraX l.era) w) := by
  have hf := Fr.new w (.cells (lineC l) 34) (fun _ => False)
  have hb := Blk.made w 34 (lineC l)
  have c0 := blk_cell hb 0 (intV l.kind) rfl
  have HB := Lib.hid hb
  have HF := Lib.hid hf
  have HW := Lib.hid (fun (W : World) (f : Fr w W (fun _ => False)) => hw.fr f)
  obtain ⟨i0, hi0, hz0, hz1, hz2⟩ := info_parts S8.infoS
  have hXl := (era_light hy.year (fit_open hy).2.2.2.2.1 (fit_open hy).2.2.2.2.2).2
  have H13 := Lib.hid (fun (W : World) (f : Fr w W (fun _ => False)) => eraTexts_any l.era hy.year W (HW.out W f))
  obtain ⟨X, hX⟩ : ∃ X, eraX l.era = X := ⟨_, rfl⟩
  rw [hX] at hXl H13 ⊢
  rw [hk] at c0
  clear hX hw hy hf hb
  go_enter Tryz.func14, Tryz.ntmps14
  go_wp2_with fail
  refine wp_region_held_drew (S := fun w' => Fr w w' (fun _ => False) ∧ Blk w' w.heap.size 34 (lineC l)) (by kernel_rfl) (⟨ff HF.out (Fr.drew _ _), (Fr.drew _ (fun _ => False)).blk HB.out (fun h => h)⟩) (fun hHeld => ?_)
  refine wpAnyH_take (i := 0) (v := ?_) rfl (by kernel_rfl) (by kernel_rfl) (by kernel_rfl) (fun _ _ _ h => h) (Or.inl ⟨by rfl, ?_⟩) (by assumption) ?_
  rotate_left
  · intro w' hSw
    have k12 := blk_cell hSw.2 12 (strV l.name) rfl
    go_simp
    try with_reducible rfl
  try simp only [Act.put, List.setIfInBounds_toArray, List.set_cons_zero, List.set_cons_succ, List.getElem_toArray, List.getElem_cons_zero]
  refine wpAnyH_take (i := 1) (v := ?_) rfl (by kernel_rfl) (by kernel_rfl) (by kernel_rfl) (fun _ _ _ h => h) (Or.inl ⟨by rfl, ?_⟩) (by assumption) ?_
  rotate_left
  · intro w' hSw
    have k12 := blk_cell hSw.2 12 (strV l.name) rfl
    go_simp
    try with_reducible rfl
  try simp only [Act.put, List.setIfInBounds_toArray, List.set_cons_zero, List.set_cons_succ, List.getElem_toArray, List.getElem_cons_succ, List.getElem_cons_zero]
  refine wpAnyH_take (i := 3) (v := ?_) rfl (by kernel_rfl) (by kernel_rfl) (by kernel_rfl) (fun _ _ _ h => h) (Or.inl ⟨by rfl, ?_⟩) (by assumption) ?_
  rotate_left
  · intro w' hSw
    have k12 := blk_cell hSw.2 12 (strV l.name) rfl
    go_simp
    try with_reducible rfl
  try simp only [Act.put, List.setIfInBounds_toArray, List.set_cons_zero, List.set_cons_succ, List.getElem_toArray, List.getElem_cons_succ, List.getElem_cons_zero]
  refine wpAnyH_take (i := 4) (v := _) rfl (by kernel_rfl) (by kernel_rfl) (by kernel_rfl) (fun _ _ _ h => h) (yields_blk 31 _ w.heap.size 14 34 (lineC l) (eraC l.era) _ (by rfl) rfl rfl (fun _ h => h.2) Tryz.underlying31 rfl (infoE _) (part_era _)) (by assumption) ?_
  try simp only [Act.put, List.setIfInBounds_toArray, List.set_cons_zero, List.set_cons_succ, List.getElem_toArray, List.getElem_cons_succ, List.getElem_cons_zero]
  refine wpAnyH_ready (rs := [2, 5]) (by kernel_rfl) (by simp) ?_
  refine AllReadyH.cons rfl (fun K hK => ?_) (AllReadyH.cons rfl (fun K hK => ?_) AllReadyH.nil)
  ·
    go_simp
    have hfn := Fr.new ((w.alloc (.cells (lineC l) 34)).drew) (.cells #[strV zoneW, strV l.name] 9) (fun _ => False)
    refine hK.out _ _ ⟨ff hHeld.1 hfn, hfn.blk hHeld.2 (fun h => h)⟩ (fun hHeld2 => ?_)
    clear hK K
    try simp only [Act.put, List.setIfInBounds_toArray, List.set_cons_zero, List.set_cons_succ, List.getElem_toArray, List.getElem_cons_succ, List.getElem_cons_zero]
    have hown0 := built w.heap.size #[strV zoneW, strV l.name] [zoneW, l.name] hHeld.1.size rfl (show 2 ≤ maxLen by decide)
    rw [show ((w.alloc (.cells (lineC l) 34)).drew).heap.size = w.heap.size + 1 by simp] at hown0
    refine wpAnyH_ready (rs := [5]) (by kernel_rfl) (by simp) ?_
    refine AllReadyH.cons rfl (fun K hK => ?_) AllReadyH.nil
    go_simp
    refine (H13.out _ hHeld2.1).mono ?_
    rintro e9 wc ⟨A, c, rfl, hrd, hfc⟩
    refine hK.out _ _ ⟨ff hHeld2.1 hfc, hfc.blk hHeld2.2 (fun h => h)⟩ (fun hHeld3 => ?_)
    clear hK K
    try simp only [Act.put, List.setIfInBounds_toArray, List.set_cons_zero, List.set_cons_succ, List.getElem_toArray, List.getElem_cons_succ, List.getElem_cons_zero]
    have hown := Fr.own hfc hown0 (fun _ _ h => h)
    have hrd2 := hrd
    have hlt : w.heap.size < (w.heap.size + 1) := by omega
    refine wpAnyH_ready (rs := [6]) (by kernel_rfl) (by simp) ?_
    refine AllReadyH.cons rfl (fun K hK => ?_) AllReadyH.nil
    refine wp_append_rd _ (.tmp 14) (.tmp 17) 44 rfl w.heap.size 9 i0 _ 1 16 Tryz.underlying44 hi0 hz0 hz1 hz2 rfl (by decide) _ 2 ([zoneW, l.name].map strV) rfl hown _ X.length c (X.map strV) rfl hrd2 (by intro u hu; obtain ⟨y, -, rfl⟩ := List.mem_map.1 hu; rfl) (by simp only [maxLen]; omega) (by omega) (Nat.le_trans hHeld3.1.size (Nat.le_refl _)) ?_
    intro v9 w9 hown9 hg9 _
    have hf9 := Fr.ofGrown hg9
    obtain ⟨A9, c9, rfl, hr9⟩ := own_slice (ls := [zoneW, l.name] ++ X) (by rw [List.map_append]; exact hown9) (by simp; omega)
    have hS9 : Fr w w9 (fun _ => False) := hHeld3.1.fresh hf9 (fun i e => by have e : i = (w.heap.size + 1) := Option.some.inj e; omega)
    refine hK.out _ _ ⟨hS9, hf9.blk hHeld3.2 (fun e => by have e : w.heap.size = (w.heap.size + 1) := Option.some.inj e; omega)⟩ (fun hHeld9 => ?_)
    clear hK K
    try simp only [Act.put, List.setIfInBounds_toArray, List.set_cons_zero, List.set_cons_succ, List.getElem_toArray, List.getElem_cons_succ, List.getElem_cons_zero]
    refine wpAnyH_take (i := 7) (v := ?_) rfl (by kernel_rfl) (by kernel_rfl) (by kernel_rfl) (fun _ _ _ h => h) (Or.inl ⟨by rfl, ?_⟩) (by assumption) ?_
    rotate_left
    · intro w' hSw
      skip
      go_simp
      try with_reducible rfl
    try simp only [Act.put, List.setIfInBounds_toArray, List.set_cons_zero, List.set_cons_succ, List.getElem_toArray, List.getElem_cons_succ, List.getElem_cons_zero]
    refine wpAnyH_done (by kernel_rfl) ?_ _
    go_wp2_with fail
    go_ret
    exact ⟨_, _, rfl, hr9, hS9⟩
  ·
    go_simp
    refine (H13.out _ hHeld.1).mono ?_
    rintro e9 wc ⟨A, c, rfl, hrd, hfc⟩
    refine hK.out _ _ ⟨ff hHeld.1 hfc, hfc.blk hHeld.2 (fun h => h)⟩ (fun hHeld2 => ?_)
    clear hK K
    try simp only [Act.put, List.setIfInBounds_toArray, List.set_cons_zero, List.set_cons_succ, List.getElem_toArray, List.getElem_cons_succ, List.getElem_cons_zero]
    refine wpAnyH_ready (rs := [2]) (by kernel_rfl) (by simp) ?_
    refine AllReadyH.cons rfl (fun K hK => ?_) AllReadyH.nil
    go_simp
    have hfn := Fr.new wc (.cells #[strV zoneW, strV l.name] 9) (fun _ => False)
    refine hK.out _ _ ⟨ff hHeld2.1 hfn, hfn.blk hHeld2.2 (fun h => h)⟩ (fun hHeld3 => ?_)
    clear hK K
    try simp only [Act.put, List.setIfInBounds_toArray, List.set_cons_zero, List.set_cons_succ, List.getElem_toArray, List.getElem_cons_succ, List.getElem_cons_zero]
    have hown := built w.heap.size #[strV zoneW, strV l.name] [zoneW, l.name] hHeld2.1.size rfl (show 2 ≤ maxLen by decide)
    have hrd2 := hrd.fr hfn (fun _ _ _ _ h => h)
    have hlt : w.heap.size < wc.heap.size := hHeld2.2.lt
    refine wpAnyH_ready (rs := [6]) (by kernel_rfl) (by simp) ?_
    refine AllReadyH.cons rfl (fun K hK => ?_) AllReadyH.nil
    refine wp_append_rd _ (.tmp 14) (.tmp 17) 44 rfl w.heap.size 9 i0 _ 1 16 Tryz.underlying44 hi0 hz0 hz1 hz2 rfl (by decide) _ 2 ([zoneW, l.name].map strV) rfl hown _ X.length c (X.map strV) rfl hrd2 (by intro u hu; obtain ⟨y, -, rfl⟩ := List.mem_map.1 hu; rfl) (by simp only [maxLen]; omega) (by omega) (Nat.le_trans hHeld3.1.size (Nat.le_refl _)) ?_
    intro v9 w9 hown9 hg9 _
    have hf9 := Fr.ofGrown hg9
    obtain ⟨A9, c9, rfl, hr9⟩ := own_slice (ls := [zoneW, l.name] ++ X) (by rw [List.map_append]; exact hown9) (by simp; omega)
    have hS9 : Fr w w9 (fun _ => False) := hHeld3.1.fresh hf9 (fun i e => by have e : i = wc.heap.size := Option.some.inj e; omega)
    refine hK.out _ _ ⟨hS9, hf9.blk hHeld3.2 (fun e => by have e : w.heap.size = wc.heap.size := Option.some.inj e; omega)⟩ (fun hHeld9 => ?_)
    clear hK K
    try simp only [Act.put, List.setIfInBounds_toArray, List.set_cons_zero, List.set_cons_succ, List.getElem_toArray, List.getElem_cons_succ, List.getElem_cons_zero]
    refine wpAnyH_take (i := 7) (v := ?_) rfl (by kernel_rfl) (by kernel_rfl) (by kernel_rfl) (fun _ _ _ h => h) (Or.inl ⟨by rfl, ?_⟩) (by assumption) ?_
    rotate_left
    · intro w' hSw
      skip
      go_simp
      try with_reducible rfl
    try simp only [Act.put, List.setIfInBounds_toArray, List.set_cons_zero, List.set_cons_succ, List.getElem_toArray, List.getElem_cons_succ, List.getElem_cons_zero]
    refine wpAnyH_done (by kernel_rfl) ?_ _
    go_wp2_with fail
    go_ret
    exact ⟨_, _, rfl, hr9, hS9⟩
set_option maxRecDepth 100000 in
set_option maxHeartbeats 3200000 in
theorem texts_any (l : LineL) (hy : FitP l) (w : World) (hw : LOk w) : Calls Tryz.prog 14 #[.agg (lineC l)] w (SPost (lineX l) w) := by
  unfold lineX
  have hf := Fr.new w (.cells (lineC l) 34) (fun _ => False)
  have hb := Blk.made w 34 (lineC l)
  have c0 := blk_cell hb 0 (intV l.kind) rfl
  have HB := Lib.hid hb
  have HF := Lib.hid hf
  by_cases h1 : l.kind = 1
  · rw [if_pos h1]
    rw [h1] at c0
    have HR := Lib.hid (ruleTexts_any l.rule hy.fr _ (hw.fr hf))
    clear hf hb hw hy
    go_enter Tryz.func14, Tryz.ntmps14
    go_wp2_with (refine wpList_load_blk 27 _ w.heap.size 1 34 (lineC l) (ruleC l.rule) _ (by rfl) rfl rfl HB.out Tryz.underlying27 rfl (infoR _) (part_rule _) ?_)
    refine HR.out.mono ?_
    rintro e w2 ⟨A, c, rfl, hrd, hf2⟩
    have HF2 := Lib.hid (ff HF.out hf2)
    clear hf2
    go_wp2_with fail
    go_ret
    exact ⟨_, _, rfl, hrd, HF2.out⟩
  · rw [if_neg h1]
    have e1 : (l.kind == 1) = false := by simpa using h1
    by_cases h2 : l.kind = 2
    · rw [if_pos h2]
      exact texts_zone l h2 hy w hw
    · rw [if_neg h2]
      have e2 : (l.kind == 2) = false := by simpa using h2
      by_cases h3 : l.kind = 3
      · rw [if_pos h3]
        rw [h3] at c0
        have HR := Lib.hid (eraTexts_any l.era hy.year _ (hw.fr hf))
        clear hf hb hw hy
        go_enter Tryz.func14, Tryz.ntmps14
        go_wp2_with (refine wpList_load_blk 31 _ w.heap.size 14 34 (lineC l) (eraC l.era) _ (by rfl) rfl rfl HB.out Tryz.underlying31 rfl (infoE _) (part_era _) ?_)
        refine HR.out.mono ?_
        rintro e w2 ⟨A, c, rfl, hrd, hf2⟩
        have HF2 := Lib.hid (ff HF.out hf2)
        clear hf2
        go_wp2_with fail
        go_ret
        exact ⟨_, _, rfl, hrd, HF2.out⟩
      · rw [if_neg h3]
        have e3 : (l.kind == 3) = false := by simpa using h3
        by_cases h4 : l.kind = 4
        · rw [if_pos h4]
          have c12 := blk_cell hb 12 (strV l.name) rfl
          have c13 := blk_cell hb 13 (strV l.target) rfl
          rw [h4] at c0
          have hB := built w.heap.size #[strV linkW, strV l.target, strV l.name] [linkW, l.target, l.name] hf.size rfl (show 3 ≤ maxLen by decide)
          rw [show (w.alloc (.cells (lineC l) 34)).heap.size = w.heap.size + 1 by simp] at hB
          have hF3 := ff hf (Fr.new _ (.cells #[strV linkW, strV l.target, strV l.name] 9) _)
          have HB3 := Lib.hid hB
          have HF3 := Lib.hid hF3
          clear hf hb hw hy hB hF3
          go_enter Tryz.func14, Tryz.ntmps14
          go_wp2_with fail
          go_ret
          obtain ⟨A, c, hv, hr⟩ := own_slice HB3.out rfl
          injection hv with q1 _ q3
          subst q1 q3
          exact ⟨_, _, rfl, hr, HF3.out⟩
        · rw [if_neg h4]
          have e4 : (l.kind == 4) = false := by simpa using h4
          clear hf hb hw hy
          go_enter Tryz.func14, Tryz.ntmps14
          go_wp2_with fail
          go_ret
          exact ⟨none, 0, rfl, Rd.zero _ _ _, HF.out⟩
end Go.Proofs.YtgcheollgnhdlaaGreatDoor
namespace Go.Proofs.YtgcheollgnhdlaaGreatDoor
open Go.RowKit Go.Mem Go.Lin

set_option maxRecDepth 100000 in
set_option maxHeartbeats 6400000 in
theorem show_holds : ShowC := by
  intro l t k w hw hy h
  have hf := Fr.new w (.cells (lineC l) 34) (fun _ => False)
  have HB := Lib.hid (Blk.made w 34 (lineC l))
  have HF := Lib.hid hf
  have HT := Lib.hid (texts_any l hy _ (hw.fr hf))
  have HL := Lib.hid (x_light hy)
  have HW := Lib.hid (fun (W : World) (f : Fr w W (fun _ => False)) => hw.fr f)
  obtain ⟨X, hX⟩ : ∃ X, lineX l = X := ⟨_, rfl⟩
  rw [hX] at HT HL
  obtain ⟨⟨s, j⟩, hs⟩ : ∃ o, Go.Lxr.showD X = o := ⟨_, rfl⟩
  have HS := Lib.hid (fun (A : Option Addr) (c : Nat) (W : World) (hr : Rd W 1 A X.length (X.map strV)) => (show Calls Tryz.prog 13 #[.slice A X.length c] W fun e w' => e = .returned (.tuple #[strV s, intV j]) ∧ Fr W w' (fun _ => False) from by
    have h := S7.Show_any A X.length c X W hr HL.out
    rw [hs] at h
    exact h))
  rw [show_x, hX, hs] at h
  clear hf hw hX
  by_cases hj : j = 0
  · subst hj
    obtain ⟨y, hyy⟩ : ∃ y, parseL s = y := ⟨_, rfl⟩
    have hs200 : s.length ≤ 1000 := by
      have := (show_fields hs).1
      omega
    have HP := Lib.hid (fun (W : World) (f : Fr w W (fun _ => False)) => parse_holds s y W (HW.out W f) hs200 hyy)
    obtain ⟨b, hb⟩ : ∃ b, decide (y = l) = b := ⟨_, rfl⟩
    have HQ := Lib.hid (fun W => same_any y l b hb W)
    have hr : (t, k) = if b = true then (s, 0) else ([], 1) := by
      rw [← h, ← hb, ← hyy]
      by_cases e : parseL s = l <;> simp [e]
    clear h hyy hb hs
    cases b with
    | true =>
      obtain ⟨rfl, rfl⟩ := Prod.mk.inj hr
      clear hr
      go_enter Tryz.func9, Tryz.ntmps9
      go_wp2_with (refine wpList_load_blk 34 _ w.heap.size 0 34 (lineC l) (lineC l) _ (by rfl) rfl rfl HB.out Tryz.underlying34 rfl (infoL _) (zero_part _) ?_)
      refine HT.out.mono ?_
      rintro e w2 ⟨A, c, rfl, hrd, hf2⟩
      have HF2 := Lib.hid (ff HF.out hf2)
      have HB2 := Lib.hid (hf2.blk HB.out (fun h => h))
      have HS2 := Lib.hid (HS.out A c w2 hrd)
      clear hf2 hrd
      go_wp2_with fail
      refine HS2.out.mono ?_
      rintro e w3 ⟨rfl, hf3⟩
      have HF3 := Lib.hid (ff HF2.out hf3)
      have HB3 := Lib.hid (hf3.blk HB2.out (fun h => h))
      clear hf3
      go_wp2_with fail
      refine wp_region_held_drew (S := fun w' => Fr w w' (fun _ => False) ∧ Blk w' w.heap.size 34 (lineC l)) (by kernel_rfl) (⟨ff HF3.out (Fr.drew _ _), (Fr.drew _ (fun _ => False)).blk HB3.out (fun h => h)⟩) (fun hHeld => ?_)
      refine wpAnyH_take (i := 0) (v := ?_) rfl (by kernel_rfl) (by kernel_rfl) (by kernel_rfl) (fun _ _ _ h => h) (Or.inl ⟨by rfl, ?_⟩) (by assumption) ?_
      rotate_left
      · intro w' hSw
        go_simp
        try with_reducible rfl
      try simp only [Act.put, List.setIfInBounds_toArray, List.set_cons_zero, List.set_cons_succ, List.getElem_toArray, List.getElem_cons_zero]
      refine wpAnyH_take (i := 1) (v := ?_) rfl (by kernel_rfl) (by kernel_rfl) (by kernel_rfl) (fun _ _ _ h => h) (Or.inl ⟨by rfl, ?_⟩) (by assumption) ?_
      rotate_left
      · intro w' hSw
        go_simp
        try with_reducible rfl
      try simp only [Act.put, List.setIfInBounds_toArray, List.set_cons_zero, List.set_cons_succ, List.getElem_toArray, List.getElem_cons_succ, List.getElem_cons_zero]
      refine wpAnyH_take (i := 2) (v := ?_) rfl (by kernel_rfl) (by kernel_rfl) (by kernel_rfl) (fun _ _ _ h => h) (Or.inl ⟨by rfl, ?_⟩) (by assumption) ?_
      rotate_left
      · intro w' hSw
        go_simp
        try with_reducible rfl
      try simp only [Act.put, List.setIfInBounds_toArray, List.set_cons_zero, List.set_cons_succ, List.getElem_toArray, List.getElem_cons_succ, List.getElem_cons_zero]
      refine wpAnyH_take (i := 3) (v := ?_) rfl (by kernel_rfl) (by kernel_rfl) (by kernel_rfl) (fun _ _ _ h => h) (Or.inl ⟨by rfl, ?_⟩) (by assumption) ?_
      rotate_left
      · intro w' hSw
        go_simp
        try with_reducible rfl
      try simp only [Act.put, List.setIfInBounds_toArray, List.set_cons_zero, List.set_cons_succ, List.getElem_toArray, List.getElem_cons_succ, List.getElem_cons_zero]
      refine wpAnyH_take (i := 5) (v := _) rfl (by kernel_rfl) (by kernel_rfl) (by kernel_rfl) (fun _ _ _ h => h) (yields_blk 34 _ w.heap.size 0 34 (lineC l) (lineC l) _ (by rfl) rfl rfl (fun _ h => h.2) Tryz.underlying34 rfl (infoL _) (zero_part _)) (by assumption) ?_
      try simp only [Act.put, List.setIfInBounds_toArray, List.set_cons_zero, List.set_cons_succ, List.getElem_toArray, List.getElem_cons_succ, List.getElem_cons_zero]
      refine wpAnyH_ready (rs := [4]) (by kernel_rfl) (by simp) ?_
      refine AllReadyH.cons rfl (fun K hK => ?_) AllReadyH.nil
      go_simp
      refine (HP.out _ hHeld.1).mono ?_
      rintro e w14 ⟨rfl, hf14⟩
      refine hK.out _ _ ⟨ff hHeld.1 hf14, hf14.blk hHeld.2 (fun h => h)⟩ (fun hHeld2 => ?_)
      clear hK K hHeld hf14
      rename_i hHeld2
      have hHeld := hHeld2
      clear hHeld2
      try simp only [Act.put, List.setIfInBounds_toArray, List.set_cons_zero, List.set_cons_succ, List.getElem_toArray, List.getElem_cons_succ, List.getElem_cons_zero]
      refine wpAnyH_ready (rs := [6]) (by kernel_rfl) (by simp) ?_
      refine AllReadyH.cons rfl (fun K hK => ?_) AllReadyH.nil
      go_simp
      refine (HQ.out _).mono ?_
      rintro e w16 ⟨rfl, hf16⟩
      refine hK.out _ _ ⟨ff hHeld.1 hf16, hf16.blk hHeld.2 (fun h => h)⟩ (fun hHeld2 => ?_)
      clear hK K hHeld hf16
      rename_i hHeld2
      have hHeld := hHeld2
      clear hHeld2
      try simp only [Act.put, List.setIfInBounds_toArray, List.set_cons_zero, List.set_cons_succ, List.getElem_toArray, List.getElem_cons_succ, List.getElem_cons_zero]
      refine wpAnyH_take (i := 7) (v := ?_) rfl (by kernel_rfl) (by kernel_rfl) (by kernel_rfl) (fun _ _ _ h => h) (Or.inl ⟨by rfl, ?_⟩) (by assumption) ?_
      rotate_left
      · intro w' hSw
        go_simp
        try with_reducible rfl
      try simp only [Act.put, List.setIfInBounds_toArray, List.set_cons_zero, List.set_cons_succ, List.getElem_toArray, List.getElem_cons_succ, List.getElem_cons_zero]
      refine wpAnyH_take (i := 8) (v := ?_) rfl (by kernel_rfl) (by kernel_rfl) (by kernel_rfl) (fun _ _ _ h => h) (Or.inl ⟨by rfl, ?_⟩) (by assumption) ?_
      rotate_left
      · intro w' hSw
        go_simp
        try with_reducible rfl
      try simp only [Act.put, List.setIfInBounds_toArray, List.set_cons_zero, List.set_cons_succ, List.getElem_toArray, List.getElem_cons_succ, List.getElem_cons_zero]
      refine wpAnyH_done (by kernel_rfl) ?_ _
      have HE := Lib.hid hHeld.1
      clear hHeld
      go_wp2_with fail
      go_ret2
      exact ⟨rfl, HE.out⟩
    | false =>
      obtain ⟨rfl, rfl⟩ := Prod.mk.inj hr
      clear hr
      go_enter Tryz.func9, Tryz.ntmps9
      go_wp2_with (refine wpList_load_blk 34 _ w.heap.size 0 34 (lineC l) (lineC l) _ (by rfl) rfl rfl HB.out Tryz.underlying34 rfl (infoL _) (zero_part _) ?_)
      refine HT.out.mono ?_
      rintro e w2 ⟨A, c, rfl, hrd, hf2⟩
      have HF2 := Lib.hid (ff HF.out hf2)
      have HB2 := Lib.hid (hf2.blk HB.out (fun h => h))
      have HS2 := Lib.hid (HS.out A c w2 hrd)
      clear hf2 hrd
      go_wp2_with fail
      refine HS2.out.mono ?_
      rintro e w3 ⟨rfl, hf3⟩
      have HF3 := Lib.hid (ff HF2.out hf3)
      have HB3 := Lib.hid (hf3.blk HB2.out (fun h => h))
      clear hf3
      go_wp2_with fail
      refine wp_region_held_drew (S := fun w' => Fr w w' (fun _ => False) ∧ Blk w' w.heap.size 34 (lineC l)) (by kernel_rfl) (⟨ff HF3.out (Fr.drew _ _), (Fr.drew _ (fun _ => False)).blk HB3.out (fun h => h)⟩) (fun hHeld => ?_)
      refine wpAnyH_take (i := 0) (v := ?_) rfl (by kernel_rfl) (by kernel_rfl) (by kernel_rfl) (fun _ _ _ h => h) (Or.inl ⟨by rfl, ?_⟩) (by assumption) ?_
      rotate_left
      · intro w' hSw
        go_simp
        try with_reducible rfl
      try simp only [Act.put, List.setIfInBounds_toArray, List.set_cons_zero, List.set_cons_succ, List.getElem_toArray, List.getElem_cons_zero]
      refine wpAnyH_take (i := 1) (v := ?_) rfl (by kernel_rfl) (by kernel_rfl) (by kernel_rfl) (fun _ _ _ h => h) (Or.inl ⟨by rfl, ?_⟩) (by assumption) ?_
      rotate_left
      · intro w' hSw
        go_simp
        try with_reducible rfl
      try simp only [Act.put, List.setIfInBounds_toArray, List.set_cons_zero, List.set_cons_succ, List.getElem_toArray, List.getElem_cons_succ, List.getElem_cons_zero]
      refine wpAnyH_take (i := 2) (v := ?_) rfl (by kernel_rfl) (by kernel_rfl) (by kernel_rfl) (fun _ _ _ h => h) (Or.inl ⟨by rfl, ?_⟩) (by assumption) ?_
      rotate_left
      · intro w' hSw
        go_simp
        try with_reducible rfl
      try simp only [Act.put, List.setIfInBounds_toArray, List.set_cons_zero, List.set_cons_succ, List.getElem_toArray, List.getElem_cons_succ, List.getElem_cons_zero]
      refine wpAnyH_take (i := 3) (v := ?_) rfl (by kernel_rfl) (by kernel_rfl) (by kernel_rfl) (fun _ _ _ h => h) (Or.inl ⟨by rfl, ?_⟩) (by assumption) ?_
      rotate_left
      · intro w' hSw
        go_simp
        try with_reducible rfl
      try simp only [Act.put, List.setIfInBounds_toArray, List.set_cons_zero, List.set_cons_succ, List.getElem_toArray, List.getElem_cons_succ, List.getElem_cons_zero]
      refine wpAnyH_take (i := 5) (v := _) rfl (by kernel_rfl) (by kernel_rfl) (by kernel_rfl) (fun _ _ _ h => h) (yields_blk 34 _ w.heap.size 0 34 (lineC l) (lineC l) _ (by rfl) rfl rfl (fun _ h => h.2) Tryz.underlying34 rfl (infoL _) (zero_part _)) (by assumption) ?_
      try simp only [Act.put, List.setIfInBounds_toArray, List.set_cons_zero, List.set_cons_succ, List.getElem_toArray, List.getElem_cons_succ, List.getElem_cons_zero]
      refine wpAnyH_ready (rs := [4]) (by kernel_rfl) (by simp) ?_
      refine AllReadyH.cons rfl (fun K hK => ?_) AllReadyH.nil
      go_simp
      refine (HP.out _ hHeld.1).mono ?_
      rintro e w14 ⟨rfl, hf14⟩
      refine hK.out _ _ ⟨ff hHeld.1 hf14, hf14.blk hHeld.2 (fun h => h)⟩ (fun hHeld2 => ?_)
      clear hK K hHeld hf14
      rename_i hHeld2
      have hHeld := hHeld2
      clear hHeld2
      try simp only [Act.put, List.setIfInBounds_toArray, List.set_cons_zero, List.set_cons_succ, List.getElem_toArray, List.getElem_cons_succ, List.getElem_cons_zero]
      refine wpAnyH_ready (rs := [6]) (by kernel_rfl) (by simp) ?_
      refine AllReadyH.cons rfl (fun K hK => ?_) AllReadyH.nil
      go_simp
      refine (HQ.out _).mono ?_
      rintro e w16 ⟨rfl, hf16⟩
      refine hK.out _ _ ⟨ff hHeld.1 hf16, hf16.blk hHeld.2 (fun h => h)⟩ (fun hHeld2 => ?_)
      clear hK K hHeld hf16
      rename_i hHeld2
      have hHeld := hHeld2
      clear hHeld2
      try simp only [Act.put, List.setIfInBounds_toArray, List.set_cons_zero, List.set_cons_succ, List.getElem_toArray, List.getElem_cons_succ, List.getElem_cons_zero]
      refine wpAnyH_take (i := 7) (v := ?_) rfl (by kernel_rfl) (by kernel_rfl) (by kernel_rfl) (fun _ _ _ h => h) (Or.inl ⟨by rfl, ?_⟩) (by assumption) ?_
      rotate_left
      · intro w' hSw
        go_simp
        try with_reducible rfl
      try simp only [Act.put, List.setIfInBounds_toArray, List.set_cons_zero, List.set_cons_succ, List.getElem_toArray, List.getElem_cons_succ, List.getElem_cons_zero]
      refine wpAnyH_take (i := 8) (v := ?_) rfl (by kernel_rfl) (by kernel_rfl) (by kernel_rfl) (fun _ _ _ h => h) (Or.inl ⟨by rfl, ?_⟩) (by assumption) ?_
      rotate_left
      · intro w' hSw
        go_simp
        try with_reducible rfl
      try simp only [Act.put, List.setIfInBounds_toArray, List.set_cons_zero, List.set_cons_succ, List.getElem_toArray, List.getElem_cons_succ, List.getElem_cons_zero]
      refine wpAnyH_done (by kernel_rfl) ?_ _
      have HE := Lib.hid hHeld.1
      clear hHeld
      go_wp2_with fail
      go_ret2
      exact ⟨rfl, HE.out⟩
  · rw [if_pos (.inl hj)] at h
    obtain ⟨rfl, rfl⟩ := Prod.mk.inj h
    have j0 : (j == 0) = false := by simpa using hj
    clear h hs
    go_enter Tryz.func9, Tryz.ntmps9
    go_wp2_with (refine wpList_load_blk 34 _ w.heap.size 0 34 (lineC l) (lineC l) _ (by rfl) rfl rfl HB.out Tryz.underlying34 rfl (infoL _) (zero_part _) ?_)
    refine HT.out.mono ?_
    rintro e w2 ⟨A, c, rfl, hrd, hf2⟩
    have HF2 := Lib.hid (ff HF.out hf2)
    have HB2 := Lib.hid (hf2.blk HB.out (fun h => h))
    have HS2 := Lib.hid (HS.out A c w2 hrd)
    clear hf2 hrd
    go_wp2_with fail
    refine HS2.out.mono ?_
    rintro e w3 ⟨rfl, hf3⟩
    have HF3 := Lib.hid (ff HF2.out hf3)
    have HB3 := Lib.hid (hf3.blk HB2.out (fun h => h))
    clear hf3
    go_wp2_with fail
    refine wp_region_held_drew (S := fun w' => Fr w w' (fun _ => False) ∧ Blk w' w.heap.size 34 (lineC l)) (by kernel_rfl) (⟨ff HF3.out (Fr.drew _ _), (Fr.drew _ (fun _ => False)).blk HB3.out (fun h => h)⟩) (fun hHeld => ?_)
    refine wpAnyH_take (i := 0) (v := ?_) rfl (by kernel_rfl) (by kernel_rfl) (by kernel_rfl) (fun _ _ _ h => h) (Or.inl ⟨by rfl, ?_⟩) (by assumption) ?_
    rotate_left
    · intro w' hSw
      go_simp
      try with_reducible rfl
    try simp only [Act.put, List.setIfInBounds_toArray, List.set_cons_zero, List.set_cons_succ, List.getElem_toArray, List.getElem_cons_zero]
    refine wpAnyH_take (i := 1) (v := .bool true) rfl (by kernel_rfl) (by kernel_rfl) (by kernel_rfl) (fun _ _ _ h => h) (Or.inl ⟨by rfl, ?_⟩) (by assumption) ?_
    · intro w' hSw
      go_simp
      try simp [bne, j0]
    try simp only [Act.put, List.setIfInBounds_toArray, List.set_cons_zero, List.set_cons_succ, List.getElem_toArray, List.getElem_cons_succ, List.getElem_cons_zero]
    refine wpAnyH_take (i := 2) (v := ?_) rfl (by kernel_rfl) (by kernel_rfl) (by kernel_rfl) (fun _ _ _ h => h) (Or.inl ⟨by rfl, ?_⟩) (by assumption) ?_
    rotate_left
    · intro w' hSw
      go_simp
      try with_reducible rfl
    try simp only [Act.put, List.setIfInBounds_toArray, List.set_cons_zero, List.set_cons_succ, List.getElem_toArray, List.getElem_cons_succ, List.getElem_cons_zero]
    refine wpAnyH_take (i := 3) (v := undef) rfl (by kernel_rfl) (by kernel_rfl) (by kernel_rfl) (fun _ _ _ h => h) (Or.inr ⟨by rfl, rfl⟩) (by assumption) ?_
    try simp only [Act.put, List.setIfInBounds_toArray, List.set_cons_zero, List.set_cons_succ, List.getElem_toArray, List.getElem_cons_succ, List.getElem_cons_zero]
    refine wpAnyH_take (i := 4) (v := undef) rfl (by kernel_rfl) (by kernel_rfl) (by kernel_rfl) (fun _ _ _ h => h) (Or.inr ⟨by rfl, rfl⟩) (by assumption) ?_
    try simp only [Act.put, List.setIfInBounds_toArray, List.set_cons_zero, List.set_cons_succ, List.getElem_toArray, List.getElem_cons_succ, List.getElem_cons_zero]
    refine wpAnyH_take (i := 5) (v := undef) rfl (by kernel_rfl) (by kernel_rfl) (by kernel_rfl) (fun _ _ _ h => h) (Or.inr ⟨by rfl, rfl⟩) (by assumption) ?_
    try simp only [Act.put, List.setIfInBounds_toArray, List.set_cons_zero, List.set_cons_succ, List.getElem_toArray, List.getElem_cons_succ, List.getElem_cons_zero]
    refine wpAnyH_take (i := 6) (v := undef) rfl (by kernel_rfl) (by kernel_rfl) (by kernel_rfl) (fun _ _ _ h => h) (Or.inr ⟨by rfl, rfl⟩) (by assumption) ?_
    try simp only [Act.put, List.setIfInBounds_toArray, List.set_cons_zero, List.set_cons_succ, List.getElem_toArray, List.getElem_cons_succ, List.getElem_cons_zero]
    refine wpAnyH_take (i := 7) (v := undef) rfl (by kernel_rfl) (by kernel_rfl) (by kernel_rfl) (fun _ _ _ h => h) (Or.inr ⟨by rfl, rfl⟩) (by assumption) ?_
    try simp only [Act.put, List.setIfInBounds_toArray, List.set_cons_zero, List.set_cons_succ, List.getElem_toArray, List.getElem_cons_succ, List.getElem_cons_zero]
    refine wpAnyH_take (i := 8) (v := ?_) rfl (by kernel_rfl) (by kernel_rfl) (by kernel_rfl) (fun _ _ _ h => h) (Or.inl ⟨by rfl, ?_⟩) (by assumption) ?_
    rotate_left
    · intro w' hSw
      go_simp
      try with_reducible rfl
    try simp only [Act.put, List.setIfInBounds_toArray, List.set_cons_zero, List.set_cons_succ, List.getElem_toArray, List.getElem_cons_succ, List.getElem_cons_zero]
    refine wpAnyH_done (by kernel_rfl) ?_ _
    have HE := Lib.hid hHeld.1
    clear hHeld
    go_wp2_with fail
    go_ret2
    exact ⟨rfl, HE.out⟩
set_option maxRecDepth 100000 in
set_option maxHeartbeats 3200000 in
theorem right_holds : RightC := by
  intro l b w hw hy h
  have hf := Fr.new w (.cells (lineC l) 34) (fun _ => False)
  have HB := Lib.hid (Blk.made w 34 (lineC l))
  have HF := Lib.hid hf
  have HS := Lib.hid (show_holds l (showL l).1 (showL l).2 _ (hw.fr hf) hy rfl)
  have hk : ((showL l).2 == 0) = b := by
    rw [← h]
    unfold showL
    cases rightL l <;> rfl
  obtain ⟨⟨s, j⟩, hs⟩ : ∃ o, showL l = o := ⟨_, rfl⟩
  rw [hs] at HS hk
  have hk : (j == 0) = b := hk
  clear hf hw hy h hs
  cases b
  all_goals
    go_enter Tryz.func10, Tryz.ntmps10
    go_wp2_with (refine wpList_load_blk 34 _ w.heap.size 0 34 (lineC l) (lineC l) _ (by rfl) rfl rfl HB.out Tryz.underlying34 rfl (infoL _) (zero_part _) ?_)
    refine HS.out.mono ?_
    rintro e w2 ⟨rfl, hf2⟩
    have HF2 := Lib.hid (ff HF.out hf2)
    clear hf2
    go_wp2_with fail
    go_ret
    exact ⟨by first | rfl | simp [hk], HF2.out⟩
end Go.Proofs.YtgcheollgnhdlaaGreatDoor
