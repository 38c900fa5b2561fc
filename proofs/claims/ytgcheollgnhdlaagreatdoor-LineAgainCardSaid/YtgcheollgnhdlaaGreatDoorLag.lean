import Derived.Test.YtgcheollgnhdlaaGreatDoorLin2
import Derived.Test.YtgcheollgnhdlaaGreatDoorLbw
namespace Go.Proofs.YtgcheollgnhdlaaGreatDoor
open Go.RowKit Go.Mem Go.Lin

set_option maxHeartbeats 1600000 in
theorem again_long (hP : ParseC) (hS : ShowC) (s : Bs) (w : World) (hw : LOk w) (hl : 1000 < s.length) : Calls Tryz.prog 4 #[strV s] w fun e w' => e = .returned (.bool true) ∧ Fr w w' (fun _ => False) := by
  have HA := Lib.hid (alive_any hP hS w hw)
  have h2 : (1000 : Int) < (s.length : Int) := by omega
  clear hP hS hw hl
  go_enter Tryz.func4, Tryz.ntmps4
  go_wp2_with fail
  refine HA.out.mono ?_
  rintro e w2 ⟨rfl, hf⟩
  have HF := Lib.hid hf
  clear hf
  go_wp2_with fail
  go_ret
  exact ⟨rfl, HF.out⟩
set_option maxRecDepth 100000 in
set_option maxHeartbeats 1600000 in
theorem again_wrong (hP : ParseC) (hS : ShowC) (s : Bs) (k c : Int) (hk : k ≠ 0) (hc0 : 0 ≤ c) (hc1 : c ≤ (s.length : Int)) (w : World) (hw : LOk w) (hl : s.length ≤ 1000) (h : parseL s = wrongL k c) : Calls Tryz.prog 4 #[strV s] w fun e w' => e = .returned (.bool true) ∧ Fr w w' (fun _ => False) := by
  have H1 := Lib.hid (hP s _ w hw hl h)
  have HS := Lib.hid (fun W (f : Fr w W (fun _ => False)) => hS (wrongL k c) _ _ W (hw.fr f) (fit_wrong k c) (show_wrong (wrong_no k c)))
  have HA := Lib.hid (fun W (f : Fr w W (fun _ => False)) => alive_any hP hS W (hw.fr f))
  have h2 : (s.length : Int) ≤ 1000 := by omega
  have hk0 : (k == 0) = false := by simpa using hk
  have q0 : (wrongL k c).kind = 5 := rfl
  have q1 : (wrongL k c).err = k := rfl
  have q2 : (wrongL k c).col = c := rfl
  generalize wrongL k c = x at H1 HS q0 q1 q2
  clear hP hS hw hl h
  go_enter Tryz.func4, Tryz.ntmps4
  go_wp2_with fail
  refine H1.out.mono ?_
  rintro e0 w2 ⟨rfl, hf2⟩
  have HF2 := Lib.hid (ff hf2 (Fr.new w2 (.cells (lineC lineZ) 34) (fun _ => False)))
  have hge2 := hf2.size
  clear hf2
  go_wp2_with (first
      | (refine wpList_store_blk 34 _ _ w2.heap.size 0 34 (lineC lineZ) (lineC x) (lineC x) (by rfl) rfl rfl rfl rfl (Blk.made w2 34 (lineC lineZ)) (infoL _) (lineC_one _) (show 0 + 29 ≤ 29 by decide) (put_line _ _) ?_
         intro w3 hf3 hb3
         have HF3 := Lib.hid (fr_fresh HF2.out hf3 hge2)
         have HB3 := Lib.hid hb3
         have c0 : w3.cell? ⟨w2.heap.size, 0, none⟩ = some (intV 5) := by rw [← q0]; exact cell_at hb3 0
         clear hf3 hb3 hge2)
      | (refine wpList_load_blk 34 _ w2.heap.size 0 34 (lineC x) (lineC x) _ (by rfl) rfl rfl HB3.out Tryz.underlying34 rfl (infoL _) (part_line _) ?_))
  refine (HS.out _ HF3.out).mono ?_
  rintro e0 w4 ⟨rfl, hf4⟩
  have HF4 := Lib.hid (ff HF3.out hf4)
  have hb4 := hf4.blk HB3.out (fun h => h)
  have c27 : w4.cell? ⟨w2.heap.size, 27, none⟩ = some (intV k) := by rw [← q1]; exact cell_at hb4 27
  have c28 : w4.cell? ⟨w2.heap.size, 28, none⟩ = some (intV c) := by rw [← q2]; exact cell_at hb4 28
  clear hf4 hb4
  go_wp2_with fail
  refine (HA.out _ HF4.out).mono ?_
  rintro e0 w9 ⟨rfl, hf9⟩
  have HF9 := Lib.hid (ff HF4.out hf9)
  clear hf9
  go_wp2_with fail
  go_ret
  exact ⟨by first | rfl | (simp; exact hk), HF9.out⟩
set_option maxRecDepth 100000 in
set_option maxHeartbeats 3200000 in
theorem again_right (hP : ParseC) (hS : ShowC) (hR : RightC) (s : Bs) (x : LineL) (ho : lineOk x) (w : World) (hw : LOk w) (hl : s.length ≤ 1000) (h : parseL s = x) : Calls Tryz.prog 4 #[strV s] w fun e w' => e = .returned (.bool true) ∧ Fr w w' (fun _ => False) := by
  have H1 := Lib.hid (hP s _ w hw hl h)
  have HS := Lib.hid (fun W (f : Fr w W (fun _ => False)) => hS x _ _ W (hw.fr f) (fit_right ho) (show_right ho))
  have HP := Lib.hid (fun W (f : Fr w W (fun _ => False)) => hP (Go.Lxr.joinL (lineT x)) _ W (hw.fr f) (by have := line_len ho; omega) (parse_back ho))
  have HR := Lib.hid (fun W (f : Fr w W (fun _ => False)) => hR x _ W (hw.fr f) (fit_right ho) (right_of ho))
  have HA := Lib.hid (fun W (f : Fr w W (fun _ => False)) => alive_any hP hS W (hw.fr f))
  have E1 := fun w => eql_line x x w
  rw [decide_eq_true (show x = x from rfl)] at E1
  have h2 : (s.length : Int) ≤ 1000 := by omega
  have hk5 : (x.kind == 5) = false := by simpa using ok_kind ho
  generalize Go.Lxr.joinL (lineT x) = t at HS HP
  clear hP hS hR hw hl h ho
  go_enter Tryz.func4, Tryz.ntmps4
  go_wp2_with fail
  refine H1.out.mono ?_
  rintro e0 w2 ⟨rfl, hf2⟩
  have HF2 := Lib.hid (ff hf2 (Fr.new w2 (.cells (lineC lineZ) 34) (fun _ => False)))
  have hge2 := hf2.size
  clear hf2
  go_wp2_with (first
      | (refine wpList_store_blk 34 _ _ w2.heap.size 0 34 (lineC lineZ) (lineC x) (lineC x) (by rfl) rfl rfl rfl rfl (Blk.made w2 34 (lineC lineZ)) (infoL _) (lineC_one _) (show 0 + 29 ≤ 29 by decide) (put_line _ _) ?_
         intro w3 hf3 hb3
         have HF3 := Lib.hid (fr_fresh HF2.out hf3 hge2)
         have HB3 := Lib.hid hb3
         have c0 : w3.cell? ⟨w2.heap.size, 0, none⟩ = some (intV x.kind) := cell_at hb3 0
         clear hf3 hb3 hge2)
      | (refine wpList_load_blk 34 _ w2.heap.size 0 34 (lineC x) (lineC x) _ (by rfl) rfl rfl HB3.out Tryz.underlying34 rfl (infoL _) (part_line _) ?_))
  refine (HS.out _ HF3.out).mono ?_
  rintro e0 w4 ⟨rfl, hf4⟩
  have HF4 := Lib.hid (ff HF3.out hf4)
  have HB4 := Lib.hid (hf4.blk HB3.out (fun h => h))
  clear hf4
  go_wp2_with fail
  refine (HP.out _ HF4.out).mono ?_
  rintro e0 w5 ⟨rfl, hf5⟩
  have HF5 := Lib.hid (ff HF4.out hf5)
  have HB5 := Lib.hid (hf5.blk HB4.out (fun h => h))
  clear hf5
  go_wp2_with fail
  refine (HS.out _ HF5.out).mono ?_
  rintro e0 w6 ⟨rfl, hf6⟩
  have BASE := Lib.hid (And.intro (ff HF5.out hf6) (show LinAt w6 w2.heap.size x from hf6.blk HB5.out (fun h => h)))
  clear hf6
  go_wp2_with fail
  refine wp_region_held_drew (S := fun w' => Fr w w' (fun _ => False) ∧ LinAt w' w2.heap.size x) (by kernel_rfl) (kl1 BASE.out (Fr.drew _ _)) (fun hHeld => ?_)
  refine wpAnyH_take (i := 0) (v := ?_) rfl (by kernel_rfl) (by kernel_rfl) (by kernel_rfl) (fun _ _ _ h => h) (Or.inl ⟨by rfl, ?_⟩) (by assumption) ?_
  rotate_left
  · intro w' hSw
    go_simp
    try with_reducible rfl
  try simp only [Act.put, List.setIfInBounds_toArray, List.set_cons_zero, List.set_cons_succ, List.getElem_toArray, List.getElem_cons_zero]
  refine wpAnyH_take (i := 1) (v := ?_) rfl (by kernel_rfl) (by kernel_rfl) (by kernel_rfl) (fun _ _ _ h => h) (Or.inl ⟨by rfl, ?_⟩) (by assumption) ?_
  rotate_left
  · intro w' hSw
    go_simp
    try with_reducible rfl
  try simp only [Act.put, List.setIfInBounds_toArray, List.set_cons_zero, List.set_cons_succ, List.getElem_toArray, List.getElem_cons_succ, List.getElem_cons_zero]
  refine wpAnyH_take (i := 2) (v := ?_) rfl (by kernel_rfl) (by kernel_rfl) (by kernel_rfl) (fun _ _ _ h => h) (Or.inl ⟨by rfl, ?_⟩) (by assumption) ?_
  rotate_left
  · intro w' hSw
    go_simp
    try with_reducible rfl
  try simp only [Act.put, List.setIfInBounds_toArray, List.set_cons_zero, List.set_cons_succ, List.getElem_toArray, List.getElem_cons_succ, List.getElem_cons_zero]
  refine wpAnyH_take (i := 3) (v := ?_) rfl (by kernel_rfl) (by kernel_rfl) (by kernel_rfl) (fun _ _ _ h => h) (Or.inl ⟨by rfl, ?_⟩) (by assumption) ?_
  rotate_left
  · intro w' hSw
    go_simp
    try with_reducible rfl
  try simp only [Act.put, List.setIfInBounds_toArray, List.set_cons_zero, List.set_cons_succ, List.getElem_toArray, List.getElem_cons_succ, List.getElem_cons_zero]
  refine wpAnyH_take (i := 4) (v := ?_) rfl (by kernel_rfl) (by kernel_rfl) (by kernel_rfl) (fun _ _ _ h => h) (Or.inl ⟨by rfl, ?_⟩) (by assumption) ?_
  rotate_left
  · intro w' hSw
    go_simp
    try with_reducible rfl
  try simp only [Act.put, List.setIfInBounds_toArray, List.set_cons_zero, List.set_cons_succ, List.getElem_toArray, List.getElem_cons_succ, List.getElem_cons_zero]
  refine wpAnyH_take (i := 5) (v := ?_) rfl (by kernel_rfl) (by kernel_rfl) (by kernel_rfl) (fun _ _ _ h => h) (Or.inl ⟨by rfl, ?_⟩) (by assumption) ?_
  rotate_left
  · intro w' hSw
    go_simp
    try with_reducible rfl
  try simp only [Act.put, List.setIfInBounds_toArray, List.set_cons_zero, List.set_cons_succ, List.getElem_toArray, List.getElem_cons_succ, List.getElem_cons_zero]
  refine wpAnyH_take (i := 6) (v := ?_) rfl (by kernel_rfl) (by kernel_rfl) (by kernel_rfl) (fun _ _ _ h => h) (Or.inl ⟨by rfl, ?_⟩) (by assumption) ?_
  rotate_left
  · intro w' hSw
    go_simp
    try with_reducible rfl
  try simp only [Act.put, List.setIfInBounds_toArray, List.set_cons_zero, List.set_cons_succ, List.getElem_toArray, List.getElem_cons_succ, List.getElem_cons_zero]
  refine wpAnyH_take (i := 7) (v := ?_) rfl (by kernel_rfl) (by kernel_rfl) (by kernel_rfl) (fun _ _ _ h => h) (Or.inl ⟨by rfl, ?_⟩) (by assumption) ?_
  rotate_left
  · intro w' hSw
    go_simp
    try with_reducible rfl
  try simp only [Act.put, List.setIfInBounds_toArray, List.set_cons_zero, List.set_cons_succ, List.getElem_toArray, List.getElem_cons_succ, List.getElem_cons_zero]
  refine wpAnyH_take (i := 9) (v := _) rfl (by kernel_rfl) (by kernel_rfl) (by kernel_rfl) (fun _ _ _ h => h) (yields_blk 34 _ w2.heap.size 0 34 (lineC x) (lineC x) _ (by rfl) rfl rfl (fun _ h => h.2) Tryz.underlying34 rfl (infoL _) (part_line _)) (by assumption) ?_
  try simp only [Act.put, List.setIfInBounds_toArray, List.set_cons_zero, List.set_cons_succ, List.getElem_toArray, List.getElem_cons_succ, List.getElem_cons_zero]
  refine wpAnyH_ready (rs := [8]) (by kernel_rfl) (by simp) ?_
  refine AllReadyH.cons rfl (fun K hK => ?_) AllReadyH.nil
  go_simp
  refine (HP.out _ hHeld.1).mono ?_
  rintro e w7 ⟨rfl, hf7⟩
  refine hK.out _ _ (kl1 hHeld hf7) (fun hHeld2 => ?_)
  clear hK K hHeld hf7
  rename_i hHeld2
  have hHeld := hHeld2
  clear hHeld2
  try simp only [Act.put, List.setIfInBounds_toArray, List.set_cons_zero, List.set_cons_succ, List.getElem_toArray, List.getElem_cons_succ, List.getElem_cons_zero]
  refine wpAnyH_take (i := 10) (v := ?_) rfl (by kernel_rfl) (by kernel_rfl) (by kernel_rfl) (fun _ _ _ h => h) (Or.inl ⟨by rfl, ?_⟩) (by assumption) ?_
  rotate_left
  · intro w' hSw
    go_simp
    try with_reducible rfl
  try simp only [Act.put, List.setIfInBounds_toArray, List.set_cons_zero, List.set_cons_succ, List.getElem_toArray, List.getElem_cons_succ, List.getElem_cons_zero]
  refine wpAnyH_take (i := 11) (v := ?_) rfl (by kernel_rfl) (by kernel_rfl) (by kernel_rfl) (fun _ _ _ h => h) (Or.inl ⟨by rfl, ?_⟩) (by assumption) ?_
  rotate_left
  · intro w' hSw
    go_simp
    try with_reducible rfl
  try simp only [Act.put, List.setIfInBounds_toArray, List.set_cons_zero, List.set_cons_succ, List.getElem_toArray, List.getElem_cons_succ, List.getElem_cons_zero]
  refine wpAnyH_take (i := 12) (v := ?_) rfl (by kernel_rfl) (by kernel_rfl) (by kernel_rfl) (fun _ _ _ h => h) (Or.inl ⟨by rfl, ?_⟩) (by assumption) ?_
  rotate_left
  · intro w' hSw
    go_simp
    try with_reducible rfl
  try simp only [Act.put, List.setIfInBounds_toArray, List.set_cons_zero, List.set_cons_succ, List.getElem_toArray, List.getElem_cons_succ, List.getElem_cons_zero]
  refine wpAnyH_take (i := 13) (v := ?_) rfl (by kernel_rfl) (by kernel_rfl) (by kernel_rfl) (fun _ _ _ h => h) (Or.inl ⟨by rfl, ?_⟩) (by assumption) ?_
  rotate_left
  · intro w' hSw
    go_simp
    try with_reducible rfl
  try simp only [Act.put, List.setIfInBounds_toArray, List.set_cons_zero, List.set_cons_succ, List.getElem_toArray, List.getElem_cons_succ, List.getElem_cons_zero]
  refine wpAnyH_take (i := 14) (v := ?_) rfl (by kernel_rfl) (by kernel_rfl) (by kernel_rfl) (fun _ _ _ h => h) (Or.inl ⟨by rfl, ?_⟩) (by assumption) ?_
  rotate_left
  · intro w' hSw
    go_simp
    try with_reducible rfl
  try simp only [Act.put, List.setIfInBounds_toArray, List.set_cons_zero, List.set_cons_succ, List.getElem_toArray, List.getElem_cons_succ, List.getElem_cons_zero]
  refine wpAnyH_take (i := 15) (v := ?_) rfl (by kernel_rfl) (by kernel_rfl) (by kernel_rfl) (fun _ _ _ h => h) (Or.inl ⟨by rfl, ?_⟩) (by assumption) ?_
  rotate_left
  · intro w' hSw
    go_simp
    try with_reducible rfl
  try simp only [Act.put, List.setIfInBounds_toArray, List.set_cons_zero, List.set_cons_succ, List.getElem_toArray, List.getElem_cons_succ, List.getElem_cons_zero]
  refine wpAnyH_take (i := 16) (v := ?_) rfl (by kernel_rfl) (by kernel_rfl) (by kernel_rfl) (fun _ _ _ h => h) (Or.inl ⟨by rfl, ?_⟩) (by assumption) ?_
  rotate_left
  · intro w' hSw
    go_simp
    try with_reducible rfl
  try simp only [Act.put, List.setIfInBounds_toArray, List.set_cons_zero, List.set_cons_succ, List.getElem_toArray, List.getElem_cons_succ, List.getElem_cons_zero]
  refine wpAnyH_take (i := 17) (v := ?_) rfl (by kernel_rfl) (by kernel_rfl) (by kernel_rfl) (fun _ _ _ h => h) (Or.inl ⟨by rfl, ?_⟩) (by assumption) ?_
  rotate_left
  · intro w' hSw
    go_simp
    try with_reducible rfl
  try simp only [Act.put, List.setIfInBounds_toArray, List.set_cons_zero, List.set_cons_succ, List.getElem_toArray, List.getElem_cons_succ, List.getElem_cons_zero]
  refine wpAnyH_take (i := 18) (v := _) rfl (by kernel_rfl) (by kernel_rfl) (by kernel_rfl) (fun _ _ _ h => h) (yields_blk 34 _ w2.heap.size 0 34 (lineC x) (lineC x) _ (by rfl) rfl rfl (fun _ h => h.2) Tryz.underlying34 rfl (infoL _) (part_line _)) (by assumption) ?_
  try simp only [Act.put, List.setIfInBounds_toArray, List.set_cons_zero, List.set_cons_succ, List.getElem_toArray, List.getElem_cons_succ, List.getElem_cons_zero]
  refine wpAnyH_ready (rs := [19]) (by kernel_rfl) (by simp) ?_
  refine AllReadyH.cons rfl (fun K hK => ?_) AllReadyH.nil
  go_simp
  refine (HR.out _ hHeld.1).mono ?_
  rintro e w8 ⟨rfl, hf8⟩
  refine hK.out _ _ (kl1 hHeld hf8) (fun hHeld2 => ?_)
  clear hK K hHeld hf8
  rename_i hHeld2
  have hHeld := hHeld2
  clear hHeld2
  try simp only [Act.put, List.setIfInBounds_toArray, List.set_cons_zero, List.set_cons_succ, List.getElem_toArray, List.getElem_cons_succ, List.getElem_cons_zero]
  refine wpAnyH_take (i := 20) (v := ?_) rfl (by kernel_rfl) (by kernel_rfl) (by kernel_rfl) (fun _ _ _ h => h) (Or.inl ⟨by rfl, ?_⟩) (by assumption) ?_
  rotate_left
  · intro w' hSw
    go_simp
    try with_reducible rfl
  try simp only [Act.put, List.setIfInBounds_toArray, List.set_cons_zero, List.set_cons_succ, List.getElem_toArray, List.getElem_cons_succ, List.getElem_cons_zero]
  refine wpAnyH_take (i := 21) (v := ?_) rfl (by kernel_rfl) (by kernel_rfl) (by kernel_rfl) (fun _ _ _ h => h) (Or.inl ⟨by rfl, ?_⟩) (by assumption) ?_
  rotate_left
  · intro w' hSw
    go_simp
    try with_reducible rfl
  try simp only [Act.put, List.setIfInBounds_toArray, List.set_cons_zero, List.set_cons_succ, List.getElem_toArray, List.getElem_cons_succ, List.getElem_cons_zero]
  refine wpAnyH_ready (rs := [22]) (by kernel_rfl) (by simp) ?_
  refine AllReadyH.cons rfl (fun K hK => ?_) AllReadyH.nil
  go_simp
  refine (HA.out _ hHeld.1).mono ?_
  rintro e w9 ⟨rfl, hf9⟩
  refine hK.out _ _ (kl1 hHeld hf9) (fun hHeld2 => ?_)
  clear hK K hHeld hf9
  rename_i hHeld2
  have hHeld := hHeld2
  clear hHeld2
  try simp only [Act.put, List.setIfInBounds_toArray, List.set_cons_zero, List.set_cons_succ, List.getElem_toArray, List.getElem_cons_succ, List.getElem_cons_zero]
  refine wpAnyH_take (i := 23) (v := ?_) rfl (by kernel_rfl) (by kernel_rfl) (by kernel_rfl) (fun _ _ _ h => h) (Or.inl ⟨by rfl, ?_⟩) (by assumption) ?_
  rotate_left
  · intro w' hSw
    go_simp
    try with_reducible rfl
  try simp only [Act.put, List.setIfInBounds_toArray, List.set_cons_zero, List.set_cons_succ, List.getElem_toArray, List.getElem_cons_succ, List.getElem_cons_zero]
  refine wpAnyH_take (i := 24) (v := ?_) rfl (by kernel_rfl) (by kernel_rfl) (by kernel_rfl) (fun _ _ _ h => h) (Or.inl ⟨by rfl, ?_⟩) (by assumption) ?_
  rotate_left
  · intro w' hSw
    go_simp
    try with_reducible rfl
  try simp only [Act.put, List.setIfInBounds_toArray, List.set_cons_zero, List.set_cons_succ, List.getElem_toArray, List.getElem_cons_succ, List.getElem_cons_zero]
  refine wpAnyH_done (by kernel_rfl) ?_ _
  have HF := Lib.hid hHeld.1
  clear hHeld
  go_wp2_with fail
  go_ret
  exact ⟨rfl, HF.out⟩
theorem again_walk (hP : ParseC) (hS : ShowC) (hR : RightC) (s : Bs) (w : World) (hw : LOk w) : Calls Tryz.prog 4 #[strV s] w fun e w' => e = .returned (.bool true) ∧ Fr w w' (fun _ => False) := by
  by_cases hl : 1000 < s.length
  · exact again_long hP hS s w hw hl
  · have hl : s.length ≤ 1000 := by omega
    by_cases ho : lineOk (parseL s)
    · exact again_right hP hS hR s _ ho w hw hl rfl
    · obtain ⟨k, c, h, hk, h0, h1⟩ := parse_wrong ho
      exact again_wrong hP hS s k c hk h0 h1 w hw hl h
end Go.Proofs.YtgcheollgnhdlaaGreatDoor
