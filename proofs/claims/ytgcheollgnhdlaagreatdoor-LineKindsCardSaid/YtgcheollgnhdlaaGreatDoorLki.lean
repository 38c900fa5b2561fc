import Derived.Test.YtgcheollgnhdlaaGreatDoorLin2
import Derived.Test.YtgcheollgnhdlaaGreatDoorLbw
namespace Go.Proofs.YtgcheollgnhdlaaGreatDoor
open Go.RowKit Go.Mem Go.Lin

set_option maxHeartbeats 1600000 in
theorem kinds_long (hP : ParseC) (hS : ShowC) (s : Bs) (w : World) (hw : LOk w) (hl : 1000 < s.length) : Calls Tryz.prog 6 #[strV s] w fun e w' => e = .returned (.bool true) ∧ Fr w w' (fun _ => False) := by
  have HA := Lib.hid (alive_any hP hS w hw)
  have h2 : (1000 : Int) < (s.length : Int) := by omega
  clear hP hS hw hl
  go_enter Tryz.func6, Tryz.ntmps6
  go_wp2_with fail
  refine HA.out.mono ?_
  rintro e0 w2 ⟨rfl, hf⟩
  have HF := Lib.hid hf
  clear hf
  go_wp2_with fail
  go_ret
  exact ⟨rfl, HF.out⟩
set_option maxRecDepth 100000 in
set_option maxHeartbeats 1600000 in
theorem kinds_0 (hP : ParseC) (hS : ShowC) (s : Bs) (w : World) (hw : LOk w) (hl : s.length ≤ 1000) (h : parseL s = ({ lineZ with kind := 0 } : LineL)) : Calls Tryz.prog 6 #[strV s] w fun e w' => e = .returned (.bool true) ∧ Fr w w' (fun _ => False) := by
  have H1 := Lib.hid (hP s _ w hw hl h)
  have HA := Lib.hid (fun W (f : Fr w W (fun _ => False)) => alive_any hP hS W (hw.fr f))
  have h2 : (s.length : Int) ≤ 1000 := by omega
  have E1 := fun w => eql_line ({ lineZ with kind := 0 } : LineL) ({ lineZ with kind := 0 } : LineL) w
  rw [decide_eq_true (show ({ lineZ with kind := 0 } : LineL) = ({ lineZ with kind := 0 } : LineL) from rfl)] at E1
  clear hP hS hw hl h
  go_enter Tryz.func6, Tryz.ntmps6
  go_wp2_with fail
  refine H1.out.mono ?_
  rintro e0 w2 ⟨rfl, hf2⟩
  have HF2 := Lib.hid (ff hf2 (Fr.new w2 (.cells (lineC lineZ) 34) (fun _ => False)))
  have hge2 := hf2.size
  clear hf2
  go_wp2_with (first
      | (refine wpList_store_blk 34 _ _ w2.heap.size 0 34 (lineC lineZ) (lineC ({ lineZ with kind := 0 } : LineL)) (lineC ({ lineZ with kind := 0 } : LineL)) (by rfl) rfl rfl rfl rfl (Blk.made w2 34 (lineC lineZ)) (infoL _) (lineC_one _) (show 0 + 29 ≤ 29 by decide) (put_line _ _) ?_
         intro w3 hf3 hb3
         have HF3 := Lib.hid (fr_fresh HF2.out hf3 hge2)
         have HB3 := Lib.hid hb3
         have lt3 := hb3.lt
         have HN3 := Lib.hid (ff HF3.out (Fr.new w3 (.cells (lineC lineZ) 34) (fun _ => False)))
         have hge3 := HF3.out.size
         have c0 : w3.cell? ⟨w2.heap.size, 0, none⟩ = some (intV 0) := cell_at hb3 0
         clear hf3 hb3 hge2)
      | (refine wpList_store_blk 34 _ _ w3.heap.size 0 34 (lineC lineZ) (lineC ({ lineZ with kind := 0 } : LineL)) (lineC ({ lineZ with kind := 0 } : LineL)) (by rfl) rfl rfl rfl rfl (Blk.made w3 34 (lineC lineZ)) (infoL _) (lineC_one _) (show 0 + 29 ≤ 29 by decide) (put_line _ _) ?_
         intro w4 hf4 hb4
         have HF4 := Lib.hid (fr_fresh HN3.out hf4 hge3)
         have HC4 := Lib.hid (blk_far (blk_new HB3.out) hf4 (by omega))
         have HB4 := Lib.hid hb4
         have d0 : w4.cell? ⟨w2.heap.size, 0, none⟩ = some (intV 0) := cell_at HC4.out 0
         clear hf4 hb4 c0)
      | (refine wpList_load_blk 34 _ w2.heap.size 0 34 (lineC ({ lineZ with kind := 0 } : LineL)) (lineC ({ lineZ with kind := 0 } : LineL)) _ (by rfl) rfl rfl HC4.out Tryz.underlying34 rfl (infoL _) (part_line _) ?_)
      | (refine wpList_load_blk 34 _ w3.heap.size 0 34 (lineC ({ lineZ with kind := 0 } : LineL)) (lineC ({ lineZ with kind := 0 } : LineL)) _ (by rfl) rfl rfl HB4.out Tryz.underlying34 rfl (infoL _) (part_line _) ?_))
  refine (HA.out _ HF4.out).mono ?_
  rintro e0 w9 ⟨rfl, hf9⟩
  have HF9 := Lib.hid (ff HF4.out hf9)
  clear hf9
  go_wp2_with fail
  go_ret
  exact ⟨by first | rfl | (simp; exact hk), HF9.out⟩
set_option maxRecDepth 100000 in
set_option maxHeartbeats 1600000 in
theorem kinds_1 (hP : ParseC) (hS : ShowC) (s : Bs) (r : RuleL) (w : World) (hw : LOk w) (hl : s.length ≤ 1000) (h : parseL s = ({ lineZ with kind := 1, rule := r } : LineL)) : Calls Tryz.prog 6 #[strV s] w fun e w' => e = .returned (.bool true) ∧ Fr w w' (fun _ => False) := by
  have H1 := Lib.hid (hP s _ w hw hl h)
  have HA := Lib.hid (fun W (f : Fr w W (fun _ => False)) => alive_any hP hS W (hw.fr f))
  have h2 : (s.length : Int) ≤ 1000 := by omega
  have E1 := fun w => eql_line ({ lineZ with kind := 1, rule := r } : LineL) ({ lineZ with kind := 1, rule := r } : LineL) w
  rw [decide_eq_true (show ({ lineZ with kind := 1, rule := r } : LineL) = ({ lineZ with kind := 1, rule := r } : LineL) from rfl)] at E1
  clear hP hS hw hl h
  go_enter Tryz.func6, Tryz.ntmps6
  go_wp2_with fail
  refine H1.out.mono ?_
  rintro e0 w2 ⟨rfl, hf2⟩
  have HF2 := Lib.hid (ff hf2 (Fr.new w2 (.cells (lineC lineZ) 34) (fun _ => False)))
  have hge2 := hf2.size
  clear hf2
  go_wp2_with (first
      | (refine wpList_store_blk 34 _ _ w2.heap.size 0 34 (lineC lineZ) (lineC ({ lineZ with kind := 1, rule := r } : LineL)) (lineC ({ lineZ with kind := 1, rule := r } : LineL)) (by rfl) rfl rfl rfl rfl (Blk.made w2 34 (lineC lineZ)) (infoL _) (lineC_one _) (show 0 + 29 ≤ 29 by decide) (put_line _ _) ?_
         intro w3 hf3 hb3
         have HF3 := Lib.hid (fr_fresh HF2.out hf3 hge2)
         have HB3 := Lib.hid hb3
         have lt3 := hb3.lt
         have HN3 := Lib.hid (ff HF3.out (Fr.new w3 (.cells (lineC lineZ) 34) (fun _ => False)))
         have hge3 := HF3.out.size
         have c0 : w3.cell? ⟨w2.heap.size, 0, none⟩ = some (intV 1) := cell_at hb3 0
         clear hf3 hb3 hge2)
      | (refine wpList_store_blk 34 _ _ w3.heap.size 0 34 (lineC lineZ) (lineC ({ lineZ with kind := 1 } : LineL)) (lineC ({ lineZ with kind := 1 } : LineL)) (by rfl) rfl rfl rfl rfl (Blk.made w3 34 (lineC lineZ)) (infoL _) (lineC_one _) (show 0 + 29 ≤ 29 by decide) (put_line _ _) ?_
         intro w4 hf4 hb4
         have HF4 := Lib.hid (fr_fresh HN3.out hf4 hge3)
         have HC4 := Lib.hid (blk_far (blk_new HB3.out) hf4 (by omega))
         have HB4 := Lib.hid hb4
         have d0 : w4.cell? ⟨w2.heap.size, 0, none⟩ = some (intV 1) := cell_at HC4.out 0
         clear hf4 hb4 c0)
      | (refine wpList_load_blk 27 _ w2.heap.size 1 34 (lineC ({ lineZ with kind := 1, rule := r } : LineL)) (ruleC r) _ (by rfl) rfl rfl HC4.out Tryz.underlying27 rfl (infoR _) (part_rule ({ lineZ with kind := 1, rule := r } : LineL)) ?_)
      | (refine wpList_store_blk 27 _ _ w3.heap.size 1 34 (lineC ({ lineZ with kind := 1 } : LineL)) (ruleC r) (lineC ({ lineZ with kind := 1, rule := r } : LineL)) (by rfl) rfl rfl rfl rfl HB4.out (infoR _) (ruleC_one _) (show 1 + 11 ≤ 29 by decide) (put_rule _ _) ?_
         intro w5 hf5 hb5
         have HF5 := Lib.hid (fr_fresh HF4.out hf5 hge3)
         have HC5 := Lib.hid (blk_far HC4.out hf5 (by omega))
         have HB5 := Lib.hid hb5
         have e0 : w5.cell? ⟨w2.heap.size, 0, none⟩ = some (intV 1) := cell_at HC5.out 0
         clear hf5 hb5)
      | (refine wpList_load_blk 34 _ w2.heap.size 0 34 (lineC ({ lineZ with kind := 1, rule := r } : LineL)) (lineC ({ lineZ with kind := 1, rule := r } : LineL)) _ (by rfl) rfl rfl HC5.out Tryz.underlying34 rfl (infoL _) (part_line _) ?_)
      | (refine wpList_load_blk 34 _ w3.heap.size 0 34 (lineC ({ lineZ with kind := 1, rule := r } : LineL)) (lineC ({ lineZ with kind := 1, rule := r } : LineL)) _ (by rfl) rfl rfl HB5.out Tryz.underlying34 rfl (infoL _) (part_line _) ?_))
  refine (HA.out _ HF5.out).mono ?_
  rintro e0 w9 ⟨rfl, hf9⟩
  have HF9 := Lib.hid (ff HF5.out hf9)
  clear hf9
  go_wp2_with fail
  go_ret
  exact ⟨by first | rfl | (simp; exact hk), HF9.out⟩
set_option maxRecDepth 100000 in
set_option maxHeartbeats 1600000 in
theorem kinds_2 (hP : ParseC) (hS : ShowC) (s : Bs) (n : Bs) (e : EraL) (w : World) (hw : LOk w) (hl : s.length ≤ 1000) (h : parseL s = ({ lineZ with kind := 2, name := n, era := e } : LineL)) : Calls Tryz.prog 6 #[strV s] w fun e w' => e = .returned (.bool true) ∧ Fr w w' (fun _ => False) := by
  have H1 := Lib.hid (hP s _ w hw hl h)
  have HA := Lib.hid (fun W (f : Fr w W (fun _ => False)) => alive_any hP hS W (hw.fr f))
  have h2 : (s.length : Int) ≤ 1000 := by omega
  have E1 := fun w => eql_line ({ lineZ with kind := 2, name := n, era := e } : LineL) ({ lineZ with kind := 2, name := n, era := e } : LineL) w
  rw [decide_eq_true (show ({ lineZ with kind := 2, name := n, era := e } : LineL) = ({ lineZ with kind := 2, name := n, era := e } : LineL) from rfl)] at E1
  clear hP hS hw hl h
  go_enter Tryz.func6, Tryz.ntmps6
  go_wp2_with fail
  refine H1.out.mono ?_
  rintro e0 w2 ⟨rfl, hf2⟩
  have HF2 := Lib.hid (ff hf2 (Fr.new w2 (.cells (lineC lineZ) 34) (fun _ => False)))
  have hge2 := hf2.size
  clear hf2
  go_wp2_with (first
      | (refine wpList_store_blk 34 _ _ w2.heap.size 0 34 (lineC lineZ) (lineC ({ lineZ with kind := 2, name := n, era := e } : LineL)) (lineC ({ lineZ with kind := 2, name := n, era := e } : LineL)) (by rfl) rfl rfl rfl rfl (Blk.made w2 34 (lineC lineZ)) (infoL _) (lineC_one _) (show 0 + 29 ≤ 29 by decide) (put_line _ _) ?_
         intro w3 hf3 hb3
         have HF3 := Lib.hid (fr_fresh HF2.out hf3 hge2)
         have HB3 := Lib.hid hb3
         have lt3 := hb3.lt
         have HN3 := Lib.hid (ff HF3.out (Fr.new w3 (.cells (lineC lineZ) 34) (fun _ => False)))
         have hge3 := HF3.out.size
         have c0 : w3.cell? ⟨w2.heap.size, 0, none⟩ = some (intV 2) := cell_at hb3 0
         clear hf3 hb3 hge2)
      | (refine wpList_store_blk 34 _ _ w3.heap.size 0 34 (lineC lineZ) (lineC ({ lineZ with kind := 2 } : LineL)) (lineC ({ lineZ with kind := 2 } : LineL)) (by rfl) rfl rfl rfl rfl (Blk.made w3 34 (lineC lineZ)) (infoL _) (lineC_one _) (show 0 + 29 ≤ 29 by decide) (put_line _ _) ?_
         intro w4 hf4 hb4
         have HF4 := Lib.hid (fr_fresh HN3.out hf4 hge3)
         have HC4 := Lib.hid (blk_far (blk_new HB3.out) hf4 (by omega))
         have HB4 := Lib.hid hb4
         have d0 : w4.cell? ⟨w2.heap.size, 0, none⟩ = some (intV 2) := cell_at HC4.out 0
         have d12 : w4.cell? ⟨w2.heap.size, 12, none⟩ = some (strV n) := cell_at HC4.out 12
         clear hf4 hb4 c0)
      | (refine wpList_store_cell 9 _ _ w3.heap.size 12 34 (lineC ({ lineZ with kind := 2 } : LineL)) (lineC ({ lineZ with kind := 2, name := n } : LineL)) (strV n) (by rfl) rfl rfl rfl rfl HB4.out info_str rfl (show 12 < 29 by decide) rfl ?_
         intro w5 hf5 hb5
         have HF5 := Lib.hid (fr_fresh HF4.out hf5 hge3)
         have HC5 := Lib.hid (blk_far HC4.out hf5 (by omega))
         have HB5 := Lib.hid hb5
         have e0 : w5.cell? ⟨w2.heap.size, 0, none⟩ = some (intV 2) := cell_at HC5.out 0
         have e12 : w5.cell? ⟨w2.heap.size, 12, none⟩ = some (strV n) := cell_at HC5.out 12
         clear hf5 hb5)
      | (refine wpList_load_blk 31 _ w2.heap.size 14 34 (lineC ({ lineZ with kind := 2, name := n, era := e } : LineL)) (eraC e) _ (by rfl) rfl rfl HC5.out Tryz.underlying31 rfl (infoE _) (part_era ({ lineZ with kind := 2, name := n, era := e } : LineL)) ?_)
      | (refine wpList_store_blk 31 _ _ w3.heap.size 14 34 (lineC ({ lineZ with kind := 2, name := n } : LineL)) (eraC e) (lineC ({ lineZ with kind := 2, name := n, era := e } : LineL)) (by rfl) rfl rfl rfl rfl HB5.out (infoE _) (eraC_one _) (show 14 + 13 ≤ 29 by decide) (put_era _ _) ?_
         intro w6 hf6 hb6
         have HF6 := Lib.hid (fr_fresh HF5.out hf6 hge3)
         have HC6 := Lib.hid (blk_far HC5.out hf6 (by omega))
         have HB6 := Lib.hid hb6
         have f0 : w6.cell? ⟨w2.heap.size, 0, none⟩ = some (intV 2) := cell_at HC6.out 0
         have f12 : w6.cell? ⟨w2.heap.size, 12, none⟩ = some (strV n) := cell_at HC6.out 12
         clear hf6 hb6)
      | (refine wpList_load_blk 34 _ w2.heap.size 0 34 (lineC ({ lineZ with kind := 2, name := n, era := e } : LineL)) (lineC ({ lineZ with kind := 2, name := n, era := e } : LineL)) _ (by rfl) rfl rfl HC6.out Tryz.underlying34 rfl (infoL _) (part_line _) ?_)
      | (refine wpList_load_blk 34 _ w3.heap.size 0 34 (lineC ({ lineZ with kind := 2, name := n, era := e } : LineL)) (lineC ({ lineZ with kind := 2, name := n, era := e } : LineL)) _ (by rfl) rfl rfl HB6.out Tryz.underlying34 rfl (infoL _) (part_line _) ?_))
  refine (HA.out _ HF6.out).mono ?_
  rintro e0 w9 ⟨rfl, hf9⟩
  have HF9 := Lib.hid (ff HF6.out hf9)
  clear hf9
  go_wp2_with fail
  go_ret
  exact ⟨by first | rfl | (simp; exact hk), HF9.out⟩
set_option maxRecDepth 100000 in
set_option maxHeartbeats 1600000 in
theorem kinds_3 (hP : ParseC) (hS : ShowC) (s : Bs) (e : EraL) (w : World) (hw : LOk w) (hl : s.length ≤ 1000) (h : parseL s = ({ lineZ with kind := 3, era := e } : LineL)) : Calls Tryz.prog 6 #[strV s] w fun e w' => e = .returned (.bool true) ∧ Fr w w' (fun _ => False) := by
  have H1 := Lib.hid (hP s _ w hw hl h)
  have HA := Lib.hid (fun W (f : Fr w W (fun _ => False)) => alive_any hP hS W (hw.fr f))
  have h2 : (s.length : Int) ≤ 1000 := by omega
  have E1 := fun w => eql_line ({ lineZ with kind := 3, era := e } : LineL) ({ lineZ with kind := 3, era := e } : LineL) w
  rw [decide_eq_true (show ({ lineZ with kind := 3, era := e } : LineL) = ({ lineZ with kind := 3, era := e } : LineL) from rfl)] at E1
  clear hP hS hw hl h
  go_enter Tryz.func6, Tryz.ntmps6
  go_wp2_with fail
  refine H1.out.mono ?_
  rintro e0 w2 ⟨rfl, hf2⟩
  have HF2 := Lib.hid (ff hf2 (Fr.new w2 (.cells (lineC lineZ) 34) (fun _ => False)))
  have hge2 := hf2.size
  clear hf2
  go_wp2_with (first
      | (refine wpList_store_blk 34 _ _ w2.heap.size 0 34 (lineC lineZ) (lineC ({ lineZ with kind := 3, era := e } : LineL)) (lineC ({ lineZ with kind := 3, era := e } : LineL)) (by rfl) rfl rfl rfl rfl (Blk.made w2 34 (lineC lineZ)) (infoL _) (lineC_one _) (show 0 + 29 ≤ 29 by decide) (put_line _ _) ?_
         intro w3 hf3 hb3
         have HF3 := Lib.hid (fr_fresh HF2.out hf3 hge2)
         have HB3 := Lib.hid hb3
         have lt3 := hb3.lt
         have HN3 := Lib.hid (ff HF3.out (Fr.new w3 (.cells (lineC lineZ) 34) (fun _ => False)))
         have hge3 := HF3.out.size
         have c0 : w3.cell? ⟨w2.heap.size, 0, none⟩ = some (intV 3) := cell_at hb3 0
         clear hf3 hb3 hge2)
      | (refine wpList_store_blk 34 _ _ w3.heap.size 0 34 (lineC lineZ) (lineC ({ lineZ with kind := 3 } : LineL)) (lineC ({ lineZ with kind := 3 } : LineL)) (by rfl) rfl rfl rfl rfl (Blk.made w3 34 (lineC lineZ)) (infoL _) (lineC_one _) (show 0 + 29 ≤ 29 by decide) (put_line _ _) ?_
         intro w4 hf4 hb4
         have HF4 := Lib.hid (fr_fresh HN3.out hf4 hge3)
         have HC4 := Lib.hid (blk_far (blk_new HB3.out) hf4 (by omega))
         have HB4 := Lib.hid hb4
         have d0 : w4.cell? ⟨w2.heap.size, 0, none⟩ = some (intV 3) := cell_at HC4.out 0
         clear hf4 hb4 c0)
      | (refine wpList_load_blk 31 _ w2.heap.size 14 34 (lineC ({ lineZ with kind := 3, era := e } : LineL)) (eraC e) _ (by rfl) rfl rfl HC4.out Tryz.underlying31 rfl (infoE _) (part_era ({ lineZ with kind := 3, era := e } : LineL)) ?_)
      | (refine wpList_store_blk 31 _ _ w3.heap.size 14 34 (lineC ({ lineZ with kind := 3 } : LineL)) (eraC e) (lineC ({ lineZ with kind := 3, era := e } : LineL)) (by rfl) rfl rfl rfl rfl HB4.out (infoE _) (eraC_one _) (show 14 + 13 ≤ 29 by decide) (put_era _ _) ?_
         intro w5 hf5 hb5
         have HF5 := Lib.hid (fr_fresh HF4.out hf5 hge3)
         have HC5 := Lib.hid (blk_far HC4.out hf5 (by omega))
         have HB5 := Lib.hid hb5
         have e0 : w5.cell? ⟨w2.heap.size, 0, none⟩ = some (intV 3) := cell_at HC5.out 0
         clear hf5 hb5)
      | (refine wpList_load_blk 34 _ w2.heap.size 0 34 (lineC ({ lineZ with kind := 3, era := e } : LineL)) (lineC ({ lineZ with kind := 3, era := e } : LineL)) _ (by rfl) rfl rfl HC5.out Tryz.underlying34 rfl (infoL _) (part_line _) ?_)
      | (refine wpList_load_blk 34 _ w3.heap.size 0 34 (lineC ({ lineZ with kind := 3, era := e } : LineL)) (lineC ({ lineZ with kind := 3, era := e } : LineL)) _ (by rfl) rfl rfl HB5.out Tryz.underlying34 rfl (infoL _) (part_line _) ?_))
  refine (HA.out _ HF5.out).mono ?_
  rintro e0 w9 ⟨rfl, hf9⟩
  have HF9 := Lib.hid (ff HF5.out hf9)
  clear hf9
  go_wp2_with fail
  go_ret
  exact ⟨by first | rfl | (simp; exact hk), HF9.out⟩
set_option maxRecDepth 100000 in
set_option maxHeartbeats 1600000 in
theorem kinds_4 (hP : ParseC) (hS : ShowC) (s : Bs) (n : Bs) (t : Bs) (w : World) (hw : LOk w) (hl : s.length ≤ 1000) (h : parseL s = ({ lineZ with kind := 4, name := n, target := t } : LineL)) : Calls Tryz.prog 6 #[strV s] w fun e w' => e = .returned (.bool true) ∧ Fr w w' (fun _ => False) := by
  have H1 := Lib.hid (hP s _ w hw hl h)
  have HA := Lib.hid (fun W (f : Fr w W (fun _ => False)) => alive_any hP hS W (hw.fr f))
  have h2 : (s.length : Int) ≤ 1000 := by omega
  have E1 := fun w => eql_line ({ lineZ with kind := 4, name := n, target := t } : LineL) ({ lineZ with kind := 4, name := n, target := t } : LineL) w
  rw [decide_eq_true (show ({ lineZ with kind := 4, name := n, target := t } : LineL) = ({ lineZ with kind := 4, name := n, target := t } : LineL) from rfl)] at E1
  clear hP hS hw hl h
  go_enter Tryz.func6, Tryz.ntmps6
  go_wp2_with fail
  refine H1.out.mono ?_
  rintro e0 w2 ⟨rfl, hf2⟩
  have HF2 := Lib.hid (ff hf2 (Fr.new w2 (.cells (lineC lineZ) 34) (fun _ => False)))
  have hge2 := hf2.size
  clear hf2
  go_wp2_with (first
      | (refine wpList_store_blk 34 _ _ w2.heap.size 0 34 (lineC lineZ) (lineC ({ lineZ with kind := 4, name := n, target := t } : LineL)) (lineC ({ lineZ with kind := 4, name := n, target := t } : LineL)) (by rfl) rfl rfl rfl rfl (Blk.made w2 34 (lineC lineZ)) (infoL _) (lineC_one _) (show 0 + 29 ≤ 29 by decide) (put_line _ _) ?_
         intro w3 hf3 hb3
         have HF3 := Lib.hid (fr_fresh HF2.out hf3 hge2)
         have HB3 := Lib.hid hb3
         have lt3 := hb3.lt
         have HN3 := Lib.hid (ff HF3.out (Fr.new w3 (.cells (lineC lineZ) 34) (fun _ => False)))
         have hge3 := HF3.out.size
         have c0 : w3.cell? ⟨w2.heap.size, 0, none⟩ = some (intV 4) := cell_at hb3 0
         clear hf3 hb3 hge2)
      | (refine wpList_store_blk 34 _ _ w3.heap.size 0 34 (lineC lineZ) (lineC ({ lineZ with kind := 4 } : LineL)) (lineC ({ lineZ with kind := 4 } : LineL)) (by rfl) rfl rfl rfl rfl (Blk.made w3 34 (lineC lineZ)) (infoL _) (lineC_one _) (show 0 + 29 ≤ 29 by decide) (put_line _ _) ?_
         intro w4 hf4 hb4
         have HF4 := Lib.hid (fr_fresh HN3.out hf4 hge3)
         have HC4 := Lib.hid (blk_far (blk_new HB3.out) hf4 (by omega))
         have HB4 := Lib.hid hb4
         have d0 : w4.cell? ⟨w2.heap.size, 0, none⟩ = some (intV 4) := cell_at HC4.out 0
         have d12 : w4.cell? ⟨w2.heap.size, 12, none⟩ = some (strV n) := cell_at HC4.out 12
         have d13 : w4.cell? ⟨w2.heap.size, 13, none⟩ = some (strV t) := cell_at HC4.out 13
         clear hf4 hb4 c0)
      | (refine wpList_store_cell 9 _ _ w3.heap.size 12 34 (lineC ({ lineZ with kind := 4 } : LineL)) (lineC ({ lineZ with kind := 4, name := n } : LineL)) (strV n) (by rfl) rfl rfl rfl rfl HB4.out info_str rfl (show 12 < 29 by decide) rfl ?_
         intro w5 hf5 hb5
         have HF5 := Lib.hid (fr_fresh HF4.out hf5 hge3)
         have HC5 := Lib.hid (blk_far HC4.out hf5 (by omega))
         have HB5 := Lib.hid hb5
         have e0 : w5.cell? ⟨w2.heap.size, 0, none⟩ = some (intV 4) := cell_at HC5.out 0
         have e12 : w5.cell? ⟨w2.heap.size, 12, none⟩ = some (strV n) := cell_at HC5.out 12
         have e13 : w5.cell? ⟨w2.heap.size, 13, none⟩ = some (strV t) := cell_at HC5.out 13
         clear hf5 hb5)
      | (refine wpList_store_cell 9 _ _ w3.heap.size 13 34 (lineC ({ lineZ with kind := 4, name := n } : LineL)) (lineC ({ lineZ with kind := 4, name := n, target := t } : LineL)) (strV t) (by rfl) rfl rfl rfl rfl HB5.out info_str rfl (show 13 < 29 by decide) rfl ?_
         intro w6 hf6 hb6
         have HF6 := Lib.hid (fr_fresh HF5.out hf6 hge3)
         have HC6 := Lib.hid (blk_far HC5.out hf6 (by omega))
         have HB6 := Lib.hid hb6
         have f0 : w6.cell? ⟨w2.heap.size, 0, none⟩ = some (intV 4) := cell_at HC6.out 0
         have f12 : w6.cell? ⟨w2.heap.size, 12, none⟩ = some (strV n) := cell_at HC6.out 12
         have f13 : w6.cell? ⟨w2.heap.size, 13, none⟩ = some (strV t) := cell_at HC6.out 13
         clear hf6 hb6)
      | (refine wpList_load_blk 34 _ w2.heap.size 0 34 (lineC ({ lineZ with kind := 4, name := n, target := t } : LineL)) (lineC ({ lineZ with kind := 4, name := n, target := t } : LineL)) _ (by rfl) rfl rfl HC6.out Tryz.underlying34 rfl (infoL _) (part_line _) ?_)
      | (refine wpList_load_blk 34 _ w3.heap.size 0 34 (lineC ({ lineZ with kind := 4, name := n, target := t } : LineL)) (lineC ({ lineZ with kind := 4, name := n, target := t } : LineL)) _ (by rfl) rfl rfl HB6.out Tryz.underlying34 rfl (infoL _) (part_line _) ?_))
  refine (HA.out _ HF6.out).mono ?_
  rintro e0 w9 ⟨rfl, hf9⟩
  have HF9 := Lib.hid (ff HF6.out hf9)
  clear hf9
  go_wp2_with fail
  go_ret
  exact ⟨by first | rfl | (simp; exact hk), HF9.out⟩
set_option maxRecDepth 100000 in
set_option maxHeartbeats 1600000 in
theorem kinds_5 (hP : ParseC) (hS : ShowC) (s : Bs) (k : Int) (c : Int) (hk : k ≠ 0) (w : World) (hw : LOk w) (hl : s.length ≤ 1000) (h : parseL s = ({ lineZ with kind := 5, err := k, col := c } : LineL)) : Calls Tryz.prog 6 #[strV s] w fun e w' => e = .returned (.bool true) ∧ Fr w w' (fun _ => False) := by
  have H1 := Lib.hid (hP s _ w hw hl h)
  have HA := Lib.hid (fun W (f : Fr w W (fun _ => False)) => alive_any hP hS W (hw.fr f))
  have h2 : (s.length : Int) ≤ 1000 := by omega
  have E1 := fun w => eql_line ({ lineZ with kind := 5, err := k, col := c } : LineL) ({ lineZ with kind := 5, err := k, col := c } : LineL) w
  rw [decide_eq_true (show ({ lineZ with kind := 5, err := k, col := c } : LineL) = ({ lineZ with kind := 5, err := k, col := c } : LineL) from rfl)] at E1
  have hk0 : (k == 0) = false := by simpa using hk
  clear hP hS hw hl h
  go_enter Tryz.func6, Tryz.ntmps6
  go_wp2_with fail
  refine H1.out.mono ?_
  rintro e0 w2 ⟨rfl, hf2⟩
  have HF2 := Lib.hid (ff hf2 (Fr.new w2 (.cells (lineC lineZ) 34) (fun _ => False)))
  have hge2 := hf2.size
  clear hf2
  go_wp2_with (first
      | (refine wpList_store_blk 34 _ _ w2.heap.size 0 34 (lineC lineZ) (lineC ({ lineZ with kind := 5, err := k, col := c } : LineL)) (lineC ({ lineZ with kind := 5, err := k, col := c } : LineL)) (by rfl) rfl rfl rfl rfl (Blk.made w2 34 (lineC lineZ)) (infoL _) (lineC_one _) (show 0 + 29 ≤ 29 by decide) (put_line _ _) ?_
         intro w3 hf3 hb3
         have HF3 := Lib.hid (fr_fresh HF2.out hf3 hge2)
         have HB3 := Lib.hid hb3
         have lt3 := hb3.lt
         have HN3 := Lib.hid (ff HF3.out (Fr.new w3 (.cells (lineC lineZ) 34) (fun _ => False)))
         have hge3 := HF3.out.size
         have c0 : w3.cell? ⟨w2.heap.size, 0, none⟩ = some (intV 5) := cell_at hb3 0
         clear hf3 hb3 hge2)
      | (refine wpList_store_blk 34 _ _ w3.heap.size 0 34 (lineC lineZ) (lineC ({ lineZ with kind := 5 } : LineL)) (lineC ({ lineZ with kind := 5 } : LineL)) (by rfl) rfl rfl rfl rfl (Blk.made w3 34 (lineC lineZ)) (infoL _) (lineC_one _) (show 0 + 29 ≤ 29 by decide) (put_line _ _) ?_
         intro w4 hf4 hb4
         have HF4 := Lib.hid (fr_fresh HN3.out hf4 hge3)
         have HC4 := Lib.hid (blk_far (blk_new HB3.out) hf4 (by omega))
         have HB4 := Lib.hid hb4
         have d0 : w4.cell? ⟨w2.heap.size, 0, none⟩ = some (intV 5) := cell_at HC4.out 0
         have d27 : w4.cell? ⟨w2.heap.size, 27, none⟩ = some (intV k) := cell_at HC4.out 27
         have d28 : w4.cell? ⟨w2.heap.size, 28, none⟩ = some (intV c) := cell_at HC4.out 28
         clear hf4 hb4 c0)
      | (refine wpList_store_cell 32 _ _ w3.heap.size 27 34 (lineC ({ lineZ with kind := 5 } : LineL)) (lineC ({ lineZ with kind := 5, err := k } : LineL)) (intV k) (by rfl) rfl rfl rfl rfl HB4.out info_kind rfl (show 27 < 29 by decide) rfl ?_
         intro w5 hf5 hb5
         have HF5 := Lib.hid (fr_fresh HF4.out hf5 hge3)
         have HC5 := Lib.hid (blk_far HC4.out hf5 (by omega))
         have HB5 := Lib.hid hb5
         have e0 : w5.cell? ⟨w2.heap.size, 0, none⟩ = some (intV 5) := cell_at HC5.out 0
         have e27 : w5.cell? ⟨w2.heap.size, 27, none⟩ = some (intV k) := cell_at HC5.out 27
         have e28 : w5.cell? ⟨w2.heap.size, 28, none⟩ = some (intV c) := cell_at HC5.out 28
         clear hf5 hb5)
      | (refine wpList_store_cell 3 _ _ w3.heap.size 28 34 (lineC ({ lineZ with kind := 5, err := k } : LineL)) (lineC ({ lineZ with kind := 5, err := k, col := c } : LineL)) (intV c) (by rfl) rfl rfl rfl rfl HB5.out info_int rfl (show 28 < 29 by decide) rfl ?_
         intro w6 hf6 hb6
         have HF6 := Lib.hid (fr_fresh HF5.out hf6 hge3)
         have HC6 := Lib.hid (blk_far HC5.out hf6 (by omega))
         have HB6 := Lib.hid hb6
         have f0 : w6.cell? ⟨w2.heap.size, 0, none⟩ = some (intV 5) := cell_at HC6.out 0
         have f27 : w6.cell? ⟨w2.heap.size, 27, none⟩ = some (intV k) := cell_at HC6.out 27
         have f28 : w6.cell? ⟨w2.heap.size, 28, none⟩ = some (intV c) := cell_at HC6.out 28
         clear hf6 hb6)
      | (refine wpList_load_blk 34 _ w2.heap.size 0 34 (lineC ({ lineZ with kind := 5, err := k, col := c } : LineL)) (lineC ({ lineZ with kind := 5, err := k, col := c } : LineL)) _ (by rfl) rfl rfl HC6.out Tryz.underlying34 rfl (infoL _) (part_line _) ?_)
      | (refine wpList_load_blk 34 _ w3.heap.size 0 34 (lineC ({ lineZ with kind := 5, err := k, col := c } : LineL)) (lineC ({ lineZ with kind := 5, err := k, col := c } : LineL)) _ (by rfl) rfl rfl HB6.out Tryz.underlying34 rfl (infoL _) (part_line _) ?_))
  refine (HA.out _ HF6.out).mono ?_
  rintro e0 w9 ⟨rfl, hf9⟩
  have HF9 := Lib.hid (ff HF6.out hf9)
  clear hf9
  go_wp2_with fail
  go_ret
  exact ⟨by first | rfl | (simp; exact hk), HF9.out⟩
theorem kinds_walk (hP : ParseC) (hS : ShowC) (s : Bs) (w : World) (hw : LOk w) : Calls Tryz.prog 6 #[strV s] w fun e w' => e = .returned (.bool true) ∧ Fr w w' (fun _ => False) := by
  by_cases hl : 1000 < s.length
  · exact kinds_long hP hS s w hw hl
  · have hl : s.length ≤ 1000 := by omega
    by_cases ho : lineOk (parseL s)
    · rcases ho with h | ⟨h, -⟩ | ⟨h, -, -⟩ | ⟨h, -⟩ | ⟨h, -, -⟩
      · exact kinds_0 hP hS s w hw hl h
      · exact kinds_1 hP hS s _ w hw hl h
      · exact kinds_2 hP hS s _ _ w hw hl h
      · exact kinds_3 hP hS s _ w hw hl h
      · exact kinds_4 hP hS s _ _ w hw hl h
    · obtain ⟨k, c, h, hk, -, -⟩ := parse_wrong ho
      exact kinds_5 hP hS s k c hk w hw hl h
end Go.Proofs.YtgcheollgnhdlaaGreatDoor
