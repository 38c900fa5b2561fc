import Derived.Test.YtgcheollgnhdlaaGreatDoorLal
namespace Go.Proofs.YtgcheollgnhdlaaGreatDoor
open Go.RowKit Go.Mem Go.Lin

set_option maxHeartbeats 1600000 in
theorem light_0 (l : LineL) (w : World) (h0 : 200 < (l.name.length : Int)) : Calls Tryz.prog 7 #[lineV l] w fun e w' => e = .returned (.bool false) ∧ Fr w w' (fun _ => False) := by
  have c12 : (w.alloc (.cells (lineC l) 34)).cell? ⟨w.heap.size, 12, none⟩ = some (strV l.name) := cell_at (Blk.made w 34 (lineC l)) 12
  have d12 : (lineC l)[12]? = some (strV l.name) := rfl
  go_enter Tryz.func7, Tryz.ntmps7
  go_wp2_with fail
  go_ret
  exact ⟨by first | rfl | (simp; omega), Fr.new _ _ _⟩
set_option maxHeartbeats 1600000 in
theorem light_1 (l : LineL) (w : World) (h0 : (l.name.length : Int) ≤ 200) (h1 : 200 < (l.target.length : Int)) : Calls Tryz.prog 7 #[lineV l] w fun e w' => e = .returned (.bool false) ∧ Fr w w' (fun _ => False) := by
  have c12 : (w.alloc (.cells (lineC l) 34)).cell? ⟨w.heap.size, 12, none⟩ = some (strV l.name) := cell_at (Blk.made w 34 (lineC l)) 12
  have d12 : (lineC l)[12]? = some (strV l.name) := rfl
  have c13 : (w.alloc (.cells (lineC l) 34)).cell? ⟨w.heap.size, 13, none⟩ = some (strV l.target) := cell_at (Blk.made w 34 (lineC l)) 13
  have d13 : (lineC l)[13]? = some (strV l.target) := rfl
  go_enter Tryz.func7, Tryz.ntmps7
  go_wp2_with fail
  go_ret
  exact ⟨by first | rfl | (simp; omega), Fr.new _ _ _⟩
set_option maxHeartbeats 1600000 in
theorem light_2 (l : LineL) (w : World) (h0 : (l.name.length : Int) ≤ 200) (h1 : (l.target.length : Int) ≤ 200) (h2 : 200 < (l.rule.name.length : Int)) : Calls Tryz.prog 7 #[lineV l] w fun e w' => e = .returned (.bool false) ∧ Fr w w' (fun _ => False) := by
  have c12 : (w.alloc (.cells (lineC l) 34)).cell? ⟨w.heap.size, 12, none⟩ = some (strV l.name) := cell_at (Blk.made w 34 (lineC l)) 12
  have d12 : (lineC l)[12]? = some (strV l.name) := rfl
  have c13 : (w.alloc (.cells (lineC l) 34)).cell? ⟨w.heap.size, 13, none⟩ = some (strV l.target) := cell_at (Blk.made w 34 (lineC l)) 13
  have d13 : (lineC l)[13]? = some (strV l.target) := rfl
  have c1 : (w.alloc (.cells (lineC l) 34)).cell? ⟨w.heap.size, 1, none⟩ = some (strV l.rule.name) := cell_at (Blk.made w 34 (lineC l)) 1
  have d1 : (lineC l)[1]? = some (strV l.rule.name) := rfl
  go_enter Tryz.func7, Tryz.ntmps7
  go_wp2_with fail
  go_ret
  exact ⟨by first | rfl | (simp; omega), Fr.new _ _ _⟩
set_option maxHeartbeats 1600000 in
theorem light_3 (l : LineL) (w : World) (h0 : (l.name.length : Int) ≤ 200) (h1 : (l.target.length : Int) ≤ 200) (h2 : (l.rule.name.length : Int) ≤ 200) (h3 : 200 < (l.rule.letter.length : Int)) : Calls Tryz.prog 7 #[lineV l] w fun e w' => e = .returned (.bool false) ∧ Fr w w' (fun _ => False) := by
  have c12 : (w.alloc (.cells (lineC l) 34)).cell? ⟨w.heap.size, 12, none⟩ = some (strV l.name) := cell_at (Blk.made w 34 (lineC l)) 12
  have d12 : (lineC l)[12]? = some (strV l.name) := rfl
  have c13 : (w.alloc (.cells (lineC l) 34)).cell? ⟨w.heap.size, 13, none⟩ = some (strV l.target) := cell_at (Blk.made w 34 (lineC l)) 13
  have d13 : (lineC l)[13]? = some (strV l.target) := rfl
  have c1 : (w.alloc (.cells (lineC l) 34)).cell? ⟨w.heap.size, 1, none⟩ = some (strV l.rule.name) := cell_at (Blk.made w 34 (lineC l)) 1
  have d1 : (lineC l)[1]? = some (strV l.rule.name) := rfl
  have c11 : (w.alloc (.cells (lineC l) 34)).cell? ⟨w.heap.size, 11, none⟩ = some (strV l.rule.letter) := cell_at (Blk.made w 34 (lineC l)) 11
  have d11 : (lineC l)[11]? = some (strV l.rule.letter) := rfl
  go_enter Tryz.func7, Tryz.ntmps7
  go_wp2_with fail
  go_ret
  exact ⟨by first | rfl | (simp; omega), Fr.new _ _ _⟩
set_option maxHeartbeats 1600000 in
theorem light_4 (l : LineL) (w : World) (h0 : (l.name.length : Int) ≤ 200) (h1 : (l.target.length : Int) ≤ 200) (h2 : (l.rule.name.length : Int) ≤ 200) (h3 : (l.rule.letter.length : Int) ≤ 200) (h4 : 200 < (l.era.rules.length : Int)) : Calls Tryz.prog 7 #[lineV l] w fun e w' => e = .returned (.bool false) ∧ Fr w w' (fun _ => False) := by
  have c12 : (w.alloc (.cells (lineC l) 34)).cell? ⟨w.heap.size, 12, none⟩ = some (strV l.name) := cell_at (Blk.made w 34 (lineC l)) 12
  have d12 : (lineC l)[12]? = some (strV l.name) := rfl
  have c13 : (w.alloc (.cells (lineC l) 34)).cell? ⟨w.heap.size, 13, none⟩ = some (strV l.target) := cell_at (Blk.made w 34 (lineC l)) 13
  have d13 : (lineC l)[13]? = some (strV l.target) := rfl
  have c1 : (w.alloc (.cells (lineC l) 34)).cell? ⟨w.heap.size, 1, none⟩ = some (strV l.rule.name) := cell_at (Blk.made w 34 (lineC l)) 1
  have d1 : (lineC l)[1]? = some (strV l.rule.name) := rfl
  have c11 : (w.alloc (.cells (lineC l) 34)).cell? ⟨w.heap.size, 11, none⟩ = some (strV l.rule.letter) := cell_at (Blk.made w 34 (lineC l)) 11
  have d11 : (lineC l)[11]? = some (strV l.rule.letter) := rfl
  have c17 : (w.alloc (.cells (lineC l) 34)).cell? ⟨w.heap.size, 17, none⟩ = some (strV l.era.rules) := cell_at (Blk.made w 34 (lineC l)) 17
  have d17 : (lineC l)[17]? = some (strV l.era.rules) := rfl
  go_enter Tryz.func7, Tryz.ntmps7
  go_wp2_with fail
  go_ret
  exact ⟨by first | rfl | (simp; omega), Fr.new _ _ _⟩
set_option maxHeartbeats 1600000 in
theorem light_5 (l : LineL) (w : World) (h0 : (l.name.length : Int) ≤ 200) (h1 : (l.target.length : Int) ≤ 200) (h2 : (l.rule.name.length : Int) ≤ 200) (h3 : (l.rule.letter.length : Int) ≤ 200) (h4 : (l.era.rules.length : Int) ≤ 200) (h5 : 200 < (l.era.format.length : Int)) : Calls Tryz.prog 7 #[lineV l] w fun e w' => e = .returned (.bool false) ∧ Fr w w' (fun _ => False) := by
  have c12 : (w.alloc (.cells (lineC l) 34)).cell? ⟨w.heap.size, 12, none⟩ = some (strV l.name) := cell_at (Blk.made w 34 (lineC l)) 12
  have d12 : (lineC l)[12]? = some (strV l.name) := rfl
  have c13 : (w.alloc (.cells (lineC l) 34)).cell? ⟨w.heap.size, 13, none⟩ = some (strV l.target) := cell_at (Blk.made w 34 (lineC l)) 13
  have d13 : (lineC l)[13]? = some (strV l.target) := rfl
  have c1 : (w.alloc (.cells (lineC l) 34)).cell? ⟨w.heap.size, 1, none⟩ = some (strV l.rule.name) := cell_at (Blk.made w 34 (lineC l)) 1
  have d1 : (lineC l)[1]? = some (strV l.rule.name) := rfl
  have c11 : (w.alloc (.cells (lineC l) 34)).cell? ⟨w.heap.size, 11, none⟩ = some (strV l.rule.letter) := cell_at (Blk.made w 34 (lineC l)) 11
  have d11 : (lineC l)[11]? = some (strV l.rule.letter) := rfl
  have c17 : (w.alloc (.cells (lineC l) 34)).cell? ⟨w.heap.size, 17, none⟩ = some (strV l.era.rules) := cell_at (Blk.made w 34 (lineC l)) 17
  have d17 : (lineC l)[17]? = some (strV l.era.rules) := rfl
  have c18 : (w.alloc (.cells (lineC l) 34)).cell? ⟨w.heap.size, 18, none⟩ = some (strV l.era.format) := cell_at (Blk.made w 34 (lineC l)) 18
  have d18 : (lineC l)[18]? = some (strV l.era.format) := rfl
  go_enter Tryz.func7, Tryz.ntmps7
  go_wp2_with fail
  go_ret
  exact ⟨by first | rfl | (simp; omega), Fr.new _ _ _⟩
set_option maxHeartbeats 1600000 in
theorem light_6 (l : LineL) (w : World) (h0 : (l.name.length : Int) ≤ 200) (h1 : (l.target.length : Int) ≤ 200) (h2 : (l.rule.name.length : Int) ≤ 200) (h3 : (l.rule.letter.length : Int) ≤ 200) (h4 : (l.era.rules.length : Int) ≤ 200) (h5 : (l.era.format.length : Int) ≤ 200) : Calls Tryz.prog 7 #[lineV l] w fun e w' => e = .returned (.bool true) ∧ Fr w w' (fun _ => False) := by
  have c12 : (w.alloc (.cells (lineC l) 34)).cell? ⟨w.heap.size, 12, none⟩ = some (strV l.name) := cell_at (Blk.made w 34 (lineC l)) 12
  have d12 : (lineC l)[12]? = some (strV l.name) := rfl
  have c13 : (w.alloc (.cells (lineC l) 34)).cell? ⟨w.heap.size, 13, none⟩ = some (strV l.target) := cell_at (Blk.made w 34 (lineC l)) 13
  have d13 : (lineC l)[13]? = some (strV l.target) := rfl
  have c1 : (w.alloc (.cells (lineC l) 34)).cell? ⟨w.heap.size, 1, none⟩ = some (strV l.rule.name) := cell_at (Blk.made w 34 (lineC l)) 1
  have d1 : (lineC l)[1]? = some (strV l.rule.name) := rfl
  have c11 : (w.alloc (.cells (lineC l) 34)).cell? ⟨w.heap.size, 11, none⟩ = some (strV l.rule.letter) := cell_at (Blk.made w 34 (lineC l)) 11
  have d11 : (lineC l)[11]? = some (strV l.rule.letter) := rfl
  have c17 : (w.alloc (.cells (lineC l) 34)).cell? ⟨w.heap.size, 17, none⟩ = some (strV l.era.rules) := cell_at (Blk.made w 34 (lineC l)) 17
  have d17 : (lineC l)[17]? = some (strV l.era.rules) := rfl
  have c18 : (w.alloc (.cells (lineC l) 34)).cell? ⟨w.heap.size, 18, none⟩ = some (strV l.era.format) := cell_at (Blk.made w 34 (lineC l)) 18
  have d18 : (lineC l)[18]? = some (strV l.era.format) := rfl
  go_enter Tryz.func7, Tryz.ntmps7
  go_wp2_with fail
  go_ret
  exact ⟨by first | rfl | (simp; omega), Fr.new _ _ _⟩
theorem light_any (l : LineL) (w : World) (b : Bool) (hb : lightB l = b) : Calls Tryz.prog 7 #[lineV l] w fun e w' => e = .returned (.bool b) ∧ Fr w w' (fun _ => False) := by
  subst hb
  unfold lightB
  by_cases h0 : l.name.length ≤ 200
  · by_cases h1 : l.target.length ≤ 200
    · by_cases h2 : l.rule.name.length ≤ 200
      · by_cases h3 : l.rule.letter.length ≤ 200
        · by_cases h4 : l.era.rules.length ≤ 200
          · by_cases h5 : l.era.format.length ≤ 200
            · have := light_6 l w (by omega) (by omega) (by omega) (by omega) (by omega) (by omega)
              simpa [h0, h1, h2, h3, h4, h5] using this
            · have := light_5 l w (by omega) (by omega) (by omega) (by omega) (by omega) (by omega)
              simpa [h5] using this
          · have := light_4 l w (by omega) (by omega) (by omega) (by omega) (by omega)
            simpa [h4] using this
        · have := light_3 l w (by omega) (by omega) (by omega) (by omega)
          simpa [h3] using this
      · have := light_2 l w (by omega) (by omega) (by omega)
        simpa [h2] using this
    · have := light_1 l w (by omega) (by omega)
      simpa [h1] using this
  · have := light_0 l w (by omega)
    simpa [h0] using this
end Go.Proofs.YtgcheollgnhdlaaGreatDoor
