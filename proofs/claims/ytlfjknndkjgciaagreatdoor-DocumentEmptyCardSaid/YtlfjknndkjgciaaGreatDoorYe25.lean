import Derived.Test.YtlfjknndkjgciaaGreatDoorYe24
import Derived.Defers
import Derived.Recover
import Derived.Test.YtlfjknndkjgciaaGreatDoorYe15
import Derived.Test.YtlfjknndkjgciaaGreatDoorYe16
import Derived.Great.BuildSlice
import Derived.Deep.WholeRow
import Derived.Deep.RegionHeld3
import Derived.Test.YtlfjknndkjgciaaGreatDoorYe20
import Derived.Test.YtlfjknndkjgciaaGreatDoorYe09
import Derived.Laws.OwnMore
namespace Go.Proofs.YtlfjknndkjgciaaGreatDoor
open Go.RowKit Go.Mem Go.Lin

set_option maxRecDepth 100000 in
set_option maxHeartbeats 1600000 in
theorem catch_panicking (q : Nat) (x y : LineL) (w : World) (hb : Blk w q 58 (lineC y)) :
    CallsD Tryz.prog 58 #[.pointer (some ⟨q, 0, none⟩)] (.panicking [{ v := .iface 58 (.agg (lineC x)), recovered := false }]) w fun e u' w' =>
      e = .returned (.tuple #[]) ∧ u' = .panicking [{ v := .iface 58 (.agg (lineC x)), recovered := true }] ∧ w' = w.setCells q 0 (lineC x).toList := by
  have ht : w.there q 0 (lineC x).size := fun j hj => ⟨by rw [cell_at hb, Array.getElem?_eq_getElem (by show 0 + j < 29; have : j < 29 := hj; omega)]; rfl, free_at hb _⟩
  have hsc : (storeCells ⟨q, 0, none⟩ (lineC x).toList 0).run Tryz.prog w = .ok () (w.setCells q (0 + 0) (lineC x).toList) := run_storeCells_cells (P := Tryz.prog) q 0 (lineC x).toList 0 w (fun j hj => (ht j hj).1) (fun j hj => (ht j hj).2) (fun v hv => by
    have h1 := lineC_one x
    rw [Array.all_eq_true'] at h1
    exact h1 v (Array.mem_toList_iff.1 hv))
  have hs9 : (lineC x).size = 29 := rfl
  have hta : ∀ w : World, (Instr.typeAssert (.iface 58 (.agg (lineC x))) 20 58 false).run Tryz.prog w = .ok (.agg (lineC x)) w := fun w => by kernel_rfl
  have hne : ∀ w : World, (binOp .neq 20 (.iface 58 (.agg (lineC x))) .nilIface).run Tryz.prog w = .ok (.bool true) w := fun w => by kernel_rfl
  generalize lineC x = xs at *
  rw [Nat.add_zero] at hsc
  refine callsD_of_wpS Tryz.func58 rfl fun c₀ cs hu => ?_
  apply wpS_seq
  apply wpS_region
  simp [wpOpsS, go_sem, recoverD, hu, Tryz.ntmps58, Exit.thenS]
  apply wpS_seq
  apply wpS_region
  simp [wpOpsS, go_sem, Exit.thenS, Act.eval, Array.replicate, hne]
  refine wpS_cond (t := true) (by simp [Act.eval]) ?_
  simp only [if_true]
  apply wpS_region
  simp [wpOpsS, go_sem, Act.eval, hta, hsc, hs9, bodyPostS, results, Tryz.results58]
theorem catch_idle (q : Nat) (w : World) :
    CallsD Tryz.prog 58 #[.pointer (some ⟨q, 0, none⟩)] .returning w fun e u' w' => e = .returned (.tuple #[]) ∧ u' = .returning ∧ w' = w := by
  have hne : ∀ w : World, (binOp .neq 20 .nilIface .nilIface).run Tryz.prog w = .ok (.bool false) w := fun w => by kernel_rfl
  refine callsD_of_wpS Tryz.func58 rfl fun c₀ cs hu => ?_
  apply wpS_seq
  apply wpS_region
  simp [wpOpsS, go_sem, recoverD, hu, Tryz.ntmps58, Exit.thenS]
  apply wpS_seq
  apply wpS_region
  simp [wpOpsS, go_sem, Exit.thenS, Act.eval, Array.replicate, hne]
  refine wpS_cond (t := false) (by simp [Act.eval]) ?_
  simp only [Bool.false_eq_true, if_false]
  refine wpS_of_wp (wp_skip ?_)
  cases c₀
  simp_all [bodyPostS, results, Tryz.results58]
theorem res_read {w : World} {q : Nat} {v : LineL} (hb : Blk w q 58 (lineC v)) (tmps : Array Value) (hp : tmps.getD 2 undef = .pointer (some ⟨q, 0, none⟩)) : (results Tryz.f44 tmps).run Tryz.prog w = .ok (.agg (lineC v)) w :=
  results_cell_row (P := Tryz.prog) (fn := Tryz.f44) (p := 2) (ty := 58) rfl tmps _ q 58 (lineC v) (0, 0) _ hp hb Tryz.underlying58 rfl (infoL v)
set_option maxRecDepth 100000 in
set_option maxHeartbeats 3200000 in
theorem read_any (fs : List FPair) (hz : ∀ x ∈ fs, x.1.length ≤ 100000) (hne : fs ≠ []) (A : Option Addr) (c : Nat) (w : World) (hw : LOk w) (hfd : S7.FdAt w A fs) (hc : fs.length ≤ c) :
    Calls Tryz.prog 44 #[.slice A fs.length c] w fun e w' => e = .returned (.agg (lineC (outL fs (readP fs) id))) ∧ Fr w w' (fun _ => False) := by
  have hpos : 0 < fs.length := by
    cases fs with
    | nil => exact absurd rfl hne
    | cons x r => simp
  obtain ⟨g, off, x, rfl, -, hcell, -⟩ := hfd.at_ hpos
  have hgs : g < w.heap.size := World.block_lt_of_cell? w _ hcell
  have hrd : Rd w 2 (some ⟨g, off, none⟩) fs.length (fs.flatMap cellsP) := hfd
  have hf1 := Fr.new w (.cells (lineC lineZ) 58) (fun _ => False)
  have hf2 := Fr.new (w.alloc (.cells (lineC lineZ) 58)) (.cells #[.slice (some ⟨g, off, none⟩) fs.length c] 116) (fun _ => False)
  have hsz : (w.alloc (.cells (lineC lineZ) 58)).heap.size = w.heap.size + 1 := by simp
  have hb2 := Blk.made (w.alloc (.cells (lineC lineZ) 58)) 116 #[.slice (some ⟨g, off, none⟩) fs.length c]
  rw [hsz] at hb2
  have HZ := Lib.hid (hf2.blk (Blk.made w 58 (lineC lineZ)) (fun h => h))
  have hL : LeftAt ((w.alloc (.cells (lineC lineZ) 58)).alloc (.cells #[.slice (some ⟨g, off, none⟩) fs.length c] 116)) (w.heap.size + 1) g fs :=
    ⟨_, c, hb2, hrd.fr (ff hf1 hf2) (fun _ _ _ _ h => h), hc, fun b' o' e _ => by injection e with e; injection e with e1; exact e1.symm⟩
  have hO : Ok w ((w.alloc (.cells (lineC lineZ) 58)).alloc (.cells #[.slice (some ⟨g, off, none⟩) fs.length c] 116)) (w.heap.size + 1) g := ⟨hw, ff hf1 hf2, by omega, by omega⟩
  have HL := Lib.hid (rline_any fs hz hne w _ (w.heap.size + 1) g hO hL)
  have HF := Lib.hid (ff hf1 hf2)
  obtain ⟨S, hS⟩ : ∃ S, readP fs = S := ⟨_, rfl⟩
  rw [hS] at HL ⊢
  clear hS hf1 hf2 hsz hb2 hL hO hrd hfd hw hcell hz
  cases S with
  | error x =>
    go_enter_defers Tryz.func44, Tryz.ntmps44
    go_wp2_with fail
    refine HL.out.mono ?_
    rintro e w2 ⟨rfl, hf2⟩
    have hb2 := hf2.blk HZ.out (by omega)
    have HB2 := Lib.hid hb2
    have HF2 := Lib.hid (HF.out.fresh hf2 (fun i e => by omega))
    clear hf2 hb2
    go_wp2_with fail
    refine leaves_cons (f := 58) (args := #[.pointer (some ⟨w.heap.size, 0, none⟩)]) (by simp) (by simp [go_sem]) ?_
    refine (catch_panicking w.heap.size _ _ _ HB2.out).mono ?_
    rintro e u' w3 ⟨rfl, rfl, rfl⟩
    have hm := Blk.many (lineC (wrongL x.2 (colOf fs x.1))).toList 0 _ _ HB2.out
    rw [put_line] at hm
    exact ⟨_, res_read hm _ rfl, rfl, HF2.out.fresh (Fr.many _ _ _) (fun i e => by omega)⟩
  | ok l =>
    go_enter_defers Tryz.func44, Tryz.ntmps44
    go_wp2_with fail
    refine HL.out.mono ?_
    rintro e w2 ⟨rfl, hf2⟩
    have hb2 := hf2.blk HZ.out (by omega)
    have HB2 := Lib.hid hb2
    have HF2 := Lib.hid (HF.out.fresh hf2 (fun i e => by omega))
    clear hf2 hb2
    go_wp2_with (
      refine wpList_store_blk 58 _ _ w.heap.size 0 58 (lineC lineZ) (lineC l) (lineC l) (by rfl) rfl rfl rfl rfl HB2.out (infoL _) (lineC_one _) (show 0 + 29 ≤ 29 by decide) (put_line _ _) ?_
      intro w9 hf9 hb9
      have HE := Lib.hid hb9
      have HFe := Lib.hid (HF2.out.fresh hf9 (fun i e => by omega))
      clear hf9 hb9)
    refine leaves_cons (f := 58) (args := #[.pointer (some ⟨w.heap.size, 0, none⟩)]) (by simp) (by simp [go_sem]) ?_
    refine (catch_idle w.heap.size _).mono ?_
    rintro e u' w3 ⟨rfl, rfl, rfl⟩
    exact ⟨_, res_read HE.out _ rfl, rfl, HFe.out⟩
end Go.Proofs.YtlfjknndkjgciaaGreatDoor
namespace Go.Proofs.YtlfjknndkjgciaaGreatDoor
open Go.RowKit Go.Mem Go.Lin

set_option maxHeartbeats 1600000 in
theorem light_0 (l : LineL) (w : World) (h0 : 200 < (l.name.length : Int)) : Calls Tryz.prog 21 #[lineV l] w fun e w' => e = .returned (.bool false) ∧ Fr w w' (fun _ => False) := by
  have c12 : (w.alloc (.cells (lineC l) 58)).cell? ⟨w.heap.size, 12, none⟩ = some (strV l.name) := cell_at (Blk.made w 58 (lineC l)) 12
  have d12 : (lineC l)[12]? = some (strV l.name) := rfl
  go_enter Tryz.func21, Tryz.ntmps21
  go_wp2_with fail
  go_ret
  exact ⟨by first | rfl | (simp; omega), Fr.new _ _ _⟩
set_option maxHeartbeats 1600000 in
theorem light_1 (l : LineL) (w : World) (h0 : (l.name.length : Int) ≤ 200) (h1 : 200 < (l.target.length : Int)) : Calls Tryz.prog 21 #[lineV l] w fun e w' => e = .returned (.bool false) ∧ Fr w w' (fun _ => False) := by
  have c12 : (w.alloc (.cells (lineC l) 58)).cell? ⟨w.heap.size, 12, none⟩ = some (strV l.name) := cell_at (Blk.made w 58 (lineC l)) 12
  have d12 : (lineC l)[12]? = some (strV l.name) := rfl
  have c13 : (w.alloc (.cells (lineC l) 58)).cell? ⟨w.heap.size, 13, none⟩ = some (strV l.target) := cell_at (Blk.made w 58 (lineC l)) 13
  have d13 : (lineC l)[13]? = some (strV l.target) := rfl
  go_enter Tryz.func21, Tryz.ntmps21
  go_wp2_with fail
  go_ret
  exact ⟨by first | rfl | (simp; omega), Fr.new _ _ _⟩
set_option maxHeartbeats 1600000 in
theorem light_2 (l : LineL) (w : World) (h0 : (l.name.length : Int) ≤ 200) (h1 : (l.target.length : Int) ≤ 200) (h2 : 200 < (l.rule.name.length : Int)) : Calls Tryz.prog 21 #[lineV l] w fun e w' => e = .returned (.bool false) ∧ Fr w w' (fun _ => False) := by
  have c12 : (w.alloc (.cells (lineC l) 58)).cell? ⟨w.heap.size, 12, none⟩ = some (strV l.name) := cell_at (Blk.made w 58 (lineC l)) 12
  have d12 : (lineC l)[12]? = some (strV l.name) := rfl
  have c13 : (w.alloc (.cells (lineC l) 58)).cell? ⟨w.heap.size, 13, none⟩ = some (strV l.target) := cell_at (Blk.made w 58 (lineC l)) 13
  have d13 : (lineC l)[13]? = some (strV l.target) := rfl
  have c1 : (w.alloc (.cells (lineC l) 58)).cell? ⟨w.heap.size, 1, none⟩ = some (strV l.rule.name) := cell_at (Blk.made w 58 (lineC l)) 1
  have d1 : (lineC l)[1]? = some (strV l.rule.name) := rfl
  go_enter Tryz.func21, Tryz.ntmps21
  go_wp2_with fail
  go_ret
  exact ⟨by first | rfl | (simp; omega), Fr.new _ _ _⟩
set_option maxHeartbeats 1600000 in
theorem light_3 (l : LineL) (w : World) (h0 : (l.name.length : Int) ≤ 200) (h1 : (l.target.length : Int) ≤ 200) (h2 : (l.rule.name.length : Int) ≤ 200) (h3 : 200 < (l.rule.letter.length : Int)) : Calls Tryz.prog 21 #[lineV l] w fun e w' => e = .returned (.bool false) ∧ Fr w w' (fun _ => False) := by
  have c12 : (w.alloc (.cells (lineC l) 58)).cell? ⟨w.heap.size, 12, none⟩ = some (strV l.name) := cell_at (Blk.made w 58 (lineC l)) 12
  have d12 : (lineC l)[12]? = some (strV l.name) := rfl
  have c13 : (w.alloc (.cells (lineC l) 58)).cell? ⟨w.heap.size, 13, none⟩ = some (strV l.target) := cell_at (Blk.made w 58 (lineC l)) 13
  have d13 : (lineC l)[13]? = some (strV l.target) := rfl
  have c1 : (w.alloc (.cells (lineC l) 58)).cell? ⟨w.heap.size, 1, none⟩ = some (strV l.rule.name) := cell_at (Blk.made w 58 (lineC l)) 1
  have d1 : (lineC l)[1]? = some (strV l.rule.name) := rfl
  have c11 : (w.alloc (.cells (lineC l) 58)).cell? ⟨w.heap.size, 11, none⟩ = some (strV l.rule.letter) := cell_at (Blk.made w 58 (lineC l)) 11
  have d11 : (lineC l)[11]? = some (strV l.rule.letter) := rfl
  go_enter Tryz.func21, Tryz.ntmps21
  go_wp2_with fail
  go_ret
  exact ⟨by first | rfl | (simp; omega), Fr.new _ _ _⟩
set_option maxHeartbeats 1600000 in
theorem light_4 (l : LineL) (w : World) (h0 : (l.name.length : Int) ≤ 200) (h1 : (l.target.length : Int) ≤ 200) (h2 : (l.rule.name.length : Int) ≤ 200) (h3 : (l.rule.letter.length : Int) ≤ 200) (h4 : 200 < (l.era.rules.length : Int)) : Calls Tryz.prog 21 #[lineV l] w fun e w' => e = .returned (.bool false) ∧ Fr w w' (fun _ => False) := by
  have c12 : (w.alloc (.cells (lineC l) 58)).cell? ⟨w.heap.size, 12, none⟩ = some (strV l.name) := cell_at (Blk.made w 58 (lineC l)) 12
  have d12 : (lineC l)[12]? = some (strV l.name) := rfl
  have c13 : (w.alloc (.cells (lineC l) 58)).cell? ⟨w.heap.size, 13, none⟩ = some (strV l.target) := cell_at (Blk.made w 58 (lineC l)) 13
  have d13 : (lineC l)[13]? = some (strV l.target) := rfl
  have c1 : (w.alloc (.cells (lineC l) 58)).cell? ⟨w.heap.size, 1, none⟩ = some (strV l.rule.name) := cell_at (Blk.made w 58 (lineC l)) 1
  have d1 : (lineC l)[1]? = some (strV l.rule.name) := rfl
  have c11 : (w.alloc (.cells (lineC l) 58)).cell? ⟨w.heap.size, 11, none⟩ = some (strV l.rule.letter) := cell_at (Blk.made w 58 (lineC l)) 11
  have d11 : (lineC l)[11]? = some (strV l.rule.letter) := rfl
  have c17 : (w.alloc (.cells (lineC l) 58)).cell? ⟨w.heap.size, 17, none⟩ = some (strV l.era.rules) := cell_at (Blk.made w 58 (lineC l)) 17
  have d17 : (lineC l)[17]? = some (strV l.era.rules) := rfl
  go_enter Tryz.func21, Tryz.ntmps21
  go_wp2_with fail
  go_ret
  exact ⟨by first | rfl | (simp; omega), Fr.new _ _ _⟩
set_option maxHeartbeats 1600000 in
theorem light_5 (l : LineL) (w : World) (h0 : (l.name.length : Int) ≤ 200) (h1 : (l.target.length : Int) ≤ 200) (h2 : (l.rule.name.length : Int) ≤ 200) (h3 : (l.rule.letter.length : Int) ≤ 200) (h4 : (l.era.rules.length : Int) ≤ 200) (h5 : 200 < (l.era.format.length : Int)) : Calls Tryz.prog 21 #[lineV l] w fun e w' => e = .returned (.bool false) ∧ Fr w w' (fun _ => False) := by
  have c12 : (w.alloc (.cells (lineC l) 58)).cell? ⟨w.heap.size, 12, none⟩ = some (strV l.name) := cell_at (Blk.made w 58 (lineC l)) 12
  have d12 : (lineC l)[12]? = some (strV l.name) := rfl
  have c13 : (w.alloc (.cells (lineC l) 58)).cell? ⟨w.heap.size, 13, none⟩ = some (strV l.target) := cell_at (Blk.made w 58 (lineC l)) 13
  have d13 : (lineC l)[13]? = some (strV l.target) := rfl
  have c1 : (w.alloc (.cells (lineC l) 58)).cell? ⟨w.heap.size, 1, none⟩ = some (strV l.rule.name) := cell_at (Blk.made w 58 (lineC l)) 1
  have d1 : (lineC l)[1]? = some (strV l.rule.name) := rfl
  have c11 : (w.alloc (.cells (lineC l) 58)).cell? ⟨w.heap.size, 11, none⟩ = some (strV l.rule.letter) := cell_at (Blk.made w 58 (lineC l)) 11
  have d11 : (lineC l)[11]? = some (strV l.rule.letter) := rfl
  have c17 : (w.alloc (.cells (lineC l) 58)).cell? ⟨w.heap.size, 17, none⟩ = some (strV l.era.rules) := cell_at (Blk.made w 58 (lineC l)) 17
  have d17 : (lineC l)[17]? = some (strV l.era.rules) := rfl
  have c18 : (w.alloc (.cells (lineC l) 58)).cell? ⟨w.heap.size, 18, none⟩ = some (strV l.era.format) := cell_at (Blk.made w 58 (lineC l)) 18
  have d18 : (lineC l)[18]? = some (strV l.era.format) := rfl
  go_enter Tryz.func21, Tryz.ntmps21
  go_wp2_with fail
  go_ret
  exact ⟨by first | rfl | (simp; omega), Fr.new _ _ _⟩
set_option maxHeartbeats 1600000 in
theorem light_6 (l : LineL) (w : World) (h0 : (l.name.length : Int) ≤ 200) (h1 : (l.target.length : Int) ≤ 200) (h2 : (l.rule.name.length : Int) ≤ 200) (h3 : (l.rule.letter.length : Int) ≤ 200) (h4 : (l.era.rules.length : Int) ≤ 200) (h5 : (l.era.format.length : Int) ≤ 200) : Calls Tryz.prog 21 #[lineV l] w fun e w' => e = .returned (.bool true) ∧ Fr w w' (fun _ => False) := by
  have c12 : (w.alloc (.cells (lineC l) 58)).cell? ⟨w.heap.size, 12, none⟩ = some (strV l.name) := cell_at (Blk.made w 58 (lineC l)) 12
  have d12 : (lineC l)[12]? = some (strV l.name) := rfl
  have c13 : (w.alloc (.cells (lineC l) 58)).cell? ⟨w.heap.size, 13, none⟩ = some (strV l.target) := cell_at (Blk.made w 58 (lineC l)) 13
  have d13 : (lineC l)[13]? = some (strV l.target) := rfl
  have c1 : (w.alloc (.cells (lineC l) 58)).cell? ⟨w.heap.size, 1, none⟩ = some (strV l.rule.name) := cell_at (Blk.made w 58 (lineC l)) 1
  have d1 : (lineC l)[1]? = some (strV l.rule.name) := rfl
  have c11 : (w.alloc (.cells (lineC l) 58)).cell? ⟨w.heap.size, 11, none⟩ = some (strV l.rule.letter) := cell_at (Blk.made w 58 (lineC l)) 11
  have d11 : (lineC l)[11]? = some (strV l.rule.letter) := rfl
  have c17 : (w.alloc (.cells (lineC l) 58)).cell? ⟨w.heap.size, 17, none⟩ = some (strV l.era.rules) := cell_at (Blk.made w 58 (lineC l)) 17
  have d17 : (lineC l)[17]? = some (strV l.era.rules) := rfl
  have c18 : (w.alloc (.cells (lineC l) 58)).cell? ⟨w.heap.size, 18, none⟩ = some (strV l.era.format) := cell_at (Blk.made w 58 (lineC l)) 18
  have d18 : (lineC l)[18]? = some (strV l.era.format) := rfl
  go_enter Tryz.func21, Tryz.ntmps21
  go_wp2_with fail
  go_ret
  exact ⟨by first | rfl | (simp; omega), Fr.new _ _ _⟩
theorem light_any (l : LineL) (w : World) (b : Bool) (hb : lightB l = b) : Calls Tryz.prog 21 #[lineV l] w fun e w' => e = .returned (.bool b) ∧ Fr w w' (fun _ => False) := by
  subst hb
  unfold lightB
  by_cases h0 : l.name.length ≤ 200
  · by_cases h1 : l.target.length ≤ 200
    · by_cases h2 : l.rule.name.length ≤ 200
      · by_cases h3 : l.rule.letter.length ≤ 200
        · by_cases h4 : l.era.rules.length ≤ 200
          · by_cases h5 : l.era.format.length ≤ 200
            · have := light_6 l w (by omega) (by omega) (by omega) (by omega) (by omega) (by omega)
              simpa [h0, h1, h2, h3, h4, h5] using this
            · have := light_5 l w (by omega) (by omega) (by omega) (by omega) (by omega) (by omega)
              simpa [h5] using this
          · have := light_4 l w (by omega) (by omega) (by omega) (by omega) (by omega)
            simpa [h4] using this
        · have := light_3 l w (by omega) (by omega) (by omega) (by omega)
          simpa [h3] using this
      · have := light_2 l w (by omega) (by omega) (by omega)
        simpa [h2] using this
    · have := light_1 l w (by omega) (by omega)
      simpa [h1] using this
  · have := light_0 l w (by omega)
    simpa [h0] using this
end Go.Proofs.YtlfjknndkjgciaaGreatDoor
namespace Go.Lxr
theorem field_text : ∀ (l : Bs) (p : Nat) (t r : Bs), fieldD p l = .ok (t, r) → t.length + r.length ≤ l.length := by
  refine field_ind ?_ ?_ ?_ ?_ ?_
  · intro p t r h
    rw [field_nil] at h
    injection h with h
    injection h with h1 h2
    subst h1 h2
    simp
  · intro p c l hs t r h
    rw [field_stop hs] at h
    injection h with h
    injection h with h1 h2
    subst h1 h2
    simp
  · intro p l hq t r h
    rw [field_none hq] at h
    cases h
  · intro p q l l' hq ih t r h
    rw [field_some hq] at h
    cases hf : fieldD (p + q.length + 2) l' with
    | error k => rw [hf] at h; cases h
    | ok x =>
      rw [hf] at h
      injection h with h
      injection h with h1 h2
      subst h1 h2
      have := ih x.1 x.2 hf
      rw [(quote_is hq).1]
      simp
      omega
  · intro p c l hs hc ih t r h
    rw [field_one hs hc] at h
    cases hf : fieldD (p + 1) l with
    | error k => rw [hf] at h; cases h
    | ok x =>
      rw [hf] at h
      injection h with h
      injection h with h1 h2
      subst h1 h2
      have := ih x.1 x.2 hf
      simp
      omega
theorem fields_text : ∀ (l : Bs) (p : Nat) (fs : List (Bs × Nat)), fieldsD p l = .ok fs → ∀ x ∈ fs, x.1.length ≤ l.length := by
  refine fields_ind ?_ ?_ ?_ ?_ ?_
  · intro p fs h
    rw [fields_nil] at h
    injection h with h
    subst h
    intro x hx
    cases hx
  · intro p r fs h
    rw [fields_note] at h
    injection h with h
    subst h
    intro x hx
    cases hx
  · intro p c r hw ih fs h
    rw [fields_white hw] at h
    intro x hx
    have := ih fs h x hx
    simp
    omega
  · intro p c r k hs hf fs h
    rw [fields_bad hs p k r hf] at h
    cases h
  · intro p c r t r' hs hf hlt ih fs h
    rw [fields_one hs p r t r' hf] at h
    cases hg : fieldsD (p + ((c :: r).length - r'.length)) r' with
    | error j => rw [hg] at h; cases h
    | ok y =>
      rw [hg] at h
      injection h with h
      subst h
      intro x hx
      rcases List.mem_cons.1 hx with e | e
      · subst e
        have := field_text _ _ _ _ hf
        show t.length ≤ _
        omega
      · have := ih y hg x e
        omega
end Go.Lxr
namespace Go.Proofs.YtlfjknndkjgciaaGreatDoor
open Go.RowKit Go.Mem Go.Lin

theorem fieldsO_text (l : Bs) : ∀ x ∈ (S7.fieldsO l).1, x.1.length ≤ 200 := by
  unfold S7.fieldsO
  split
  · intro x hx; cases hx
  · split
    · intro x hx; cases hx
    · rename_i fs hf
      intro x hx
      have := Go.Lxr.fields_text l 0 fs hf x hx
      omega
end Go.Proofs.YtlfjknndkjgciaaGreatDoor
namespace Go.Proofs.YtlfjknndkjgciaaGreatDoor
open Go.RowKit Go.Mem Go.Lin

def FOutC (o : List FPair × Int × Int) (w : World) (e : Ending) (w' : World) : Prop :=
  ∃ A c, e = .returned (.tuple #[.slice A o.1.length c, intV o.2.1, intV o.2.2]) ∧ S7.FdAt w' A o.1 ∧ o.1.length ≤ c ∧ Fr w w' (fun _ => False)
theorem FieldsC_any (l : Bs) (w : World) (hz : l.length ≤ 1000000) : Calls Tryz.prog 42 #[strV l] w (FOutC (S7.fieldsO l) w) := by
  have hs : (⟨l.toArray⟩ : ByteArray).size = l.length := str_size l
  by_cases h : 200 < l.length
  · refine (S7.Fields_long ⟨l.toArray⟩ w (by omega) (by omega)).mono ?_
    rintro e w' ⟨rfl, rfl⟩
    unfold S7.fieldsO
    rw [if_pos h]
    exact ⟨none, 0, rfl, Rd.zero _ _ _, Nat.le_refl _, Fr.refl _ _⟩
  · refine (S7.Fields_short ⟨l.toArray⟩ l w rfl (by omega)).mono ?_
    rintro e w' h2
    unfold S7.fieldsO
    rw [if_neg h]
    cases hf : Go.Lxr.fieldsD 0 l with
    | error k =>
      rw [hf] at h2
      obtain ⟨rfl, h3⟩ := h2
      exact ⟨none, 0, rfl, Rd.zero _ _ _, Nat.le_refl _, h3⟩
    | ok fs =>
      rw [hf] at h2
      obtain ⟨v, rfl, hv, h3⟩ := h2
      obtain ⟨A, c, rfl, h4, -, h5, -⟩ := own_rd hv
      exact ⟨A, c, rfl, h5, h4, h3⟩
theorem res_parse {w : World} {q : Nat} {v : LineL} (hb : Blk w q 58 (lineC v)) (tmps : Array Value) (hp : tmps.getD 2 undef = .pointer (some ⟨q, 0, none⟩)) : (results Tryz.f30 tmps).run Tryz.prog w = .ok (.agg (lineC v)) w :=
  results_cell_row (P := Tryz.prog) (fn := Tryz.f30) (p := 2) (ty := 58) rfl tmps _ q 58 (lineC v) (0, 0) _ hp hb Tryz.underlying58 rfl (infoL v)
set_option maxRecDepth 100000 in
set_option maxHeartbeats 3200000 in
theorem parse_holds : ParseC := by
  intro l x w hw hlen hx
  subst hx
  have hf1 := Fr.new w (.cells #[intV 0, .string ⟨#[]⟩, intV 0, intV 0, intV 0, intV 0, intV 0, intV 0, intV 0, intV 0, intV 0, .string ⟨#[]⟩, .string ⟨#[]⟩, .string ⟨#[]⟩, intV 0, intV 0, intV 0, .string ⟨#[]⟩, .string ⟨#[]⟩, .bool false, intV 0, intV 0, intV 0, intV 0, intV 0, intV 0, intV 0, intV 0, intV 0] 58) (fun _ => False)
  have HZ := Lib.hid (show Blk _ w.heap.size 58 (lineC lineZ) from Blk.made w 58 #[intV 0, .string ⟨#[]⟩, intV 0, intV 0, intV 0, intV 0, intV 0, intV 0, intV 0, intV 0, intV 0, .string ⟨#[]⟩, .string ⟨#[]⟩, .string ⟨#[]⟩, intV 0, intV 0, intV 0, .string ⟨#[]⟩, .string ⟨#[]⟩, .bool false, intV 0, intV 0, intV 0, intV 0, intV 0, intV 0, intV 0, intV 0, intV 0])
  have HF := Lib.hid hf1
  have HP := Lib.hid (FieldsC_any l (w.alloc (.cells #[intV 0, .string ⟨#[]⟩, intV 0, intV 0, intV 0, intV 0, intV 0, intV 0, intV 0, intV 0, intV 0, .string ⟨#[]⟩, .string ⟨#[]⟩, .string ⟨#[]⟩, intV 0, intV 0, intV 0, .string ⟨#[]⟩, .string ⟨#[]⟩, .bool false, intV 0, intV 0, intV 0, intV 0, intV 0, intV 0, intV 0, intV 0, intV 0] 58)) (by omega))
  have HT := Lib.hid (fieldsO_text l)
  have HW := Lib.hid (fun (W : World) (f : Fr w W (fun _ => False)) => hw.fr f)
  unfold parseL
  obtain ⟨⟨fs, c, k⟩, ho⟩ : ∃ o, S7.fieldsO l = o := ⟨_, rfl⟩
  rw [ho] at HP HT ⊢
  clear hf1 hw ho
  show Calls _ _ _ _ (fun e w' => e = .returned (lineV (if k ≠ 0 then wrongL k c else lineP fs)) ∧ _)
  by_cases hk : k = 0
  · subst hk
    rw [if_neg (by simp)]
    by_cases hne : fs = []
    · subst hne
      rw [show lineP [] = lineZ from rfl]
      go_enter Tryz.func30, Tryz.ntmps30
      go_wp2_with fail
      refine HP.out.mono ?_
      rintro e w2 ⟨A, cap, rfl, -, -, hf2⟩
      have HF2 := Lib.hid (ff HF.out hf2)
      have HZ2 := Lib.hid (hf2.blk HZ.out (fun h => h))
      clear hf2
      go_wp2_with (
      refine wpList_store_blk 58 _ _ w.heap.size 0 58 (lineC lineZ) (lineC lineZ) (lineC lineZ) (by rfl) rfl rfl rfl rfl HZ2.out (infoL _) (lineC_one _) (show 0 + 29 ≤ 29 by decide) (put_line _ _) ?_
      intro w9 hf9 hb9
      have HE := Lib.hid hb9
      have HFe := Lib.hid (HF2.out.fresh hf9 (fun i e => by omega))
      clear hf9 hb9)
      (try simp only [Exit.inBlock, Exit.then])
      exact bodyPost_ret (res_parse HE.out _ rfl) rfl ⟨rfl, HFe.out⟩
    · rw [line_code fs hne]
      obtain ⟨X, hX⟩ : ∃ X, outL fs (readP fs) id = X := ⟨_, rfl⟩
      rw [hX]
      obtain ⟨n, hn⟩ : ∃ n, fs.length = n + 1 := by
        cases fs with
        | nil => exact absurd rfl hne
        | cons y r => exact ⟨r.length, rfl⟩
      have n0 : ((fs.length : Int) == 0) = false := by simp; omega
      clear hn
      have HR := Lib.hid (fun (A : Option Addr) (cap : Nat) (W : World) (hW : LOk W) (hfd : S7.FdAt W A fs) (hc : fs.length ≤ cap) => (show Calls Tryz.prog 44 #[.slice A fs.length cap] W fun e w' => e = .returned (.agg (lineC X)) ∧ Fr W w' (fun _ => False) by rw [← hX]; exact read_any fs (fun y hy => Nat.le_trans (HT.out y hy) (by omega)) hne A cap W hW hfd hc))
      clear hX HT
      go_enter Tryz.func30, Tryz.ntmps30
      go_wp2_with fail
      refine HP.out.mono ?_
      rintro e w2 ⟨A, cap, rfl, hfd, hcap, hf2⟩
      have HF2 := Lib.hid (ff HF.out hf2)
      have HZ2 := Lib.hid (hf2.blk HZ.out (fun h => h))
      have HR2 := Lib.hid (HR.out A cap w2 (HW.out w2 HF2.out) hfd hcap)
      clear hf2 hfd
      go_wp2_with fail
      refine HR2.out.mono ?_
      rintro e w3 ⟨rfl, hf3⟩
      have HF3 := Lib.hid (ff HF2.out hf3)
      have HZ3 := Lib.hid (hf3.blk HZ2.out (fun h => h))
      clear hf3
      go_wp2_with (
      refine wpList_store_blk 58 _ _ w.heap.size 0 58 (lineC lineZ) (lineC X) (lineC X) (by rfl) rfl rfl rfl rfl HZ3.out (infoL _) (lineC_one _) (show 0 + 29 ≤ 29 by decide) (put_line _ _) ?_
      intro w9 hf9 hb9
      have HE := Lib.hid hb9
      have HFe := Lib.hid (HF3.out.fresh hf9 (fun i e => by omega))
      clear hf9 hb9)
      (try simp only [Exit.inBlock, Exit.then])
      exact bodyPost_ret (res_parse HE.out _ rfl) rfl ⟨rfl, HFe.out⟩
  · rw [if_pos hk]
    have k0 : (k == 0) = false := by simpa using hk
    obtain ⟨X, hX⟩ : ∃ X, wrongL k c = X := ⟨_, rfl⟩
    rw [hX]
    have HQ := Lib.hid (fun W => (show Calls Tryz.prog 43 #[intV k, intV c] W fun e w' => e = .returned (.agg (lineC X)) ∧ Fr W w' (fun _ => False) by rw [← hX]; exact fault_any k c W))
    clear hX
    go_enter Tryz.func30, Tryz.ntmps30
    go_wp2_with fail
    refine HP.out.mono ?_
    rintro e w2 ⟨A, cap, rfl, -, -, hf2⟩
    have HF2 := Lib.hid (ff HF.out hf2)
    have HZ2 := Lib.hid (hf2.blk HZ.out (fun h => h))
    clear hf2
    go_wp2_with fail
    refine (HQ.out _).mono ?_
    rintro e w3 ⟨rfl, hf3⟩
    have HF3 := Lib.hid (ff HF2.out hf3)
    have HZ3 := Lib.hid (hf3.blk HZ2.out (fun h => h))
    clear hf3
    go_wp2_with (
      refine wpList_store_blk 58 _ _ w.heap.size 0 58 (lineC lineZ) (lineC X) (lineC X) (by rfl) rfl rfl rfl rfl HZ3.out (infoL _) (lineC_one _) (show 0 + 29 ≤ 29 by decide) (put_line _ _) ?_
      intro w9 hf9 hb9
      have HE := Lib.hid hb9
      have HFe := Lib.hid (HF3.out.fresh hf9 (fun i e => by omega))
      clear hf9 hb9)
    (try simp only [Exit.inBlock, Exit.then])
    exact bodyPost_ret (res_parse HE.out _ rfl) rfl ⟨rfl, HFe.out⟩
end Go.Proofs.YtlfjknndkjgciaaGreatDoor
namespace Go.Proofs.YtlfjknndkjgciaaGreatDoor
open Go.RowKit Go.Mem Go.Lin Go.Dcm

def strL (s : Bs) : List Value := [strV s]
theorem strL_len (s : Bs) : (strL s).length = 1 := rfl
theorem flat_str (l : List Bs) : l.flatMap strL = l.map strV := by
  induction l with
  | nil => rfl
  | cons x l ih => rw [List.flatMap_cons, ih]; rfl
/-- a row of the call's own, all of it just made -/
theorem own_all {X : Type} {w : World} {base : Nat} {e : TypeId} {k : Nat} {f : X → List Value} {l : List X} (cs : Array Value) (hb : base ≤ w.heap.size) (hc : cs.toList = l.flatMap f) (hk : ∀ x, (f x).length = k) (hl : l.length ≤ maxLen) : Own (w.alloc (.cells cs e)) base e k f (.slice (some ⟨w.heap.size, 0, none⟩) l.length l.length) l := by
  have hs : cs.toList.length = l.length * k := by rw [hc, flat_len f k hk]
  refine ⟨by rw [← hc, hs], .inr ⟨w.heap.size, l.length, cs, rfl, hb, Blk.made w e cs, Nat.le_refl _, hl, by simpa using hs, ?_⟩⟩
  rw [hc, List.take_of_length_le (by rw [← hc, hs]; exact Nat.le_refl _)]
theorem Split10_any (l : Bs) (w : World) (hl : l.length ≤ 1000000) (hw : S8.WOk w) : Calls Tryz.prog 27 #[strV l, .string ⟨#[10]⟩] w fun e w' =>
    e = .returned (.slice (some ⟨w.heap.size, 0, none⟩) (Go.Rope.linesL l).length (Go.Rope.linesL l).length) ∧ Own w' w.heap.size 9 1 strL (.slice (some ⟨w.heap.size, 0, none⟩) (Go.Rope.linesL l).length (Go.Rope.linesL l).length) (Go.Rope.linesL l) ∧ Fr w w' (fun _ => False) := by
  obtain ⟨m, hm⟩ := hw.max
  have hsz := str_size l
  refine (Tryz.strings_Split ⟨l.toArray⟩ ⟨#[10]⟩ m w (by omega) hm (by decide)).mono ?_
  rintro e w2 ⟨rfl, rfl⟩
  have hd : (Lib.splitB ⟨#[10]⟩ 0 (Lib.countB ⟨l.toArray⟩ ⟨#[10]⟩) ⟨l.toArray⟩).map (·.data.toList) = Go.Rope.linesL l := by
    rw [Lib.splitB_data, ← split_lines]
    simp [Lib.split, Lib.countB]
  have hn : Lib.countB ⟨l.toArray⟩ ⟨#[10]⟩ + 1 = (Go.Rope.linesL l).length := by
    rw [← hd, List.length_map, Lib.splitB_all _ (by decide) 0 _ _ rfl]
  have hcs : (Lib.splitB ⟨#[10]⟩ 0 (Lib.countB ⟨l.toArray⟩ ⟨#[10]⟩) ⟨l.toArray⟩).map Value.string = (Go.Rope.linesL l).map strV := by
    rw [← hd, List.map_map]
    exact List.map_congr_left fun s _ => S8.strV_of s
  rw [hcs, hn]
  have hle := (lines_le l).1
  exact ⟨rfl, own_all _ (Nat.le_refl _) (by rw [flat_str]) strL_len (by simp only [maxLen]; omega), Fr.new _ _ _⟩
theorem Trim_any (l x : Bs) (hx : stripR l = x) (w : World) (hl : l.length ≤ 1000000) : Calls Tryz.prog 28 #[strV l, .string ⟨#[13]⟩] w fun e w' => e = .returned (strV x) ∧ w' = w := by
  have hsz := str_size l
  refine (Tryz.strings_TrimSuffix ⟨l.toArray⟩ ⟨#[13]⟩ w (by omega)).mono ?_
  rintro e w2 ⟨rfl, rfl⟩
  refine ⟨?_, rfl⟩
  have : Lib.trimSuffix l [13] = x := by rw [trim_strip, hx]
  show Ending.returned (.string ⟨(Lib.trimSuffix l [13]).toArray⟩) = _
  rw [this]
/-- lines, the first i of them cut -/
def upD (L : List Bs) (i : Nat) : List Bs := (L.take i).map stripR ++ L.drop i
theorem up_len (L : List Bs) (i : Nat) : (upD L i).length = L.length := by
  unfold upD
  rw [List.length_append, List.length_map, List.length_take, List.length_drop]
  omega
theorem up_set (L : List Bs) (i : Nat) (h : i < L.length) : (upD L i).set i (stripR L[i]) = upD L (i + 1) := by
  unfold upD
  rw [List.drop_eq_getElem_cons h, List.set_append_right _ _ (by rw [List.length_map, List.length_take]; omega), List.length_map, List.length_take, Nat.min_eq_left (Nat.le_of_lt h), Nat.sub_self, List.set_cons_zero, List.take_succ_eq_append_getElem h, List.map_append, List.append_assoc]
  rfl
theorem up_at (L : List Bs) (i : Nat) (h : i < L.length) : (upD L i)[i]? = some L[i] := by
  unfold upD
  rw [List.getElem?_append_right (by rw [List.length_map, List.length_take]; omega), List.length_map, List.length_take, Nat.min_eq_left (Nat.le_of_lt h), Nat.sub_self, List.drop_eq_getElem_cons h]
  rfl
theorem up_all (L : List Bs) : upD L L.length = L.map stripR := by simp [upD]
/-- a row of texts, one of them turned -/
theorem str_put {w : World} {B b n c : Nat} {l : List Bs} (h : Own w B 9 1 strL (.slice (some ⟨b, 0, none⟩) n c) l) (hn : n = l.length) (i : Nat) (x : Bs) : Own (w.setCell ⟨b, i, none⟩ (strV x)) B 9 1 strL (.slice (some ⟨b, 0, none⟩) n c) (l.set i x) := by
  subst hn
  have h1 := (World.ownsRow.stored h i (strV x)).1
  show World.ownsRow _ _ _ _ _ (l.set i x).length _
  rw [flat_str, List.length_set, List.map_set]
  rw [flat_str] at h1
  exact h1
theorem str_at {w : World} {B b n c : Nat} {l : List Bs} (h : Own w B 9 1 strL (.slice (some ⟨b, 0, none⟩) n c) l) (hn : n = l.length) {i : Nat} {x : Bs} (hx : l[i]? = some x) : w.cell? ⟨b, i, none⟩ = some (strV x) ∧ w.frozen? ⟨b, i, none⟩ = false := by
  subst hn
  refine ⟨?_, World.ownsRow.frozenAt h i⟩
  have := h.cells (g := b) rfl i (strV x) (by rw [flat_str, List.getElem?_map, hx]; rfl)
  have hadd : (⟨b, 0, none⟩ : Addr).add i = ⟨b, 0 + i, none⟩ := by unfold Addr.add; split <;> simp_all
  rw [hadd, Nat.zero_add] at this
  exact this
def TPost (l : List Bs) (w : World) (e : Ending) (w' : World) : Prop := ∃ b c, e = .returned (.slice (some ⟨b, 0, none⟩) l.length c) ∧ w.heap.size ≤ b ∧ Own w' w.heap.size 9 1 strL (.slice (some ⟨b, 0, none⟩) l.length c) l ∧ Fr w w' (fun _ => False)
def LI (w : World) (L : List Bs) (H : Nat) (k : Nat) (v : Value) (wr : World) : Prop := ∃ i : Nat, i + k = L.length ∧ v = intV (i : Int) ∧ Own wr w.heap.size 9 1 strL (.slice (some ⟨H, 0, none⟩) L.length L.length) (upD L i) ∧ Fr w wr (fun _ => False)
set_option maxRecDepth 100000 in
set_option maxHeartbeats 1600000 in
theorem dLines_any (l : Bs) (w : World) (hw : S8.WOk w) (hl : l.length ≤ 1000000) : Calls Tryz.prog 16 #[strV l] w (TPost (linesD l) w) := by
  have HS := Lib.hid (Split10_any l w hl hw)
  obtain ⟨L, hL⟩ : ∃ L, Go.Rope.linesL l = L := ⟨_, rfl⟩
  have hle := lines_le l
  rw [hL] at HS hle
  have HD := Lib.hid (show linesD l = upD L L.length by rw [up_all, ← hL]; rfl)
  have HLE := Lib.hid (show ∀ x ∈ L, x.length ≤ 1000000 from fun x hx => Nat.le_trans (hle.2 x hx) hl)
  have hn : L.length ≤ 1000001 := by omega
  rw [HD.out]
  clear hw hL hle hl
  go_enter Tryz.func16, Tryz.ntmps16
  go_wp2_with fail
  refine HS.out.mono ?_
  rintro e w2 ⟨rfl, ho, hf⟩
  have HI := Lib.hid (show LI w L w.heap.size L.length (intV 0) w2 from ⟨0, by simp, rfl, by simpa [upD] using ho, hf⟩)
  clear ho hf
  go_wp2_with fail
  go_loopg [4, 5, 10] L.length (fun k _ _ v10 wr => LI w L w.heap.size k v10 wr)
  case atStart => exact HI.out
  case round =>
    obtain ⟨i, hik, rfl, ho, hf⟩ := hrel
    by_cases hlt : i < L.length
    · obtain ⟨c1, f1⟩ := str_at ho (up_len L i).symm (up_at L i hlt)
      have HU := Lib.hid (up_set L i hlt)
      have HO := Lib.hid ho
      have HF := Lib.hid hf
      have hi1 : (i : Int) < (L.length : Int) := by omega
      have hxl := HLE.out L[i] (List.getElem_mem hlt)
      obtain ⟨x, hx⟩ : ∃ x, L[i] = x := ⟨_, rfl⟩
      rw [hx] at c1 HU hxl
      obtain ⟨y, hy⟩ : ∃ y, stripR x = y := ⟨_, rfl⟩
      have HT := Lib.hid (fun W => Trim_any x y hy W hxl)
      rw [hy] at HU
      clear ho hf hx hy hxl
      go_wp2_with fail
      refine (HT.out _).mono ?_
      rintro e w3 ⟨rfl, rfl⟩
      go_wp2_with fail
      go_roundg (gk - 1)
      case measure => omega
      case rel =>
        refine ⟨i + 1, by omega, by go_num, ?_, HF.out.fresh (Fr.set (S := fun k => k = w.heap.size) rfl) (fun i e => by omega)⟩
        have := str_put HO.out (up_len L i).symm i y
        rw [HU.out] at this
        exact this
    · obtain rfl : i = L.length := by omega
      have hi1 : (L.length : Int) ≤ (L.length : Int) := Int.le_refl _
      have HO := Lib.hid ho
      have HF := Lib.hid hf
      clear ho hf
      go_wp2_with fail
      go_ret
      refine ⟨w.heap.size, L.length, by rw [up_len]; rfl, Nat.le_refl _, by rw [up_len]; exact HO.out, HF.out⟩
/- light -/
def lightD (l : List LineL) : Bool := decide (l.length ≤ 60) && l.all lightB
theorem all_take (l : List LineL) (i : Nat) (h : i < l.length) : (l.take (i + 1)).all lightB = ((l.take i).all lightB && lightB l[i]) := by
  rw [List.take_succ_eq_append_getElem h, List.all_append]
  simp
set_option maxRecDepth 100000 in
set_option maxHeartbeats 1600000 in
theorem light10_any (l : List LineL) (A : Option Addr) (c : Nat) (w : World) (hl : LinesAt w A l) (hm : l.length ≤ maxLen) (b : Bool) (hb : lightD l = b) : Calls Tryz.prog 9 #[.slice A l.length c] w fun e w' => e = .returned (.bool b) ∧ Fr w w' (fun _ => False) := by
  unfold maxLen at hm
  subst hb
  unfold lightD
  have HL := Lib.hid hl
  by_cases h60 : l.length ≤ 60
  · rw [decide_eq_true h60, Bool.true_and]
    have h6 : (l.length : Int) ≤ 60 := by omega
    clear hl
    go_enter Tryz.func9, Tryz.ntmps9
    go_wp2_with fail
    go_loopg [3] l.length (fun k v3 wr => ∃ i : Nat, i + k = l.length ∧ v3 = intV (i : Int) ∧ (l.take i).all lightB = true ∧ Fr w wr (fun _ => False))
    case atStart => exact ⟨0, by simp, rfl, rfl, Fr.refl _ _⟩
    case round =>
      obtain ⟨i, hik, rfl, hall, hf⟩ := hrel
      have HF := Lib.hid hf
      by_cases hlt : i < l.length
      · obtain ⟨b, off, rfl, hcell⟩ := (HL.out.kept hf).at_ hlt
        have ha := all_take l i hlt
        obtain ⟨x, hx⟩ : ∃ x, l[i] = x := ⟨_, rfl⟩
        rw [hx] at hcell ha
        have hi1 : (i : Int) < (l.length : Int) := by omega
        have HC := Lib.hid hcell
        rw [hall, Bool.true_and] at ha
        have hT : l.all lightB = true → lightB x = true := fun h => List.all_eq_true.1 h x (hx ▸ List.getElem_mem hlt)
        cases hb : lightB x with
        | true =>
          rw [hb] at ha
          have HA := Lib.hid ha
          have HT := Lib.hid (light_any x wr true hb)
          clear hall hf hcell ha hx hb hT
          go_wp2_with (refine wpList_load_at 58 _ b (off + i * 29) (lineC x) _ (by rfl) rfl rfl HC.out Tryz.underlying58 rfl (infoL _) ?_)
          refine HT.out.mono ?_
          rintro e w2 ⟨rfl, hf2⟩
          have HF2 := Lib.hid (ff0 HF.out hf2)
          clear hf2
          go_wp2_with fail
          go_roundg (gk - 1)
          case measure => omega
          case rel => exact ⟨i + 1, by omega, by go_num, HA.out, HF2.out⟩
        | false =>
          have HN := Lib.hid (show l.all lightB = false by rw [Bool.eq_false_iff]; intro h; rw [hT h] at hb; exact absurd hb (by decide))
          have HT := Lib.hid (light_any x wr false hb)
          clear hall hf hcell ha hx hb hT
          go_wp2_with (refine wpList_load_at 58 _ b (off + i * 29) (lineC x) _ (by rfl) rfl rfl HC.out Tryz.underlying58 rfl (infoL _) ?_)
          refine HT.out.mono ?_
          rintro e w2 ⟨rfl, hf2⟩
          have HF2 := Lib.hid (ff0 HF.out hf2)
          clear hf2
          go_wp2_with fail
          go_ret
          exact ⟨by rw [HN.out]; rfl, HF2.out⟩
      · obtain rfl : i = l.length := by omega
        rw [List.take_length] at hall
        have HA := Lib.hid hall
        clear hall hf
        go_wp2_with fail
        go_ret
        exact ⟨by rw [HA.out]; rfl, HF.out⟩
  · rw [decide_eq_false h60, Bool.false_and]
    have h6 : (60 : Int) < (l.length : Int) := by omega
    clear hl
    go_enter Tryz.func9, Tryz.ntmps9
    go_wp2_with fail
    go_ret
    exact ⟨rfl, Fr.refl _ _⟩
end Go.Proofs.YtlfjknndkjgciaaGreatDoor
namespace Go.Proofs.YtlfjknndkjgciaaGreatDoor
open Go.RowKit Go.Mem Go.Lin Go.Dcm

theorem infoLine : (Tryz.prog.info? 58).map (fun i => (i.zero, i.size, i.bytes)) = some (some (.agg (lineC lineZ)), 29, 280) := by kernel_rfl
theorem made_lines (n : Nat) : (madeCells (lineC lineZ) (n * 29)).toList = (List.replicate n lineZ).flatMap lineL := by
  apply List.ext_getElem?
  intro j
  by_cases hj : j < n * 29
  · have h1 : (List.replicate n lineZ)[j / 29]? = some lineZ := by
      rw [List.getElem?_replicate, if_pos (by omega)]
    have h2 := flat_get lineL 29 lineL_len h1 (j % 29) (Nat.mod_lt _ (by omega))
    rw [show j / 29 * 29 + j % 29 = j by omega] at h2
    rw [h2]
    have hs : (lineC lineZ).size = 29 := rfl
    have hm : j % 29 < (lineC lineZ).size := Nat.mod_lt _ (by decide)
    have e1 : (lineL lineZ)[j % 29]? = some (lineC lineZ)[j % 29] := by
      show (lineC lineZ).toList[j % 29]? = _
      rw [Array.getElem?_toList, Array.getElem?_eq_getElem hm]
    rw [e1]
    simp only [madeCells, Array.toList_map, Array.toList_range, List.getElem?_map, List.getElem?_range hj, Option.map_some, hs]
    rw [getElem!_pos (lineC lineZ) (j % 29) hm]
  · rw [List.getElem?_eq_none (by simp [madeCells]; omega), List.getElem?_eq_none (by rw [flat_len lineL 29 lineL_len]; simp; omega)]
/-- the first i of them parsed -/
def paD (L : List Bs) (i : Nat) : List LineL := (L.take i).map parseL ++ List.replicate (L.length - i) lineZ
theorem pa_len (L : List Bs) (i : Nat) (h : i ≤ L.length) : (paD L i).length = L.length := by
  unfold paD
  rw [List.length_append, List.length_map, List.length_take, List.length_replicate]
  omega
theorem pa_all (L : List Bs) : paD L L.length = L.map parseL := by simp [paD]
theorem pa_none (L : List Bs) : paD L 0 = List.replicate L.length lineZ := by simp [paD]
/-- a row of structs, one of them turned -/
theorem many_flat {X : Type} (f : X → List Value) (k : Nat) (hf : ∀ x, (f x).length = k) (a : List X) (x y : X) (b : List X) : setMany ((a ++ x :: b).flatMap f).toArray (a.length * k) (f y) = ((a ++ y :: b).flatMap f).toArray := by
  have ha := flat_len f k hf a
  refine many_eq (by simp [hf, ha] <;> omega) ?_
  simp only [List.flatMap_append, List.flatMap_cons]
  have e : (a.flatMap f ++ (f x ++ b.flatMap f)).drop (a.length * k + (f y).length) = b.flatMap f := by
    rw [← List.append_assoc, List.drop_left' (by rw [List.length_append, hf, hf, ha])]
  rw [e, List.take_left' ha]
theorem pa_step (L : List Bs) (i : Nat) (h : i < L.length) : setMany ((paD L i).flatMap lineL).toArray (i * 29) (lineC (parseL L[i])).toList = ((paD L (i + 1)).flatMap lineL).toArray := by
  have e1 : paD L i = (L.take i).map parseL ++ lineZ :: List.replicate (L.length - (i + 1)) lineZ := by
    unfold paD
    rw [show L.length - i = (L.length - (i + 1)) + 1 by omega, List.replicate_succ]
  have e2 : paD L (i + 1) = (L.take i).map parseL ++ parseL L[i] :: List.replicate (L.length - (i + 1)) lineZ := by
    unfold paD
    rw [List.take_succ_eq_append_getElem h, List.map_append, List.append_assoc]
    rfl
  have := many_flat lineL 29 lineL_len ((L.take i).map parseL) lineZ (parseL L[i]) (List.replicate (L.length - (i + 1)) lineZ)
  rw [List.length_map, List.length_take, Nat.min_eq_left (Nat.le_of_lt h)] at this
  rw [e1, e2]
  exact this
theorem doc_base {tr tz tl : TypeId} {w : World} {a b : Nat} {vr vz vl vd : Value} {d : DocL} (h : DocAt tr tz tl w b vr vz vl vd d) (hb : a ≤ b) : DocAt tr tz tl w a vr vz vl vd d := by
  obtain ⟨zv, h1, h2, h3⟩ := h.z
  exact ⟨own_base h.r hb, ⟨zv, h1, own_base h2 hb, fun x hx => zat_base (h3 x hx) hb⟩, own_base h.l hb, own_base h.g hb⟩
theorem res_doc {w : World} {q : Nat} {cs : Array Value} (hs : cs.size = 4) (hb : Blk w q 37 cs) (tmps : Array Value) (hp : tmps.getD 2 undef = .pointer (some ⟨q, 0, none⟩)) : (results Tryz.f18 tmps).run Tryz.prog w = .ok (.agg cs) w :=
  results_cell_row (P := Tryz.prog) (fn := Tryz.f18) (p := 2) (ty := 37) rfl tmps _ q 37 cs (0, 0) _ hp hb Tryz.underlying37 rfl (by rw [hs]; exact infoDoc)
theorem lines_blk {w : World} {b : Nat} {l : List LineL} (h : Blk w b 58 (l.flatMap lineL).toArray) : LinesAt w (some ⟨b, 0, none⟩) l := by
  refine ⟨flat_len lineL 29 lineL_len l, fun _ => ⟨b, 0, rfl, fun j u hu => ?_⟩⟩
  have := cell_at h j
  rw [Nat.zero_add, this]
  simpa using hu
def PI (w : World) (L : List Bs) (b bs c : Nat) (k : Nat) (v : Value) (wr : World) : Prop := ∃ i : Nat, i + k = L.length ∧ v = intV (i : Int) ∧ Blk wr b 58 ((paD L i).flatMap lineL).toArray ∧ Own wr w.heap.size 9 1 strL (.slice (some ⟨bs, 0, none⟩) L.length c) L ∧ Blk wr w.heap.size 37 #[.slice none 0 0, .slice none 0 0, .slice none 0 0, .slice none 0 0] ∧ w.heap.size < b ∧ Fr w wr (fun _ => False)
set_option maxRecDepth 100000 in
set_option maxHeartbeats 3200000 in
theorem dcParse_any (l : Bs) (w : World) (hw : LOk w) (hl : l.length ≤ 30000) : Calls Tryz.prog 18 #[strV l] w (DocPost 72 71 78 w (ofD ((linesD l).map parseL))) := by
  have hf0 := Fr.new w (.cells #[.slice none 0 0, .slice none 0 0, .slice none 0 0, .slice none 0 0] 37) (fun _ => False)
  have HL := Lib.hid (dLines_any l _ (hw.fr hf0).kwd (by omega))
  have HR0 := Lib.hid (Blk.made w 37 #[.slice none 0 0, .slice none 0 0, .slice none 0 0, .slice none 0 0])
  have HF0 := Lib.hid hf0
  have HW := Lib.hid (fun (W : World) (f : Fr w W (fun _ => False)) => hw.fr f)
  have hle := linesD_le l
  obtain ⟨L, hL⟩ : ∃ L, linesD l = L := ⟨_, rfl⟩
  rw [hL] at HL hle ⊢
  have HX := Lib.hid (show ∀ x ∈ L, x.length ≤ 100000 from fun x hx => Nat.le_trans (hle.2 x hx) (by omega))
  have hn : L.length ≤ 30001 := by omega
  clear hw hf0 hL hle hl
  go_enter Tryz.func18, Tryz.ntmps18
  go_wp2_with fail
  refine HL.out.mono ?_
  rintro e w2 ⟨bs, c, rfl, hbs, ho, hf⟩
  obtain ⟨i0, hi0, hz0, hz1, hz2⟩ := info_parts infoLine
  obtain ⟨wM, hrun, hownM, hgM⟩ := run_make_full (P := Tryz.prog) w2 0 22 58 i0 _ 29 Tryz.underlying22 hi0 hz0 hz1 .i64 .i64 L.length (by rw [hz2]; omega) (by simp only [maxLen]; omega) (Nat.zero_le _)
  have hfM := Fr.ofGrown hgM
  have hfM : Fr w2 wM (fun _ => False) := hfM.mono (fun i _ h => by cases h)
  obtain ⟨cs, -, hbM, hcs⟩ : ∃ cs, 0 ≤ 0 ∧ Blk wM w2.heap.size 58 cs ∧ cs = ((paD L 0).flatMap lineL).toArray := by
    rcases hownM.2 with ⟨h', -⟩ | ⟨g', cap', cur, h', hb, hg, hnc, hcm, hcs, ht⟩
    · simp at h'
    · injection h' with h1 h2 h3
      injection h1 with h1
      injection h1 with h1
      subst h1 h3
      refine ⟨cur, Nat.le_refl _, hg, ?_⟩
      rw [List.take_of_length_le (by rw [Array.length_toList, hcs]; exact Nat.le_refl _)] at ht
      rw [pa_none, ← made_lines]
      have e : (Value.agg (lineC lineZ)).cells = lineC lineZ := rfl
      rw [e] at ht
      exact Array.toList_inj.1 (by rw [ht])
  subst hcs
  have hfw := ff0 HF0.out hf
  have hs2 := hfw.size
  have hs1 : (w.alloc (.cells #[.slice none 0 0, .slice none 0 0, .slice none 0 0, .slice none 0 0] 37)).heap.size = w.heap.size + 1 := by simp
  have hs3 := hf.size
  have HI := Lib.hid (show PI w L w2.heap.size bs c L.length (intV 0) wM from ⟨0, by simp, rfl, hbM, own_base (ho.kept hfM) (by rw [hs1]; omega), hfM.blk (hf.blk HR0.out (fun h => h)) (fun h => h), by omega, ff0 hfw hfM⟩)
  clear ho hf hownM hgM hbM hfM hfw hs1 hs3
  go_wp2_with fail
  go_loopg [5, 6, 14] L.length (fun k _ _ v14 wr => PI w L w2.heap.size bs c k v14 wr)
  case atStart => exact HI.out
  case round =>
    obtain ⟨i, hik, rfl, hb, ho, hR, hwb, hf⟩ := hrel
    have HB := Lib.hid hb
    have HO := Lib.hid ho
    have HR := Lib.hid hR
    have HF := Lib.hid hf
    by_cases hlt : i < L.length
    · have c1 := (str_at ho rfl (List.getElem?_eq_getElem hlt)).1
      have hxl := HX.out L[i] (List.getElem_mem hlt)
      have HU := Lib.hid (pa_step L i hlt)
      have hi1 : (i : Int) < (L.length : Int) := by omega
      obtain ⟨x, hx⟩ : ∃ x, L[i] = x := ⟨_, rfl⟩
      rw [hx] at c1 hxl HU
      obtain ⟨y, hy⟩ : ∃ y, parseL x = y := ⟨_, rfl⟩
      have HP := Lib.hid (parse_holds x y wr (HW.out wr hf) hxl hy)
      rw [hy] at HU
      have hsz : i * 29 + 29 ≤ ((paD L i).flatMap lineL).toArray.size := by
        rw [List.size_toArray, flat_len lineL 29 lineL_len, pa_len L i (by omega)]
        omega
      obtain ⟨C1, hC1⟩ : ∃ C, ((paD L i).flatMap lineL).toArray = C := ⟨_, rfl⟩
      obtain ⟨C2, hC2⟩ : ∃ C, ((paD L (i + 1)).flatMap lineL).toArray = C := ⟨_, rfl⟩
      rw [hC1] at HB hsz
      rw [hC1, hC2] at HU
      have HC2 := Lib.hid hC2
      clear hb ho hR hf hx hy hxl hC1 hC2
      go_wp2_with fail
      refine HP.out.mono ?_
      rintro e w3 ⟨rfl, hf3⟩
      have HB3 := Lib.hid (hf3.blk HB.out (fun h => h))
      have HO3 := Lib.hid (HO.out.kept hf3)
      have HR3 := Lib.hid (hf3.blk HR.out (fun h => h))
      have HF3 := Lib.hid (ff0 HF.out hf3)
      clear hf3
      go_wp2_with (refine wpList_store_blk 58 _ _ w2.heap.size (i * 29) 58 C1 (lineC y) C2 (by rfl) rfl rfl rfl rfl HB3.out (infoL _) (lineC_one _) hsz HU.out ?_
                   intro w9 hf9 hb9
                   have HB9 := Lib.hid hb9
                   have HF9 := Lib.hid hf9
                   clear hf9 hb9)
      go_roundg (gk - 1)
      case measure => omega
      case rel =>
        refine ⟨i + 1, by omega, by go_num, by rw [HC2.out]; exact HB9.out, own_far HO3.out HF9.out (fun k cs _ hb e => by subst e; exact absurd (blk_same hb HB3.out) (by decide)), HF9.out.blk HR3.out (fun e => by omega), hwb, HF3.out.fresh HF9.out (fun i e => by have e : i = w2.heap.size := e; omega)⟩
    · obtain rfl : i = L.length := by omega
      rw [pa_all] at HB
      have hpl : (L.map parseL).length = L.length := List.length_map _
      have HD := Lib.hid (show Calls Tryz.prog 13 #[.slice (some ⟨w2.heap.size, 0, none⟩) L.length L.length] wr (DocPost 72 71 78 wr (ofD (L.map parseL))) by
        have := dOf_any (L.map parseL) _ L.length wr (lines_blk HB.out) (by rw [hpl]; omega)
        rw [hpl] at this
        exact this)
      have hi1 : (L.length : Int) ≤ (L.length : Int) := Int.le_refl _
      have hws := hf.size
      clear hb ho hR hf hpl
      go_wp2_with fail
      refine HD.out.mono ?_
      rintro e w3 ⟨vr, vz, vl, vd, rfl, hd3, hf3⟩
      have HD3 := Lib.hid (doc_base hd3 hws)
      have HR3 := Lib.hid (hf3.blk HR.out (fun h => h))
      have HF3 := Lib.hid (ff0 HF.out hf3)
      clear hd3 hf3
      go_wp2_with (
        (refine wpList_store_blk 37 _ _ w.heap.size 0 37 _ #[vr, vz, vl, vd] #[vr, vz, vl, vd] (by rfl) rfl rfl rfl rfl HR3.out infoDoc (doc_one HD3.out) (show 0 + 4 ≤ 4 by decide) rfl ?_
         intro w9 hf9 hb9
         have HE9 := Lib.hid hb9
         have HF9 := Lib.hid hf9
         clear hf9 hb9))
      (try simp only [Exit.inBlock, Exit.then])
      exact bodyPost_ret (res_doc rfl HE9.out _ rfl) rfl ⟨vr, vz, vl, vd, rfl, doc_far HD3.out HF9.out HR3.out, HF3.out.fresh HF9.out (fun i e => by have e : i = w.heap.size := e; omega)⟩
end Go.Proofs.YtlfjknndkjgciaaGreatDoor
namespace Go.Proofs.YtlfjknndkjgciaaGreatDoor
open Go.RowKit Go.Mem Go.Lin Go.Dcm

/- the chapter's example -/
def aW : Bs := [90, 111, 110, 101, 32, 65, 32, 49, 58, 48, 48, 32, 45, 32, 88, 32, 50, 48, 48, 48, 10, 48, 32, 45, 32, 89]
def aF1 : List Bs := [[90, 111, 110, 101], [65], [49, 58, 48, 48], [45], [88], [50, 48, 48, 48]]
def aF2 : List Bs := [[48], [45], [89]]
def aE1 : EraL := ⟨3600, 0, 0, [], [88], ⟨true, 2000, 1, day1, atZ⟩⟩
def aE2 : EraL := ⟨0, 0, 0, [], [89], tilZ⟩
theorem a_lines : linesD aW = [Go.Lxr.joinL aF1, Go.Lxr.joinL aF2] := by decide +kernel
theorem a_era1 : eraP aF1 2 = .ok aE1 := by
  have h1 : Go.Clk.amtD [49, 58, 48, 48] = some 3600 := by decide +kernel
  have h2 : rulesP [45] = some (0, 0, []) := by decide +kernel
  have h3 : formatB [88] = true := by decide +kernel
  have h4 : fromP [50, 48, 48, 48] = some 2000 := by decide +kernel
  unfold eraP untilP tilMonth tilDay tilTime aF1
  simp only [gt, List.getD_cons_succ, List.getD_cons_zero, h1, h2, h3, h4, req_some, chk_true, bind_ok, List.length_cons, List.length_nil]
  rfl
theorem a_era2 : eraP aF2 0 = .ok aE2 := by
  have h1 : Go.Clk.amtD [48] = some 0 := by decide +kernel
  have h2 : rulesP [45] = some (0, 0, []) := by decide +kernel
  have h3 : formatB [89] = true := by decide +kernel
  unfold eraP aF2
  simp only [gt, List.getD_cons_succ, List.getD_cons_zero, h1, h2, h3, req_some, chk_true, bind_ok, List.length_cons, List.length_nil]
  rfl
theorem a_parse1 : parseL (Go.Lxr.joinL aF1) = { lineZ with kind := 2, name := [65], era := aE1 } := by
  obtain ⟨fs, h1, h2⟩ := Go.Lxr.fields_show aF1 0 (by decide)
  unfold parseL
  rw [fields_of h1 (by decide), if_neg (by simp)]
  have hlen : fs.length = 6 := by rw [← List.length_map (·.1), h2]; rfl
  have hz : Go.Kwd.zoneD [65] = true := by decide +kernel
  unfold lineP
  rw [h2, if_neg (fun e => by have e : fs = [] := e; rw [e] at hlen; cases hlen), show contB (gt aF1 0) = false by decide +kernel, if_neg (by decide), show Go.Kwd.headD (gt aF1 0) = 2 by decide +kernel, if_neg (by decide), if_pos rfl, if_neg (by simp only [hlen]; decide),
    show gt aF1 1 = [65] from rfl, hz, chk_true, bind_ok, a_era1]
  rfl
theorem a_parse2 : parseL (Go.Lxr.joinL aF2) = { lineZ with kind := 3, era := aE2 } := by
  obtain ⟨fs, h1, h2⟩ := Go.Lxr.fields_show aF2 0 (by decide)
  unfold parseL
  rw [fields_of h1 (by decide), if_neg (by simp)]
  have hlen : fs.length = 3 := by rw [← List.length_map (·.1), h2]; rfl
  unfold lineP
  rw [h2, if_neg (fun e => by have e : fs = [] := e; rw [e] at hlen; cases hlen), show contB (gt aF2 0) = true by decide +kernel, if_pos rfl, if_neg (by simp only [hlen]; decide), a_era2]
  rfl
theorem a_doc : ofD ((linesD aW).map parseL) = ⟨[], [⟨[65], [aE1, aE2], [0, 1]⟩], [], []⟩ := by
  rw [a_lines]
  show ofD [parseL _, parseL _] = _
  rw [a_parse1, a_parse2]
  rfl
set_option maxRecDepth 100000 in
set_option maxHeartbeats 1600000 in
theorem alive10_any (w : World) (hw : LOk w) : Calls Tryz.prog 10 #[] w fun e w' => e = .returned (.bool true) ∧ Fr w w' (fun _ => False) := by
  have HP := Lib.hid (dcParse_any aW w hw (by decide))
  rw [a_doc] at HP
  clear hw
  go_enter Tryz.func10, Tryz.ntmps10
  go_wp2_with fail
  refine HP.out.mono ?_
  rintro e w2 ⟨vr, vz, vl, vd, rfl, hd, hf⟩
  obtain ⟨zv, hzv, hoz, hall⟩ := hd.z
  obtain ⟨z, rfl⟩ : ∃ z, zv = [z] := by
    have h1 : zv.length = 1 := by
      have := congrArg List.length hzv
      simpa using this
    exact List.length_eq_one_iff.1 h1
  obtain ⟨⟨z', ve, vn⟩, hz⟩ : ∃ y, z = y := ⟨_, rfl⟩
  subst hz
  have hz' : z' = ⟨[65], [aE1, aE2], [0, 1]⟩ := by simpa using hzv
  subst hz'
  obtain ⟨Ae, ce, hve⟩ := (hall _ (List.mem_singleton.2 rfl)).e.slice
  have hve : ve = .slice Ae 2 ce := hve
  subst hve
  obtain ⟨Ar, cr, rfl⟩ := hd.r.slice
  obtain ⟨Al, cl, rfl⟩ := hd.l.slice
  obtain ⟨Ad, cd, rfl⟩ := hd.g.slice
  obtain ⟨Az, cz, rfl, -, -, hrd⟩ := hoz.rd
  obtain ⟨bz, off, rfl, hc⟩ := rows_at zoneL_len hrd (i := 0) (x := _) rfl
  have c0 : w2.cell? ⟨bz, off, none⟩ = some (strV [65]) := by have := hc 0 (by omega); simpa [zoneL] using this
  have c1 : w2.cell? ⟨bz, off + 1, none⟩ = some (.slice Ae 2 ce) := by have := hc 1 (by omega); simpa [zoneL] using this
  have hn := Fr.new w2 (.cells #[.slice Ar 0 cr, .slice (some ⟨bz, off, none⟩) 1 cz, .slice Al 0 cl, .slice Ad 0 cd] 37) (fun _ => False)
  have c0 := cell_far hn c0 (fun h => h)
  have c1 := cell_far hn c1 (fun h => h)
  have HF := Lib.hid (ff0 hf hn)
  clear hn hd hoz hall hrd hc hzv hf
  go_wp2_with fail
  go_ret
  exact ⟨rfl, HF.out⟩
end Go.Proofs.YtlfjknndkjgciaaGreatDoor
namespace Go.Proofs.YtlfjknndkjgciaaGreatDoor
open Go.RowKit Go.Mem Go.Lin Go.Dcm

/-- a document in a variable of its own -/
structure DVar (tr tz tl td : TypeId) (w : World) (q : Nat) (d : DocL) (vr vz vl vd : Value) : Prop where
  b : Blk w q td #[vr, vz, vl, vd]
  d : DocAt tr tz tl w 0 vr vz vl vd d
theorem DVar.kept {tr tz tl td : TypeId} {w w' : World} {q : Nat} {d : DocL} {vr vz vl vd : Value} (h : DVar tr tz tl td w q d vr vz vl vd) (hf : Fr w w' (fun _ => False)) : DVar tr tz tl td w' q d vr vz vl vd := ⟨hf.blk h.b (fun h => h), h.d.kept hf⟩
theorem dvar_new {tr tz tl : TypeId} (td : TypeId) {w : World} {B : Nat} {d : DocL} {vr vz vl vd : Value} (h : DocAt tr tz tl w B vr vz vl vd d) : DVar tr tz tl td (w.alloc (.cells #[vr, vz, vl, vd] td)) w.heap.size d vr vz vl vd :=
  ⟨Blk.made w td _, (doc_base h (Nat.zero_le _)).kept (Fr.new _ _ _)⟩
/-- the four slices -/
theorem doc_slices {tr tz tl : TypeId} {w : World} {B : Nat} {d : DocL} {vr vz vl vd : Value} (h : DocAt tr tz tl w B vr vz vl vd d) : ∃ Ar cr Az cz Al cl Ad cd, vr = .slice Ar d.rules.length cr ∧ vz = .slice Az d.zones.length cz ∧ vl = .slice Al d.links.length cl ∧ vd = .slice Ad d.diags.length cd := by
  obtain ⟨A1, c1, e1⟩ := h.r.slice
  obtain ⟨zv, hz, ho, -⟩ := h.z
  obtain ⟨A2, c2, e2⟩ := ho.slice
  obtain ⟨A3, c3, e3⟩ := h.l.slice
  obtain ⟨A4, c4, e4⟩ := h.g.slice
  have hl : zv.length = d.zones.length := by rw [← hz, List.length_map]
  rw [hl] at e2
  exact ⟨A1, c1, A2, c2, A3, c3, A4, c4, e1, e2, e3, e4⟩
/-- a zone of a document: its cells, its slices -/
theorem doc_zone {tr tz tl : TypeId} {w : World} {B : Nat} {d : DocL} {vr vl vd : Value} {Az : Option Addr} {nz cz : Nat} (h : DocAt tr tz tl w B vr (.slice Az nz cz) vl vd d) {i : Nat} (hi : i < d.zones.length) : ∃ bz off Ae ce An cn, Az = some ⟨bz, off, none⟩ ∧
    w.cell? ⟨bz, off + i * 3, none⟩ = some (strV d.zones[i].name) ∧ w.cell? ⟨bz, off + i * 3 + 1, none⟩ = some (.slice Ae d.zones[i].eras.length ce) ∧ w.cell? ⟨bz, off + i * 3 + 2, none⟩ = some (.slice An d.zones[i].lines.length cn) ∧
    Rd w 13 Ae d.zones[i].eras.length (d.zones[i].eras.flatMap eraL) ∧ Rd w 1 An d.zones[i].lines.length (d.zones[i].lines.flatMap intL) := by
  obtain ⟨zv, hz, ho, hall⟩ := h.z
  have hl : zv.length = d.zones.length := by rw [← hz, List.length_map]
  have hiz : i < zv.length := by omega
  have e : d.zones[i] = zv[i].1 := by simp only [← hz, List.getElem_map]
  obtain ⟨A, c, e1, -, -, hrd⟩ := ho.rd
  injection e1 with e1
  subst e1
  obtain ⟨bz, off, rfl, hc⟩ := rows_at zoneL_len hrd (List.getElem?_eq_getElem hiz)
  have hza := hall zv[i] (List.getElem_mem hiz)
  obtain ⟨Ae, ce, he, -, -, hre⟩ := hza.e.rd
  obtain ⟨An, cn, hn, -, -, hrn⟩ := hza.l.rd
  have k0 := hc 0 (by omega)
  have k1 := hc 1 (by omega)
  have k2 := hc 2 (by omega)
  simp only [zoneL, List.getElem?_cons_zero, List.getElem?_cons_succ, he, hn] at k0 k1 k2
  rw [Nat.add_zero] at k0
  rw [e]
  exact ⟨bz, off, Ae, ce, An, cn, rfl, k0, k1, k2, hre, hrn⟩
theorem int_cell {w : World} {A : Option Addr} {l : List Int} (h : Rd w 1 A l.length (l.flatMap intL)) {k : Nat} (hk : k < l.length) : ∃ b off, A = some ⟨b, off, none⟩ ∧ w.cell? ⟨b, off + k, none⟩ = some (intV l[k]) := by
  obtain ⟨b, off, e, hc⟩ := rows_at intL_len h (List.getElem?_eq_getElem hk)
  have := hc 0 (by omega)
  rw [Nat.mul_one, Nat.add_zero] at this
  exact ⟨b, off, e, this⟩
theorem light_len {l : List LineL} (h : lightD l = true) : l.length ≤ 60 := by
  unfold lightD at h
  simp at h
  exact h.1
def TrueR (w : World) (e : Ending) (w' : World) : Prop := e = .returned (.bool true) ∧ Fr w w' (fun _ => False)
end Go.Proofs.YtlfjknndkjgciaaGreatDoor
namespace Go.Mem
open Go.RowKit
section
variable {P : Program} {ops : Array Oper} {rest : List Oper} {o : Oper} {a : Act} {w : World} {Q : Exit → Act → World → Prop}
/-- two structs are told apart: in a region that draws its order, and in a plain one -/
theorem yields_neq {S : World → Prop} {t : TypeId} {x y : Operand} {z : TypeId} {cs ds : Array Value} {b : Bool} (hgd : Region.wanted o (yielded ops a.tmps) = true) (ho : o.op = .binOp .neq t x y z) (hx : a.eval x = .agg cs) (hy : a.eval y = .agg ds)
    (hg : ∀ w, (eqGuard .neq t x y (.agg cs) (.agg ds)).run P w = .ok () w) (h : ∀ w, (binOp .neq t (.agg cs) (.agg ds)).run P w = .ok (.bool b) w) : YieldsIf P ops S o (.bool b) a :=
  .inl ⟨hgd, fun w _ => by
    unfold execOp
    simp only [ho, hx, hy, Sem.run_bind, hg, h, Result.andThen_ok, Sem.run_pure]⟩
end
end Go.Mem
namespace Go.Proofs.YtlfjknndkjgciaaGreatDoor
open Go.RowKit Go.Mem Go.Lin Go.Dcm
theorem guard_era (x y : Operand) (cs ds : Array Value) : ∀ w, (eqGuard .neq 55 x y (.agg cs) (.agg ds)).run Tryz.prog w = .ok () w := fun _ => by kernel_rfl
theorem same_era (r : EraL) : ∀ w, (binOp .neq 55 (.agg (eraC r)) (.agg (eraC r))).run Tryz.prog w = .ok (.bool false) w := fun w => by rw [neq_era]; simp
end Go.Proofs.YtlfjknndkjgciaaGreatDoor
