import Derived.Test.YtgcheollgnhdlaaGreatDoorRln
import Derived.Defers
import Derived.Recover
namespace Go.Proofs.YtgcheollgnhdlaaGreatDoor
open Go.RowKit Go.Mem Go.Lin

set_option maxRecDepth 100000 in
set_option maxHeartbeats 1600000 in
theorem catch_panicking (q : Nat) (x y : LineL) (w : World) (hb : Blk w q 34 (lineC y)) :
    CallsD Tryz.prog 25 #[.pointer (some ⟨q, 0, none⟩)] (.panicking [{ v := .iface 34 (.agg (lineC x)), recovered := false }]) w fun e u' w' =>
      e = .returned (.tuple #[]) ∧ u' = .panicking [{ v := .iface 34 (.agg (lineC x)), recovered := true }] ∧ w' = w.setCells q 0 (lineC x).toList := by
  have ht : w.there q 0 (lineC x).size := fun j hj => ⟨by rw [cell_at hb, Array.getElem?_eq_getElem (by show 0 + j < 29; have : j < 29 := hj; omega)]; rfl, free_at hb _⟩
  have hsc : (storeCells ⟨q, 0, none⟩ (lineC x).toList 0).run Tryz.prog w = .ok () (w.setCells q (0 + 0) (lineC x).toList) := run_storeCells_cells (P := Tryz.prog) q 0 (lineC x).toList 0 w (fun j hj => (ht j hj).1) (fun j hj => (ht j hj).2) (fun v hv => by
    have h1 := lineC_one x
    rw [Array.all_eq_true'] at h1
    exact h1 v (Array.mem_toList_iff.1 hv))
  have hs9 : (lineC x).size = 29 := rfl
  have hta : ∀ w : World, (Instr.typeAssert (.iface 34 (.agg (lineC x))) 20 34 false).run Tryz.prog w = .ok (.agg (lineC x)) w := fun w => by kernel_rfl
  have hne : ∀ w : World, (binOp .neq 20 (.iface 34 (.agg (lineC x))) .nilIface).run Tryz.prog w = .ok (.bool true) w := fun w => by kernel_rfl
  generalize lineC x = xs at *
  rw [Nat.add_zero] at hsc
  refine callsD_of_wpS Tryz.func25 rfl fun c₀ cs hu => ?_
  apply wpS_seq
  apply wpS_region
  simp [wpOpsS, go_sem, recoverD, hu, Tryz.ntmps25, Exit.thenS]
  apply wpS_seq
  apply wpS_region
  simp [wpOpsS, go_sem, Exit.thenS, Act.eval, Array.replicate, hne]
  refine wpS_cond (t := true) (by simp [Act.eval]) ?_
  simp only [if_true]
  apply wpS_region
  simp [wpOpsS, go_sem, Act.eval, hta, hsc, hs9, bodyPostS, results, Tryz.results25]
theorem catch_idle (q : Nat) (w : World) :
    CallsD Tryz.prog 25 #[.pointer (some ⟨q, 0, none⟩)] .returning w fun e u' w' => e = .returned (.tuple #[]) ∧ u' = .returning ∧ w' = w := by
  have hne : ∀ w : World, (binOp .neq 20 .nilIface .nilIface).run Tryz.prog w = .ok (.bool false) w := fun w => by kernel_rfl
  refine callsD_of_wpS Tryz.func25 rfl fun c₀ cs hu => ?_
  apply wpS_seq
  apply wpS_region
  simp [wpOpsS, go_sem, recoverD, hu, Tryz.ntmps25, Exit.thenS]
  apply wpS_seq
  apply wpS_region
  simp [wpOpsS, go_sem, Exit.thenS, Act.eval, Array.replicate, hne]
  refine wpS_cond (t := false) (by simp [Act.eval]) ?_
  simp only [Bool.false_eq_true, if_false]
  refine wpS_of_wp (wp_skip ?_)
  cases c₀
  simp_all [bodyPostS, results, Tryz.results25]
theorem res_read {w : World} {q : Nat} {v : LineL} (hb : Blk w q 34 (lineC v)) (tmps : Array Value) (hp : tmps.getD 2 undef = .pointer (some ⟨q, 0, none⟩)) : (results Tryz.f17 tmps).run Tryz.prog w = .ok (.agg (lineC v)) w :=
  results_cell_row (P := Tryz.prog) (fn := Tryz.f17) (p := 2) (ty := 34) rfl tmps _ q 34 (lineC v) (0, 0) _ hp hb Tryz.underlying34 rfl (infoL v)
set_option maxRecDepth 100000 in
set_option maxHeartbeats 3200000 in
theorem read_any (fs : List FPair) (hz : ∀ x ∈ fs, x.1.length ≤ 100000) (hne : fs ≠ []) (A : Option Addr) (c : Nat) (w : World) (hw : LOk w) (hfd : S7.FdAt w A fs) (hc : fs.length ≤ c) :
    Calls Tryz.prog 17 #[.slice A fs.length c] w fun e w' => e = .returned (.agg (lineC (outL fs (readP fs) id))) ∧ Fr w w' (fun _ => False) := by
  have hpos : 0 < fs.length := by
    cases fs with
    | nil => exact absurd rfl hne
    | cons x r => simp
  obtain ⟨g, off, x, rfl, -, hcell, -⟩ := hfd.at_ hpos
  have hgs : g < w.heap.size := World.block_lt_of_cell? w _ hcell
  have hrd : Rd w 2 (some ⟨g, off, none⟩) fs.length (fs.flatMap cellsP) := hfd
  have hf1 := Fr.new w (.cells (lineC lineZ) 34) (fun _ => False)
  have hf2 := Fr.new (w.alloc (.cells (lineC lineZ) 34)) (.cells #[.slice (some ⟨g, off, none⟩) fs.length c] 65) (fun _ => False)
  have hsz : (w.alloc (.cells (lineC lineZ) 34)).heap.size = w.heap.size + 1 := by simp
  have hb2 := Blk.made (w.alloc (.cells (lineC lineZ) 34)) 65 #[.slice (some ⟨g, off, none⟩) fs.length c]
  rw [hsz] at hb2
  have HZ := Lib.hid (hf2.blk (Blk.made w 34 (lineC lineZ)) (fun h => h))
  have hL : LeftAt ((w.alloc (.cells (lineC lineZ) 34)).alloc (.cells #[.slice (some ⟨g, off, none⟩) fs.length c] 65)) (w.heap.size + 1) g fs :=
    ⟨_, c, hb2, hrd.fr (ff hf1 hf2) (fun _ _ _ _ h => h), hc, fun b' o' e _ => by injection e with e; injection e with e1; exact e1.symm⟩
  have hO : Ok w ((w.alloc (.cells (lineC lineZ) 34)).alloc (.cells #[.slice (some ⟨g, off, none⟩) fs.length c] 65)) (w.heap.size + 1) g := ⟨hw, ff hf1 hf2, by omega, by omega⟩
  have HL := Lib.hid (rline_any fs hz hne w _ (w.heap.size + 1) g hO hL)
  have HF := Lib.hid (ff hf1 hf2)
  obtain ⟨S, hS⟩ : ∃ S, readP fs = S := ⟨_, rfl⟩
  rw [hS] at HL ⊢
  clear hS hf1 hf2 hsz hb2 hL hO hrd hfd hw hcell hz
  cases S with
  | error x =>
    go_enter_defers Tryz.func17, Tryz.ntmps17
    go_wp2_with fail
    refine HL.out.mono ?_
    rintro e w2 ⟨rfl, hf2⟩
    have hb2 := hf2.blk HZ.out (by omega)
    have HB2 := Lib.hid hb2
    have HF2 := Lib.hid (HF.out.fresh hf2 (fun i e => by omega))
    clear hf2 hb2
    go_wp2_with fail
    refine leaves_cons (f := 25) (args := #[.pointer (some ⟨w.heap.size, 0, none⟩)]) (by simp) (by simp [go_sem]) ?_
    refine (catch_panicking w.heap.size _ _ _ HB2.out).mono ?_
    rintro e u' w3 ⟨rfl, rfl, rfl⟩
    have hm := Blk.many (lineC (wrongL x.2 (colOf fs x.1))).toList 0 _ _ HB2.out
    rw [put_line] at hm
    exact ⟨_, res_read hm _ rfl, rfl, HF2.out.fresh (Fr.many _ _ _) (fun i e => by omega)⟩
  | ok l =>
    go_enter_defers Tryz.func17, Tryz.ntmps17
    go_wp2_with fail
    refine HL.out.mono ?_
    rintro e w2 ⟨rfl, hf2⟩
    have hb2 := hf2.blk HZ.out (by omega)
    have HB2 := Lib.hid hb2
    have HF2 := Lib.hid (HF.out.fresh hf2 (fun i e => by omega))
    clear hf2 hb2
    go_wp2_with (
      refine wpList_store_blk 34 _ _ w.heap.size 0 34 (lineC lineZ) (lineC l) (lineC l) (by rfl) rfl rfl rfl rfl HB2.out (infoL _) (lineC_one _) (show 0 + 29 ≤ 29 by decide) (put_line _ _) ?_
      intro w9 hf9 hb9
      have HE := Lib.hid hb9
      have HFe := Lib.hid (HF2.out.fresh hf9 (fun i e => by omega))
      clear hf9 hb9)
    refine leaves_cons (f := 25) (args := #[.pointer (some ⟨w.heap.size, 0, none⟩)]) (by simp) (by simp [go_sem]) ?_
    refine (catch_idle w.heap.size _).mono ?_
    rintro e u' w3 ⟨rfl, rfl, rfl⟩
    exact ⟨_, res_read HE.out _ rfl, rfl, HFe.out⟩
end Go.Proofs.YtgcheollgnhdlaaGreatDoor
