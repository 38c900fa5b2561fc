import Derived.Test.YtgcheollgnhdlaaGreatDoorLli
import Derived.Deep.RegionHeld3
namespace Go.Proofs.YtgcheollgnhdlaaGreatDoor
open Go.RowKit Go.Mem Go.Lin

/-- a line lies in block g -/
def LinAt (w : World) (g : Nat) (l : LineL) : Prop := Blk w g 34 (lineC l)
theorem kl1 {w a b : World} {g : Nat} {l : LineL} (h : Fr w a (fun _ => False) ∧ LinAt a g l) (hf : Fr a b (fun _ => False)) : Fr w b (fun _ => False) ∧ LinAt b g l := ⟨ff h.1 hf, hf.blk h.2 (fun h => h)⟩
theorem lin_at {w w' : World} {l : LineL} (h : Fr (w.alloc (.cells (lineC l) 34)) w' (fun _ => False)) : LinAt w' w.heap.size l := h.blk (Blk.made w 34 (lineC l)) (fun h => h)
theorem load_lin (l : LineL) (g : Nat) (W : World) (h : LinAt W g l) : (Instr.loadAt 34 (.pointer (some ⟨g, 0, none⟩))).run Tryz.prog W = .ok (.agg (lineC l)) W := by
  simp only [Instr.loadAt, Instr.sureAddr, Sem.run_bind, Sem.run_pure, Result.andThen_ok]
  exact run_loadVar_row W g 34 34 (lineC l) (0, 0) _ h Tryz.underlying34 rfl (infoL l)
theorem yields_lin {ops : Array Oper} {S : World → Prop} {op : Oper} {a : Act} (x : Operand) (l : LineL) (g : Nat) (hw : Region.wanted op (yielded ops a.tmps) = true) (ho : op.op = .load 34 x) (hx : a.eval x = .pointer (some ⟨g, 0, none⟩)) (hS : ∀ w, S w → LinAt w g l) : YieldsIf Tryz.prog ops S op (.agg (lineC l)) a :=
  .inl ⟨hw, fun w hw' => by
    unfold execOp
    simp only [ho, hx, Instr.loadAt, Instr.sureAddr, Sem.run_bind, Sem.run_pure, Result.andThen_ok, run_loadVar_row w g 34 34 (lineC l) (0, 0) _ (hS w hw') Tryz.underlying34 rfl (infoL l)]⟩
theorem wpList_load_lin {ops : Array Oper} {rest : List Oper} {o : Oper} {a : Act} {w : World} {Q : Exit → Act → World → Prop} (x : Operand) (l : LineL) (g : Nat) (hgd : Region.wanted o (yielded ops a.tmps) = true) (ho : o.op = .load 34 x) (hx : a.eval x = .pointer (some ⟨g, 0, none⟩)) (hg : LinAt w g l)
    (h : wpList Tryz.prog ops Q rest (a.put o.dst (.agg (lineC l))) w) : wpList Tryz.prog ops Q (o :: rest) a w :=
  wpList_step fun _ hK => by
    rw [if_pos hgd]
    exact wp_load_row 34 x ho g hx 34 (lineC l) (0, 0) _ hg Tryz.underlying34 rfl (infoL l) (hK _ _ h)
theorem lblk_at {w w' : World} {l : LineL} (h : Fr (w.alloc (.cells (lineC l) 34)) w' (fun _ => False)) : w'.heap[w.heap.size]? = some (.cells (lineC l) 34 (0, 0)) := h.blk (Blk.made w 34 (lineC l)) (fun h => h)
set_option maxHeartbeats 1600000 in
theorem back_light (hP : ParseC) (hS : ShowC) (l : LineL) (w : World) (hw : LOk w) (hl : lightB l = false) : Calls Tryz.prog 3 #[lineV l] w fun e w' => e = .returned (.bool true) ∧ Fr w w' (fun _ => False) := by
  have HL := Lib.hid (fun W => light_any l W _ hl)
  have HA := Lib.hid (fun W (f : Fr w W (fun _ => False)) => alive_any hP hS W (hw.fr f))
  clear hP hS hw hl
  go_enter Tryz.func3, Tryz.ntmps3
  go_wp2_with (refine wpList_load_row rfl 34 _ rfl w.heap.size rfl 34 (lineC l) (0, 0) _ (heap_alloc_last w _) Tryz.underlying34 rfl (infoL l) ?_)
  refine (HL.out _).mono ?_
  rintro e w2 ⟨rfl, hf2⟩
  have HF2 := Lib.hid (ff (Fr.new w _ _) hf2)
  clear hf2
  go_wp2_with fail
  refine (HA.out _ HF2.out).mono ?_
  rintro e w3 ⟨rfl, hf3⟩
  have HF3 := Lib.hid (ff HF2.out hf3)
  clear hf3
  go_wp2_with fail
  go_ret
  exact ⟨rfl, HF3.out⟩
set_option maxRecDepth 100000 in
set_option maxHeartbeats 1600000 in
theorem back_wrong (hP : ParseC) (hS : ShowC) (hR : RightC) (l : LineL) (w : World) (hw : LOk w) (hl : lightB l = true) (hi : inR l.rule.fr ∧ inR l.era.til.year) (hn : ¬ lineOk l) : Calls Tryz.prog 3 #[lineV l] w fun e w' => e = .returned (.bool true) ∧ Fr w w' (fun _ => False) := by
  have HL := Lib.hid (fun W => light_any l W _ hl)
  have HA := Lib.hid (fun W (f : Fr w W (fun _ => False)) => alive_any hP hS W (hw.fr f))
  have HS := Lib.hid (fun W (f : Fr w W (fun _ => False)) => hS l _ _ W (hw.fr f) ⟨hl, hi.1, hi.2⟩ (show_wrong hn))
  have HR := Lib.hid (fun W (f : Fr w W (fun _ => False)) => hR l _ W (hw.fr f) ⟨hl, hi.1, hi.2⟩ (right_no hn))
  clear hP hS hR hw hl hn hi
  go_enter Tryz.func3, Tryz.ntmps3
  go_wp2_with (refine wpList_load_row rfl 34 _ rfl w.heap.size rfl 34 (lineC l) (0, 0) _ (heap_alloc_last w _) Tryz.underlying34 rfl (infoL l) ?_)
  refine (HL.out _).mono ?_
  rintro e w2 ⟨rfl, hf2⟩
  have HF2 := Lib.hid (ff (Fr.new w _ _) hf2)
  have HB2 := Lib.hid hf2
  clear hf2
  go_wp2_with (refine wpList_load_row rfl 34 _ rfl w.heap.size rfl 34 (lineC l) (0, 0) _ (lin_at HB2.out) Tryz.underlying34 rfl (infoL l) ?_)
  refine (HS.out _ HF2.out).mono ?_
  rintro e w3 ⟨rfl, hf3⟩
  have HF3 := Lib.hid (ff HF2.out hf3)
  have HB3 := Lib.hid (ff HB2.out hf3)
  clear hf3
  go_wp2_with (refine wpList_load_lin _ l w.heap.size (by rfl) rfl rfl (lin_at HB3.out) ?_)
  refine (HR.out _ HF3.out).mono ?_
  rintro e w4 ⟨rfl, hf4⟩
  have HF4 := Lib.hid (ff HF3.out hf4)
  clear hf4
  go_wp2_with fail
  refine (HA.out _ HF4.out).mono ?_
  rintro e w5 ⟨rfl, hf5⟩
  have HF5 := Lib.hid (ff HF4.out hf5)
  clear hf5
  go_wp2_with fail
  go_ret
  exact ⟨rfl, HF5.out⟩
set_option maxRecDepth 100000 in
set_option maxHeartbeats 1600000 in
theorem back_right (hP : ParseC) (hS : ShowC) (l : LineL) (w : World) (hw : LOk w) (hl : lightB l = true) (hn : lineOk l) : Calls Tryz.prog 3 #[lineV l] w fun e w' => e = .returned (.bool true) ∧ Fr w w' (fun _ => False) := by
  have HL := Lib.hid (fun W => light_any l W _ hl)
  have HA := Lib.hid (fun W (f : Fr w W (fun _ => False)) => alive_any hP hS W (hw.fr f))
  have HS := Lib.hid (fun W (f : Fr w W (fun _ => False)) => hS l _ _ W (hw.fr f) (fit_right hn) (show_right hn))
  have HP := Lib.hid (fun W (f : Fr w W (fun _ => False)) => hP (Go.Lxr.joinL (lineT l)) _ W (hw.fr f) (by have := line_len hn; omega) (parse_back hn))
  have E1 := fun w => eql_line l l w
  rw [decide_eq_true (show l = l from rfl)] at E1
  generalize Go.Lxr.joinL (lineT l) = s at HS HP
  clear hP hS hw hl hn
  go_enter Tryz.func3, Tryz.ntmps3
  go_wp2_with (refine wpList_load_row rfl 34 _ rfl w.heap.size rfl 34 (lineC l) (0, 0) _ (heap_alloc_last w _) Tryz.underlying34 rfl (infoL l) ?_)
  refine (HL.out _).mono ?_
  rintro e w2 ⟨rfl, hf2⟩
  have HF2 := Lib.hid (ff (Fr.new w _ _) hf2)
  have HB2 := Lib.hid hf2
  clear hf2
  go_wp2_with (refine wpList_load_row rfl 34 _ rfl w.heap.size rfl 34 (lineC l) (0, 0) _ (lin_at HB2.out) Tryz.underlying34 rfl (infoL l) ?_)
  refine (HS.out _ HF2.out).mono ?_
  rintro e w3 ⟨rfl, hf3⟩
  have BASE := Lib.hid (And.intro (ff HF2.out hf3) (lin_at (ff HB2.out hf3)))
  clear hf3
  go_wp2_with fail
  refine wp_region_held_drew (S := fun w' => Fr w w' (fun _ => False) ∧ LinAt w' w.heap.size l) (by kernel_rfl) (kl1 BASE.out (Fr.drew _ _)) (fun hHeld => ?_)
  refine wpAnyH_take (i := 0) (v := ?_) rfl (by kernel_rfl) (by kernel_rfl) (by kernel_rfl) (fun _ _ _ h => h) (Or.inl ⟨by rfl, ?_⟩) (by assumption) ?_
  rotate_left
  · intro w' hSw
    go_simp
    try with_reducible rfl
  try simp only [Act.put, List.setIfInBounds_toArray, List.set_cons_zero, List.set_cons_succ, List.getElem_toArray, List.getElem_cons_zero]
  refine wpAnyH_take (i := 2) (v := _) rfl (by kernel_rfl) (by kernel_rfl) (by kernel_rfl) (fun _ _ _ h => h) (yields_lin _ l w.heap.size (by rfl) rfl rfl (fun _ h => h.2)) (by assumption) ?_
  try simp only [Act.put, List.setIfInBounds_toArray, List.set_cons_zero, List.set_cons_succ, List.getElem_toArray, List.getElem_cons_succ, List.getElem_cons_zero]
  refine wpAnyH_ready (rs := [1]) (by kernel_rfl) (by simp) ?_
  refine AllReadyH.cons rfl (fun K hK => ?_) AllReadyH.nil
  go_simp
  refine (HP.out _ hHeld.1).mono ?_
  rintro e w6 ⟨rfl, hf6⟩
  refine hK.out _ _ (kl1 hHeld hf6) (fun hHeld2 => ?_)
  clear hK K hHeld hf6
  rename_i hHeld2
  have hHeld := hHeld2
  clear hHeld2
  try simp only [Act.put, List.setIfInBounds_toArray, List.set_cons_zero, List.set_cons_succ, List.getElem_toArray, List.getElem_cons_succ, List.getElem_cons_zero]
  refine wpAnyH_take (i := 3) (v := ?_) rfl (by kernel_rfl) (by kernel_rfl) (by kernel_rfl) (fun _ _ _ h => h) (Or.inl ⟨by rfl, ?_⟩) (by assumption) ?_
  rotate_left
  · intro w' hSw
    go_simp
    try with_reducible rfl
  try simp only [Act.put, List.setIfInBounds_toArray, List.set_cons_zero, List.set_cons_succ, List.getElem_toArray, List.getElem_cons_succ, List.getElem_cons_zero]
  refine wpAnyH_take (i := 4) (v := ?_) rfl (by kernel_rfl) (by kernel_rfl) (by kernel_rfl) (fun _ _ _ h => h) (Or.inl ⟨by rfl, ?_⟩) (by assumption) ?_
  rotate_left
  · intro w' hSw
    go_simp
    try with_reducible rfl
  try simp only [Act.put, List.setIfInBounds_toArray, List.set_cons_zero, List.set_cons_succ, List.getElem_toArray, List.getElem_cons_succ, List.getElem_cons_zero]
  refine wpAnyH_ready (rs := [5]) (by kernel_rfl) (by simp) ?_
  refine AllReadyH.cons rfl (fun K hK => ?_) AllReadyH.nil
  go_simp
  refine (HA.out _ hHeld.1).mono ?_
  rintro e w7 ⟨rfl, hf7⟩
  refine hK.out _ _ (kl1 hHeld hf7) (fun hHeld2 => ?_)
  clear hK K hHeld hf7
  rename_i hHeld2
  have hHeld := hHeld2
  clear hHeld2
  try simp only [Act.put, List.setIfInBounds_toArray, List.set_cons_zero, List.set_cons_succ, List.getElem_toArray, List.getElem_cons_succ, List.getElem_cons_zero]
  refine wpAnyH_take (i := 6) (v := ?_) rfl (by kernel_rfl) (by kernel_rfl) (by kernel_rfl) (fun _ _ _ h => h) (Or.inl ⟨by rfl, ?_⟩) (by assumption) ?_
  rotate_left
  · intro w' hSw
    go_simp
    try with_reducible rfl
  try simp only [Act.put, List.setIfInBounds_toArray, List.set_cons_zero, List.set_cons_succ, List.getElem_toArray, List.getElem_cons_succ, List.getElem_cons_zero]
  refine wpAnyH_take (i := 7) (v := ?_) rfl (by kernel_rfl) (by kernel_rfl) (by kernel_rfl) (fun _ _ _ h => h) (Or.inl ⟨by rfl, ?_⟩) (by assumption) ?_
  rotate_left
  · intro w' hSw
    go_simp
    try with_reducible rfl
  try simp only [Act.put, List.setIfInBounds_toArray, List.set_cons_zero, List.set_cons_succ, List.getElem_toArray, List.getElem_cons_succ, List.getElem_cons_zero]
  refine wpAnyH_done (by kernel_rfl) ?_ _
  have HF := Lib.hid hHeld.1
  clear hHeld
  go_wp2_with fail
  go_ret
  exact ⟨rfl, HF.out⟩
theorem back_walk (hP : ParseC) (hS : ShowC) (hR : RightC) (l : LineL) (hi : inR l.rule.fr ∧ inR l.era.til.year) (w : World) (hw : LOk w) : Calls Tryz.prog 3 #[lineV l] w fun e w' => e = .returned (.bool true) ∧ Fr w w' (fun _ => False) := by
  cases hl : lightB l with
  | false => exact back_light hP hS l w hw hl
  | true =>
    by_cases ho : lineOk l
    · exact back_right hP hS l w hw hl ho
    · exact back_wrong hP hS hR l w hw hl hi ho
end Go.Proofs.YtgcheollgnhdlaaGreatDoor
