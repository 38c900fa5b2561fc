import Derived.Test.YtgcheollgnhdlaaGreatDoorLnv
import Derived.Test.YtgcheollgnhdlaaGreatDoorArm
namespace Go.Proofs.YtgcheollgnhdlaaGreatDoor
open Go.RowKit Go.Mem Go.Lin

theorem lineC_one (l : LineL) : (lineC l).all (·.oneCell') = true := by simp [lineC, Value.oneCell']
theorem infoL (l : LineL) : (Tryz.prog.info? 34).map (·.size) = some (lineC l).size := show _ = some 29 by kernel_rfl
/- a line's parts in its cells -/
theorem below_11 {P : Nat → Prop} (h : P 0 ∧ P 1 ∧ P 2 ∧ P 3 ∧ P 4 ∧ P 5 ∧ P 6 ∧ P 7 ∧ P 8 ∧ P 9 ∧ P 10) : ∀ j, j < 11 → P j := by
  obtain ⟨h0, h1, h2, h3, h4, h5, h6, h7, h8, h9, h10⟩ := h
  intro j hj
  match j, hj with
  | 0, _ => exact h0
  | 1, _ => exact h1
  | 2, _ => exact h2
  | 3, _ => exact h3
  | 4, _ => exact h4
  | 5, _ => exact h5
  | 6, _ => exact h6
  | 7, _ => exact h7
  | 8, _ => exact h8
  | 9, _ => exact h9
  | 10, _ => exact h10
theorem below_13 {P : Nat → Prop} (h : ∀ j, j < 11 → P j) (h11 : P 11) (h12 : P 12) : ∀ j, j < 13 → P j := by
  intro j hj
  by_cases h1 : j < 11
  · exact h j h1
  · by_cases h2 : j = 11
    · rw [h2]; exact h11
    · rw [show j = 12 by omega]; exact h12
theorem part_rule (l : LineL) : ∀ j, j < (ruleC l.rule).size → (lineC l)[1 + j]? = (ruleC l.rule)[j]? := below_11 (P := fun j => (lineC l)[1 + j]? = (ruleC l.rule)[j]?) ⟨rfl, rfl, rfl, rfl, rfl, rfl, rfl, rfl, rfl, rfl, rfl⟩
theorem part_era (l : LineL) : ∀ j, j < (eraC l.era).size → (lineC l)[14 + j]? = (eraC l.era)[j]? := below_13 (P := fun j => (lineC l)[14 + j]? = (eraC l.era)[j]?) (below_11 ⟨rfl, rfl, rfl, rfl, rfl, rfl, rfl, rfl, rfl, rfl, rfl⟩) rfl rfl
theorem part_line (l : LineL) : ∀ j, j < (lineC l).size → (lineC l)[0 + j]? = (lineC l)[j]? := fun j _ => by rw [Nat.zero_add]
theorem ruleC_one (r : RuleL) : (ruleC r).all (·.oneCell') = true := by simp [ruleC, Value.oneCell']
theorem eraC_one (e : EraL) : (eraC e).all (·.oneCell') = true := by simp [eraC, Value.oneCell']
theorem infoR (r : RuleL) : (Tryz.prog.info? 27).map (·.size) = some (ruleC r).size := show _ = some 11 by kernel_rfl
theorem infoE (e : EraL) : (Tryz.prog.info? 31).map (·.size) = some (eraC e).size := show _ = some 13 by kernel_rfl
theorem info_str : (Tryz.prog.info? 9).map (·.size) = some 1 := by kernel_rfl
theorem info_int : (Tryz.prog.info? 3).map (·.size) = some 1 := by kernel_rfl
theorem info_kind : (Tryz.prog.info? 32).map (·.size) = some 1 := by kernel_rfl
theorem many_list : ∀ (vs : List Value) (o : Nat) (cs : Array Value), o + vs.length ≤ cs.size → (setMany cs o vs).toList = cs.toList.take o ++ (vs ++ cs.toList.drop (o + vs.length))
  | [], o, cs, _ => by simp [setMany]
  | v :: vs, o, cs, h => by
    have h : o + (vs.length + 1) ≤ cs.size := h
    rw [setMany, many_list vs (o + 1) _ (by simp; omega)]
    simp only [Array.toList_setIfInBounds, List.length_cons]
    have e1 : (cs.toList.set o v).take (o + 1) = cs.toList.take o ++ [v] := by
      rw [List.take_set, List.take_succ_eq_append_getElem (by simp; omega), List.set_append_right _ _ (by simp; omega)]
      simp
      rw [Nat.min_eq_left (by omega)]
      simp
    have e2 : (cs.toList.set o v).drop (o + 1 + vs.length) = cs.toList.drop (o + (vs.length + 1)) := by
      rw [List.drop_set_of_lt (by omega)]
      congr 1
      omega
    rw [e1, e2, List.append_assoc]
    rfl
theorem many_eq {vs : List Value} {o : Nat} {cs new : Array Value} (h : o + vs.length ≤ cs.size) (hn : cs.toList.take o ++ (vs ++ cs.toList.drop (o + vs.length)) = new.toList) : setMany cs o vs = new :=
  Array.toList_inj.1 ((many_list vs o cs h).trans hn)
theorem put_line (l m : LineL) : setMany (lineC l) 0 (lineC m).toList = lineC m := many_eq (Nat.le_refl 29) rfl
theorem put_rule (l : LineL) (r : RuleL) : setMany (lineC l) 1 (ruleC r).toList = lineC { l with rule := r } := many_eq (show 1 + 11 ≤ 29 by decide) rfl
theorem put_era (l : LineL) (e : EraL) : setMany (lineC l) 14 (eraC e).toList = lineC { l with era := e } := many_eq (show 14 + 13 ≤ 29 by decide) rfl
/-- a row stays where another one is turned -/
theorem blk_far {w W : World} {g g' : Nat} {t : TypeId} {cs : Array Value} (h : Blk w g t cs) (hf : Fr w W (fun i => i = g')) (hne : g ≠ g') : Blk W g t cs := hf.blk h hne
theorem blk_new {w : World} {g : Nat} {t t' : TypeId} {cs cs' : Array Value} (h : Blk w g t cs) : Blk (w.alloc (.cells cs' t')) g t cs := (Fr.new w _ (fun _ => False)).blk h (fun h => h)
theorem fr_fresh {w a b : World} {g : Nat} (h : Fr w a (fun _ => False)) (hf : Fr a b (fun i => i = g)) (hg : w.heap.size ≤ g) : Fr w b (fun _ => False) := h.fresh hf (fun i e => by omega)
/- a rule's, an until's, an era's parts in their cells -/
def dayC (d : DayL) : Array Value := #[intV d.k, intV d.d, intV d.w]
def atC (t : AtL) : Array Value := #[intV t.s, intV t.k]
theorem tilC_one (u : UntilL) : (tilC u).all (·.oneCell') = true := by simp [tilC, Value.oneCell']
theorem dayC_one (d : DayL) : (dayC d).all (·.oneCell') = true := by simp [dayC, Value.oneCell']
theorem atC_one (t : AtL) : (atC t).all (·.oneCell') = true := by simp [atC, Value.oneCell']
theorem infoT (u : UntilL) : (Tryz.prog.info? 29).map (·.size) = some (tilC u).size := show _ = some 8 by kernel_rfl
theorem infoD (d : DayL) : (Tryz.prog.info? 23).map (·.size) = some (dayC d).size := show _ = some 3 by kernel_rfl
theorem infoA (t : AtL) : (Tryz.prog.info? 25).map (·.size) = some (atC t).size := show _ = some 2 by kernel_rfl
theorem info_fields : (Tryz.prog.info? 41).map (·.size) = some 1 := by kernel_rfl
theorem info_bool : (Tryz.prog.info? 4).map (·.size) = some 1 := by kernel_rfl
theorem zero_part (cs : Array Value) : ∀ j, j < cs.size → cs[0 + j]? = cs[j]? := fun j _ => by rw [Nat.zero_add]
theorem put_all {cs ds : Array Value} (h : cs.size = ds.size) : setMany cs 0 ds.toList = ds := many_eq (by simp [h]) (by simp [h])
theorem put_ra (r s : RuleL) : setMany (ruleC r) 0 (ruleC s).toList = ruleC s := put_all rfl
theorem put_ea (r s : EraL) : setMany (eraC r) 0 (eraC s).toList = eraC s := put_all rfl
theorem put_ua (r s : UntilL) : setMany (tilC r) 0 (tilC s).toList = tilC s := put_all rfl
theorem put_r0 (r : RuleL) (v : Bs) : (ruleC r).setIfInBounds 0 (strV v) = ruleC { r with name := v } := rfl
theorem put_r1 (r : RuleL) (v : Int) : (ruleC r).setIfInBounds 1 (intV v) = ruleC { r with fr := v } := rfl
theorem put_r2 (r : RuleL) (v : Int) : (ruleC r).setIfInBounds 2 (intV v) = ruleC { r with to := v } := rfl
theorem put_r3 (r : RuleL) (v : Int) : (ruleC r).setIfInBounds 3 (intV v) = ruleC { r with month := v } := rfl
theorem put_r4 (r : RuleL) (v : DayL) : setMany (ruleC r) 4 (dayC v).toList = ruleC { r with on := v } := many_eq (show 4 + 3 ≤ 11 by decide) rfl
theorem put_r7 (r : RuleL) (v : AtL) : setMany (ruleC r) 7 (atC v).toList = ruleC { r with at_ := v } := many_eq (show 7 + 2 ≤ 11 by decide) rfl
theorem put_r9 (r : RuleL) (v : Int) : (ruleC r).setIfInBounds 9 (intV v) = ruleC { r with save := v } := rfl
theorem put_r10 (r : RuleL) (v : Bs) : (ruleC r).setIfInBounds 10 (strV v) = ruleC { r with letter := v } := rfl
theorem put_e0 (e : EraL) (v : Int) : (eraC e).setIfInBounds 0 (intV v) = eraC { e with off := v } := rfl
theorem put_e4 (e : EraL) (v : Bs) : (eraC e).setIfInBounds 4 (strV v) = eraC { e with format := v } := rfl
theorem put_e5 (e : EraL) (v : UntilL) : setMany (eraC e) 5 (tilC v).toList = eraC { e with til := v } := many_eq (show 5 + 8 ≤ 13 by decide) rfl
theorem put_u1 (u : UntilL) (v : Int) : (tilC u).setIfInBounds 1 (intV v) = tilC { u with year := v } := rfl
theorem put_u2 (u : UntilL) (v : Int) : (tilC u).setIfInBounds 2 (intV v) = tilC { u with month := v } := rfl
theorem put_u3 (u : UntilL) (v : DayL) : setMany (tilC u) 3 (dayC v).toList = tilC { u with on := v } := many_eq (show 3 + 3 ≤ 8 by decide) rfl
theorem put_u6 (u : UntilL) (v : AtL) : setMany (tilC u) 6 (atC v).toList = tilC { u with at_ := v } := many_eq (show 6 + 2 ≤ 8 by decide) rfl
theorem put_l2 (l : LineL) (v : Bs) : (lineC l).setIfInBounds 12 (strV v) = lineC { l with name := v } := rfl
theorem put_l3 (l : LineL) (v : Bs) : (lineC l).setIfInBounds 13 (strV v) = lineC { l with target := v } := rfl
theorem part_e5 (e : EraL) : ∀ j, j < (tilC e.til).size → (eraC e)[5 + j]? = (tilC e.til)[j]? := by
  have h : ∀ (P : Nat → Prop), P 0 → P 1 → P 2 → P 3 → P 4 → P 5 → P 6 → P 7 → ∀ j, j < 8 → P j := by
    intro P h0 h1 h2 h3 h4 h5 h6 h7 j hj
    match j, hj with
    | 0, _ => exact h0
    | 1, _ => exact h1
    | 2, _ => exact h2
    | 3, _ => exact h3
    | 4, _ => exact h4
    | 5, _ => exact h5
    | 6, _ => exact h6
    | 7, _ => exact h7
  exact h (fun j => (eraC e)[5 + j]? = (tilC e.til)[j]?) rfl rfl rfl rfl rfl rfl rfl rfl
theorem below_3 {P : Nat → Prop} (h0 : P 0) (h1 : P 1) (h2 : P 2) : ∀ j, j < 3 → P j := by
  intro j hj
  match j, hj with
  | 0, _ => exact h0
  | 1, _ => exact h1
  | 2, _ => exact h2
theorem below_2 {P : Nat → Prop} (h0 : P 0) (h1 : P 1) : ∀ j, j < 2 → P j := by
  intro j hj
  match j, hj with
  | 0, _ => exact h0
  | 1, _ => exact h1
theorem part_r4 (r : RuleL) : ∀ j, j < (dayC r.on).size → (ruleC r)[4 + j]? = (dayC r.on)[j]? := below_3 (P := fun j => (ruleC r)[4 + j]? = (dayC r.on)[j]?) rfl rfl rfl
theorem part_r7 (r : RuleL) : ∀ j, j < (atC r.at_).size → (ruleC r)[7 + j]? = (atC r.at_)[j]? := below_2 (P := fun j => (ruleC r)[7 + j]? = (atC r.at_)[j]?) rfl rfl
theorem part_u3 (u : UntilL) : ∀ j, j < (dayC u.on).size → (tilC u)[3 + j]? = (dayC u.on)[j]? := below_3 (P := fun j => (tilC u)[3 + j]? = (dayC u.on)[j]?) rfl rfl rfl
theorem part_u6 (u : UntilL) : ∀ j, j < (atC u.at_).size → (tilC u)[6 + j]? = (atC u.at_)[j]? := below_2 (P := fun j => (tilC u)[6 + j]? = (atC u.at_)[j]?) rfl rfl
end Go.Proofs.YtgcheollgnhdlaaGreatDoor
