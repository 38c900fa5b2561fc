import Derived.Test.YtgcheollgnhdlaaGreatDoorTel
namespace Go.Proofs.YtgcheollgnhdlaaGreatDoor
open Go.RowKit Go.Mem Go.Lin

def rulesE (r : Int × Int × Bs) : EraL := ⟨0, r.1, r.2.1, r.2.2, [], tilZ⟩
def rulesV (l : Bs) : EraL × Int := match rulesP l with
  | some r => (rulesE r, 0)
  | none => (rulesE (1, 0, []), 5)
theorem results_rules (tmps : Array Value) (w : World) (q : Nat) (x : EraL) (k : Int) (h2 : tmps.getD 2 undef = .pointer (some ⟨q, 0, none⟩)) (h3 : tmps.getD 3 undef = intV k)
    (hb : Blk w q 31 (eraC x)) : (results Tryz.f77 tmps).run Tryz.prog w = .ok (.tuple #[.agg (eraC x), intV k]) w := by
  have h2' : tmps[2]?.getD undef = .pointer (some ⟨q, 0, none⟩) := by simpa using h2
  have h3' : tmps[3]?.getD undef = intV k := by simpa using h3
  have hL := run_loadVar_row w q 31 31 (eraC x) (0, 0) _ hb Tryz.underlying31 rfl (infoE x)
  simp [results, Tryz.results77, h2', h3', asAddr, hL]
set_option maxRecDepth 100000 in
set_option maxHeartbeats 3200000 in
theorem rules_any (l : Bs) (hl : l.length ≤ 100000) (w : World) (v : EraL) (k : Int) (h : rulesV l = (v, k)) : Calls Tryz.prog 77 #[strV l] w fun e w' => e = .returned (.tuple #[.agg (eraC v), intV k]) ∧ Fr w w' (fun _ => False) := by
  have hf0 := Fr.new w (.cells #[intV 0, intV 0, intV 0, .string ⟨#[]⟩, .string ⟨#[]⟩, .bool false, intV 0, intV 0, intV 0, intV 0, intV 0, intV 0, intV 0] 31) (fun _ => False)
  have HF0 := Lib.hid hf0
  have HZ := Lib.hid (show Blk (w.alloc (.cells #[intV 0, intV 0, intV 0, .string ⟨#[]⟩, .string ⟨#[]⟩, .bool false, intV 0, intV 0, intV 0, intV 0, intV 0, intV 0, intV 0] 31)) w.heap.size 31 (eraC eraZ) from Blk.made w 31 #[intV 0, intV 0, intV 0, .string ⟨#[]⟩, .string ⟨#[]⟩, .bool false, intV 0, intV 0, intV 0, intV 0, intV 0, intV 0, intV 0])
  unfold rulesV at h
  rw [rules_code] at h
  by_cases h1 : l = [45]
  · rw [if_pos h1] at h
    obtain ⟨rfl, rfl⟩ := Prod.mk.inj h
    subst h1
    clear h hf0
    go_enter Tryz.func77, Tryz.ntmps77
    go_wp2_with (
      refine wpList_store_blk 31 _ _ w.heap.size 0 31 (eraC eraZ) (eraC (rulesE (0, 0, []))) (eraC (rulesE (0, 0, []))) (by rfl) rfl rfl rfl rfl HZ.out (infoE _) (eraC_one _) (show 0 + 13 ≤ 13 by decide) (put_all rfl) ?_
      intro w3 hf3 hb3
      have HS3 := Lib.hid hf3
      have HB3 := Lib.hid hb3
      clear hf3 hb3)
    (try simp only [Exit.inBlock, Exit.then])
    exact bodyPost_ret (results_rules _ _ _ _ 0 rfl rfl HB3.out) rfl ⟨rfl, HF0.out.fresh HS3.out (fun i e => by omega)⟩
  · rw [if_neg h1] at h
    have hne : (l == [45]) = false := beq_eq_false_iff_ne.2 h1
    obtain ⟨b, hb⟩ : ∃ b, Go.Kwd.ruleD l = b := ⟨_, rfl⟩
    have HR := Lib.hid (fun W => rule_any l (by omega) W b hb)
    rw [hb] at h
    cases b with
    | true =>
      rw [if_pos rfl] at h
      obtain ⟨rfl, rfl⟩ := Prod.mk.inj h
      clear h hf0 hb h1
      go_enter Tryz.func77, Tryz.ntmps77
      go_wp2_with fail
      refine (HR.out _).mono ?_
      rintro e w2 ⟨rfl, hf2⟩
      have HF2 := Lib.hid (ff HF0.out hf2)
      have HZ2 := Lib.hid (hf2.blk HZ.out (fun h => h))
      clear hf2
      go_wp2_with (
      refine wpList_store_blk 31 _ _ w.heap.size 0 31 (eraC eraZ) (eraC (rulesE (2, 0, l))) (eraC (rulesE (2, 0, l))) (by rfl) rfl rfl rfl rfl HZ2.out (infoE _) (eraC_one _) (show 0 + 13 ≤ 13 by decide) (put_all rfl) ?_
      intro w3 hf3 hb3
      have HS3 := Lib.hid hf3
      have HB3 := Lib.hid hb3
      clear hf3 hb3)
      (try simp only [Exit.inBlock, Exit.then])
      exact bodyPost_ret (results_rules _ _ _ _ 0 rfl rfl HB3.out) rfl ⟨rfl, HF2.out.fresh HS3.out (fun i e => by omega)⟩
    | false =>
      rw [if_neg (by decide)] at h
      obtain ⟨a, ha⟩ : ∃ a, amtV l = a := ⟨_, rfl⟩
      have HA := Lib.hid (fun W => amount_any l (by omega) W a.1 a.2 ha)
      have hva : (v, k) = (rulesE (1, a.1, []), if a.2 = 0 then 0 else 5) ∧ (a.2 = 0 ∨ a.2 = 7) := by
        unfold amtV at ha
        rw [← h]
        cases hx : Go.Clk.amtD l with
        | none =>
          rw [hx] at ha
          subst ha
          exact ⟨rfl, .inr rfl⟩
        | some n =>
          rw [hx] at ha
          subst ha
          exact ⟨rfl, .inl rfl⟩
      obtain ⟨hv, h07⟩ := hva
      obtain ⟨rfl, rfl⟩ := Prod.mk.inj hv
      obtain ⟨n, j⟩ := a
      have HU := Lib.hid (fun c W => unless_any c 5 W)
      clear h hf0 hb h1 hv ha
      rcases h07 with h07 | h07
      all_goals
        have h07 : j = _ := h07
        subst h07
        go_enter Tryz.func77, Tryz.ntmps77
        go_wp2_with fail
        refine (HR.out _).mono ?_
        rintro e w2 ⟨rfl, hf2⟩
        have HF2 := Lib.hid (ff HF0.out hf2)
        have HZ2 := Lib.hid (hf2.blk HZ.out (fun h => h))
        clear hf2
        go_wp2_with fail
        refine (HA.out _).mono ?_
        rintro e w4 ⟨rfl, hf4⟩
        have HF4 := Lib.hid (ff HF2.out hf4)
        have HZ4 := Lib.hid (hf4.blk HZ2.out (fun h => h))
        clear hf4
        go_wp2_with fail
        refine (HU.out _ _).mono ?_
        rintro e w5 ⟨rfl, rfl⟩
        go_wp2_with (
        refine wpList_store_blk 31 _ _ w.heap.size 0 31 (eraC eraZ) (eraC (rulesE (1, n, []))) (eraC (rulesE (1, n, []))) (by rfl) rfl rfl rfl rfl HZ4.out (infoE _) (eraC_one _) (show 0 + 13 ≤ 13 by decide) (put_all rfl) ?_
        intro w3 hf3 hb3
        have HS3 := Lib.hid hf3
        have HB3 := Lib.hid hb3
        clear hf3 hb3)
        (try simp only [Exit.inBlock, Exit.then])
        exact bodyPost_ret (results_rules _ _ _ _ _ rfl rfl HB3.out) rfl ⟨rfl, HF4.out.fresh HS3.out (fun i e => by omega)⟩
theorem results_dayF (tmps : Array Value) (w : World) (q : Nat) (x : DayL) (k : Int) (h2 : tmps.getD 4 undef = .pointer (some ⟨q, 0, none⟩)) (h3 : tmps.getD 5 undef = intV k)
    (hb : Blk w q 23 (dayC x)) : (results Tryz.f94 tmps).run Tryz.prog w = .ok (.tuple #[.agg (dayC x), intV k]) w := by
  have h2' : tmps[4]?.getD undef = .pointer (some ⟨q, 0, none⟩) := by simpa using h2
  have h3' : tmps[5]?.getD undef = intV k := by simpa using h3
  have hL := run_loadVar_row w q 23 23 (dayC x) (0, 0) _ hb Tryz.underlying23 rfl (infoD x)
  simp [results, Tryz.results94, h2', h3', asAddr, hL]
/-- what tells a day that can be -/
def dayK (l : Bs) (y m : Int) : DayL × Int := match dayP l with
  | some d => (d, if canB d y m = true then 0 else 6)
  | none => (dayZ, 6)
set_option maxRecDepth 100000 in
set_option maxHeartbeats 3200000 in
theorem dayF_any (l : Bs) (hl : l.length ≤ 100000) (y m : Int) (q1 q2 : Nat) (w : World) (hw : LOk w) (hc1 : w.cell? ⟨q1, 0, none⟩ = some (intV y)) (hc2 : w.cell? ⟨q2, 0, none⟩ = some (intV m)) (d : DayL) (k : Int) (h : dayK l y m = (d, k)) :
    Calls Tryz.prog 94 #[strV l, .pointer (some ⟨q1, 0, none⟩), .pointer (some ⟨q2, 0, none⟩)] w fun e w' => e = .returned (.tuple #[.agg (dayC d), intV k]) ∧ Fr w w' (fun _ => False) := by
  have hf0 := Fr.new w (.cells #[intV 0, intV 0, intV 0] 23) (fun _ => False)
  have HF0 := Lib.hid hf0
  have HZ := Lib.hid (show Blk (w.alloc (.cells #[intV 0, intV 0, intV 0] 23)) w.heap.size 23 (dayC dayZ) from Blk.made w 23 #[intV 0, intV 0, intV 0])
  have HC := Lib.hid (fun d k h => day_any l hl (w.alloc (.cells #[intV 0, intV 0, intV 0] 23)) (hw.fr hf0) d k h)
  have HW := Lib.hid (fun W (f : Fr w W (fun _ => False)) => hw.fr f)
  have hd1 := hf0.cell0 hc1
  have hd2 := hf0.cell0 hc2
  unfold dayK at h
  cases hp : dayP l with
  | none =>
    rw [hp] at h
    obtain ⟨rfl, rfl⟩ := Prod.mk.inj h
    have HC := Lib.hid (HC.out dayZ 6 (by unfold dayW; rw [hp]))
    obtain ⟨d, hd⟩ : ∃ d, dayZ = d := ⟨_, rfl⟩
    rw [hd] at HC ⊢
    clear h hf0 hp hw HW
    go_enter Tryz.func94, Tryz.ntmps94
    go_wp2_with fail
    refine HC.out.mono ?_
    rintro e w2 ⟨rfl, hf2⟩
    have HF2 := Lib.hid (ff HF0.out hf2)
    have HZ2 := Lib.hid (hf2.blk HZ.out (fun h => h))
    have c1 := hf2.cell0 hd1
    have c2 := hf2.cell0 hd2
    have hs2 := hf2.size
    simp at hs2
    clear hf2
    go_wp2_with (first
      | (
        refine wpList_store_blk 23 _ _ w2.heap.size 0 23 (dayC dayZ) (dayC d) (dayC d) (by rfl) rfl rfl rfl rfl (Blk.made w2 23 (dayC dayZ)) (infoD _) (dayC_one _) (show 0 + 3 ≤ 3 by decide) (put_all rfl) ?_
        intro w3 hf3 hb3
        have hf23 := (Fr.new w2 (.cells (dayC dayZ) 23) (fun _ => False)).fresh hf3 (fun i e => by omega)
        have HF3 := Lib.hid (ff HF2.out hf23)
        have HZ3 := Lib.hid (hf23.blk HZ2.out (fun h => h))
        have HV3 := Lib.hid hb3
        have d1 := hf23.cell0 c1
        have d2 := hf23.cell0 c2
        clear hf3 hb3 hf23)
      | (refine wpList_load_blk 23 _ w2.heap.size 0 23 (dayC d) (dayC d) _ (by rfl) rfl rfl HV3.out Tryz.underlying23 rfl (infoD _) (zero_part _) ?_)
      | (
        refine wpList_store_blk 23 _ _ w.heap.size 0 23 (dayC dayZ) (dayC d) (dayC d) (by rfl) rfl rfl rfl rfl HZ3.out (infoD _) (dayC_one _) (show 0 + 3 ≤ 3 by decide) (put_all rfl) ?_
        intro w5 hf5 hb5
        have HS5 := Lib.hid hf5
        have HB5 := Lib.hid hb5
        clear hf5 hb5))
    (try simp only [Exit.inBlock, Exit.then])
    exact bodyPost_ret (results_dayF _ _ _ _ 6 rfl rfl HB5.out) rfl ⟨rfl, HF3.out.fresh HS5.out (fun i e => by omega)⟩
  | some d' =>
    rw [hp] at h
    obtain ⟨rfl, hk⟩ := Prod.mk.inj h
    have hk' : (if canB d' y m = true then (0 : Int) else 6) = k := hk
    have HC := Lib.hid (HC.out d' 0 (by unfold dayW; rw [hp]))
    have hok := day_right hp
    have HK := Lib.hid hk'
    have HO := Lib.hid (fun W (f : Fr w W (fun _ => False)) => of_can d' hok y m W (HW.out W f))
    obtain ⟨d, hd⟩ : ∃ d, d' = d := ⟨_, rfl⟩
    rw [hd] at HC HO HK ⊢
    clear h hf0 hp hw HW hk hk' hok
    go_enter Tryz.func94, Tryz.ntmps94
    go_wp2_with fail
    refine HC.out.mono ?_
    rintro e w2 ⟨rfl, hf2⟩
    have HF2 := Lib.hid (ff HF0.out hf2)
    have HZ2 := Lib.hid (hf2.blk HZ.out (fun h => h))
    have c1 := hf2.cell0 hd1
    have c2 := hf2.cell0 hd2
    have hs2 := hf2.size
    simp at hs2
    clear hf2
    go_wp2_with (first
      | (
        refine wpList_store_blk 23 _ _ w2.heap.size 0 23 (dayC dayZ) (dayC d) (dayC d) (by rfl) rfl rfl rfl rfl (Blk.made w2 23 (dayC dayZ)) (infoD _) (dayC_one _) (show 0 + 3 ≤ 3 by decide) (put_all rfl) ?_
        intro w3 hf3 hb3
        have hf23 := (Fr.new w2 (.cells (dayC dayZ) 23) (fun _ => False)).fresh hf3 (fun i e => by omega)
        have HF3 := Lib.hid (ff HF2.out hf23)
        have HZ3 := Lib.hid (hf23.blk HZ2.out (fun h => h))
        have HV3 := Lib.hid hb3
        have d1 := hf23.cell0 c1
        have d2 := hf23.cell0 c2
        clear hf3 hb3 hf23)
      | (refine wpList_load_blk 23 _ w2.heap.size 0 23 (dayC d) (dayC d) _ (by rfl) rfl rfl HV3.out Tryz.underlying23 rfl (infoD _) (zero_part _) ?_))
    obtain ⟨n, j, hj1, hj2, hO⟩ := HO.out _ HF3.out
    have HJ := Lib.hid hj1
    refine hO.mono ?_
    rintro e w4 ⟨rfl, hf4⟩
    have HF4 := Lib.hid (ff HF3.out hf4)
    have HZ4 := Lib.hid (hf4.blk HZ3.out (fun h => h))
    have HV4 := Lib.hid (hf4.blk HV3.out (fun h => h))
    have hkj : k = j := by
      rw [← HK.out]
      rcases hj2 with e | e
      · rw [if_pos (HJ.out.1 e), e]
      · rw [if_neg (fun c => by have := HJ.out.2 c; omega), e.2]
    subst hkj
    clear hf4 hj2 hO hj1
    go_wp2_with (first
      | (refine wpList_load_blk 23 _ w2.heap.size 0 23 (dayC d) (dayC d) _ (by rfl) rfl rfl HV4.out Tryz.underlying23 rfl (infoD _) (zero_part _) ?_)
      | (
        refine wpList_store_blk 23 _ _ w.heap.size 0 23 (dayC dayZ) (dayC d) (dayC d) (by rfl) rfl rfl rfl rfl HZ4.out (infoD _) (dayC_one _) (show 0 + 3 ≤ 3 by decide) (put_all rfl) ?_
        intro w5 hf5 hb5
        have HS5 := Lib.hid hf5
        have HB5 := Lib.hid hb5
        clear hf5 hb5))
    (try simp only [Exit.inBlock, Exit.then])
    exact bodyPost_ret (results_dayF _ _ _ _ _ rfl rfl HB5.out) rfl ⟨rfl, HF4.out.fresh HS5.out (fun i e => by omega)⟩
theorem dayIn_any (y m : Int) (w : World) : Calls Tryz.prog 69 #[intV y, intV m] w fun e w' => ∃ q1 q2 : Nat, e = .returned (.func (.func 94) #[] #[.pointer (some ⟨q1, 0, none⟩), .pointer (some ⟨q2, 0, none⟩)]) ∧ w'.cell? ⟨q1, 0, none⟩ = some (intV y) ∧ w'.cell? ⟨q2, 0, none⟩ = some (intV m) ∧ Fr w w' (fun _ => False) := by
  have hb1 := Blk.made w 3 #[intV y]
  have hb2 := Blk.made (w.alloc (.cells #[intV y] 3)) 3 #[intV m]
  have hf1 := Fr.new w (.cells #[intV y] 3) (fun _ => False)
  have hf2 := Fr.new (w.alloc (.cells #[intV y] 3)) (.cells #[intV m] 3) (fun _ => False)
  have hsz : (w.alloc (.cells #[intV y] 3)).heap.size = w.heap.size + 1 := by simp
  rw [hsz] at hb2
  have H1 := Lib.hid (blk_cell (hf2.blk hb1 (fun h => h)) 0 (intV y) rfl)
  have H2 := Lib.hid (blk_cell hb2 0 (intV m) rfl)
  have HF := Lib.hid (ff hf1 hf2)
  clear hb1 hb2 hf1 hf2
  go_enter Tryz.func69, Tryz.ntmps69
  go_wp2_with fail
  go_ret
  exact ⟨_, _, rfl, H1.out, H2.out, HF.out⟩
end Go.Proofs.YtgcheollgnhdlaaGreatDoor
