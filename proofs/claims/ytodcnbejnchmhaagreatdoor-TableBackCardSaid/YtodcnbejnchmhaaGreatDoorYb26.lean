import Derived.Test.YtodcnbejnchmhaaGreatDoorYb25
namespace Go.Proofs.YtodcnbejnchmhaaGreatDoor
open Go.RowKit Go.Mem Go.Lin

def rulesE (r : Int × Int × Bs) : EraL := ⟨0, r.1, r.2.1, r.2.2, [], tilZ⟩
def rulesV (l : Bs) : EraL × Int := match rulesP l with
  | some r => (rulesE r, 0)
  | none => (rulesE (1, 0, []), 5)
theorem results_rules (tmps : Array Value) (w : World) (q : Nat) (x : EraL) (k : Int) (h2 : tmps.getD 2 undef = .pointer (some ⟨q, 0, none⟩)) (h3 : tmps.getD 3 undef = intV k)
    (hb : Blk w q 69 (eraC x)) : (results Tryz.f175 tmps).run Tryz.prog w = .ok (.tuple #[.agg (eraC x), intV k]) w := by
  have h2' : tmps[2]?.getD undef = .pointer (some ⟨q, 0, none⟩) := by simpa using h2
  have h3' : tmps[3]?.getD undef = intV k := by simpa using h3
  have hL := run_loadVar_row w q 69 69 (eraC x) (0, 0) _ hb Tryz.underlying69 rfl (infoE x)
  simp [results, Tryz.results175, h2', h3', asAddr, hL]
set_option maxRecDepth 100000 in
set_option maxHeartbeats 3200000 in
theorem rules_any (l : Bs) (hl : l.length ≤ 100000) (w : World) (v : EraL) (k : Int) (h : rulesV l = (v, k)) : Calls Tryz.prog 175 #[strV l] w fun e w' => e = .returned (.tuple #[.agg (eraC v), intV k]) ∧ Fr w w' (fun _ => False) := by
  have hf0 := Fr.new w (.cells #[intV 0, intV 0, intV 0, .string ⟨#[]⟩, .string ⟨#[]⟩, .bool false, intV 0, intV 0, intV 0, intV 0, intV 0, intV 0, intV 0] 69) (fun _ => False)
  have HF0 := Lib.hid hf0
  have HZ := Lib.hid (show Blk (w.alloc (.cells #[intV 0, intV 0, intV 0, .string ⟨#[]⟩, .string ⟨#[]⟩, .bool false, intV 0, intV 0, intV 0, intV 0, intV 0, intV 0, intV 0] 69)) w.heap.size 69 (eraC eraZ) from Blk.made w 69 #[intV 0, intV 0, intV 0, .string ⟨#[]⟩, .string ⟨#[]⟩, .bool false, intV 0, intV 0, intV 0, intV 0, intV 0, intV 0, intV 0])
  unfold rulesV at h
  rw [rules_code] at h
  by_cases h1 : l = [45]
  · rw [if_pos h1] at h
    obtain ⟨rfl, rfl⟩ := Prod.mk.inj h
    subst h1
    clear h hf0
    go_enter Tryz.func175, Tryz.ntmps175
    go_wp2_with (
      refine wpList_store_blk 69 _ _ w.heap.size 0 69 (eraC eraZ) (eraC (rulesE (0, 0, []))) (eraC (rulesE (0, 0, []))) (by rfl) rfl rfl rfl rfl HZ.out (infoE _) (eraC_one _) (show 0 + 13 ≤ 13 by decide) (put_all rfl) ?_
      intro w3 hf3 hb3
      have HS3 := Lib.hid hf3
      have HB3 := Lib.hid hb3
      clear hf3 hb3)
    (try simp only [Exit.inBlock, Exit.then])
    exact bodyPost_ret (results_rules _ _ _ _ 0 rfl rfl HB3.out) rfl ⟨rfl, HF0.out.fresh HS3.out (fun i e => by omega)⟩
  · rw [if_neg h1] at h
    have hne : (l == [45]) = false := beq_eq_false_iff_ne.2 h1
    obtain ⟨b, hb⟩ : ∃ b, Go.Kwd.ruleD l = b := ⟨_, rfl⟩
    have HR := Lib.hid (fun W => rule_any l (by omega) W b hb)
    rw [hb] at h
    cases b with
    | true =>
      rw [if_pos rfl] at h
      obtain ⟨rfl, rfl⟩ := Prod.mk.inj h
      clear h hf0 hb h1
      go_enter Tryz.func175, Tryz.ntmps175
      go_wp2_with fail
      refine (HR.out _).mono ?_
      rintro e w2 ⟨rfl, hf2⟩
      have HF2 := Lib.hid (ff HF0.out hf2)
      have HZ2 := Lib.hid (hf2.blk HZ.out (fun h => h))
      clear hf2
      go_wp2_with (
      refine wpList_store_blk 69 _ _ w.heap.size 0 69 (eraC eraZ) (eraC (rulesE (2, 0, l))) (eraC (rulesE (2, 0, l))) (by rfl) rfl rfl rfl rfl HZ2.out (infoE _) (eraC_one _) (show 0 + 13 ≤ 13 by decide) (put_all rfl) ?_
      intro w3 hf3 hb3
      have HS3 := Lib.hid hf3
      have HB3 := Lib.hid hb3
      clear hf3 hb3)
      (try simp only [Exit.inBlock, Exit.then])
      exact bodyPost_ret (results_rules _ _ _ _ 0 rfl rfl HB3.out) rfl ⟨rfl, HF2.out.fresh HS3.out (fun i e => by omega)⟩
    | false =>
      rw [if_neg (by decide)] at h
      obtain ⟨a, ha⟩ : ∃ a, amtV l = a := ⟨_, rfl⟩
      have HA := Lib.hid (fun W => amount_any l (by omega) W a.1 a.2 ha)
      have hva : (v, k) = (rulesE (1, a.1, []), if a.2 = 0 then 0 else 5) ∧ (a.2 = 0 ∨ a.2 = 7) := by
        unfold amtV at ha
        rw [← h]
        cases hx : Go.Clk.amtD l with
        | none =>
          rw [hx] at ha
          subst ha
          exact ⟨rfl, .inr rfl⟩
        | some n =>
          rw [hx] at ha
          subst ha
          exact ⟨rfl, .inl rfl⟩
      obtain ⟨hv, h07⟩ := hva
      obtain ⟨rfl, rfl⟩ := Prod.mk.inj hv
      obtain ⟨n, j⟩ := a
      have HU := Lib.hid (fun c W => unless_any c 5 W)
      clear h hf0 hb h1 hv ha
      rcases h07 with h07 | h07
      all_goals
        have h07 : j = _ := h07
        subst h07
        go_enter Tryz.func175, Tryz.ntmps175
        go_wp2_with fail
        refine (HR.out _).mono ?_
        rintro e w2 ⟨rfl, hf2⟩
        have HF2 := Lib.hid (ff HF0.out hf2)
        have HZ2 := Lib.hid (hf2.blk HZ.out (fun h => h))
        clear hf2
        go_wp2_with fail
        refine (HA.out _).mono ?_
        rintro e w4 ⟨rfl, hf4⟩
        have HF4 := Lib.hid (ff HF2.out hf4)
        have HZ4 := Lib.hid (hf4.blk HZ2.out (fun h => h))
        clear hf4
        go_wp2_with fail
        refine (HU.out _ _).mono ?_
        rintro e w5 ⟨rfl, rfl⟩
        go_wp2_with (
        refine wpList_store_blk 69 _ _ w.heap.size 0 69 (eraC eraZ) (eraC (rulesE (1, n, []))) (eraC (rulesE (1, n, []))) (by rfl) rfl rfl rfl rfl HZ4.out (infoE _) (eraC_one _) (show 0 + 13 ≤ 13 by decide) (put_all rfl) ?_
        intro w3 hf3 hb3
        have HS3 := Lib.hid hf3
        have HB3 := Lib.hid hb3
        clear hf3 hb3)
        (try simp only [Exit.inBlock, Exit.then])
        exact bodyPost_ret (results_rules _ _ _ _ _ rfl rfl HB3.out) rfl ⟨rfl, HF4.out.fresh HS3.out (fun i e => by omega)⟩
theorem results_dayF (tmps : Array Value) (w : World) (q : Nat) (x : DayL) (k : Int) (h2 : tmps.getD 4 undef = .pointer (some ⟨q, 0, none⟩)) (h3 : tmps.getD 5 undef = intV k)
    (hb : Blk w q 61 (dayC x)) : (results Tryz.f189 tmps).run Tryz.prog w = .ok (.tuple #[.agg (dayC x), intV k]) w := by
  have h2' : tmps[4]?.getD undef = .pointer (some ⟨q, 0, none⟩) := by simpa using h2
  have h3' : tmps[5]?.getD undef = intV k := by simpa using h3
  have hL := run_loadVar_row w q 61 61 (dayC x) (0, 0) _ hb Tryz.underlying61 rfl (infoD x)
  simp [results, Tryz.results189, h2', h3', asAddr, hL]
/-- what tells a day that can be -/
def dayK (l : Bs) (y m : Int) : DayL × Int := match dayP l with
  | some d => (d, if canB d y m = true then 0 else 6)
  | none => (dayZ, 6)
set_option maxRecDepth 100000 in
set_option maxHeartbeats 3200000 in
theorem dayF_any (l : Bs) (hl : l.length ≤ 100000) (y m : Int) (q1 q2 : Nat) (w : World) (hw : LOk w) (hc1 : w.cell? ⟨q1, 0, none⟩ = some (intV y)) (hc2 : w.cell? ⟨q2, 0, none⟩ = some (intV m)) (d : DayL) (k : Int) (h : dayK l y m = (d, k)) :
    Calls Tryz.prog 189 #[strV l, .pointer (some ⟨q1, 0, none⟩), .pointer (some ⟨q2, 0, none⟩)] w fun e w' => e = .returned (.tuple #[.agg (dayC d), intV k]) ∧ Fr w w' (fun _ => False) := by
  have hf0 := Fr.new w (.cells #[intV 0, intV 0, intV 0] 61) (fun _ => False)
  have HF0 := Lib.hid hf0
  have HZ := Lib.hid (show Blk (w.alloc (.cells #[intV 0, intV 0, intV 0] 61)) w.heap.size 61 (dayC dayZ) from Blk.made w 61 #[intV 0, intV 0, intV 0])
  have HC := Lib.hid (fun d k h => day_any l hl (w.alloc (.cells #[intV 0, intV 0, intV 0] 61)) (hw.fr hf0) d k h)
  have HW := Lib.hid (fun W (f : Fr w W (fun _ => False)) => hw.fr f)
  have hd1 := hf0.cell0 hc1
  have hd2 := hf0.cell0 hc2
  unfold dayK at h
  cases hp : dayP l with
  | none =>
    rw [hp] at h
    obtain ⟨rfl, rfl⟩ := Prod.mk.inj h
    have HC := Lib.hid (HC.out dayZ 6 (by unfold dayW; rw [hp]))
    obtain ⟨d, hd⟩ : ∃ d, dayZ = d := ⟨_, rfl⟩
    rw [hd] at HC ⊢
    clear h hf0 hp hw HW
    go_enter Tryz.func189, Tryz.ntmps189
    go_wp2_with fail
    refine HC.out.mono ?_
    rintro e w2 ⟨rfl, hf2⟩
    have HF2 := Lib.hid (ff HF0.out hf2)
    have HZ2 := Lib.hid (hf2.blk HZ.out (fun h => h))
    have c1 := hf2.cell0 hd1
    have c2 := hf2.cell0 hd2
    have hs2 := hf2.size
    simp at hs2
    clear hf2
    go_wp2_with (first
      | (
        refine wpList_store_blk 61 _ _ w2.heap.size 0 61 (dayC dayZ) (dayC d) (dayC d) (by rfl) rfl rfl rfl rfl (Blk.made w2 61 (dayC dayZ)) (infoD _) (dayC_one _) (show 0 + 3 ≤ 3 by decide) (put_all rfl) ?_
        intro w3 hf3 hb3
        have hf23 := (Fr.new w2 (.cells (dayC dayZ) 61) (fun _ => False)).fresh hf3 (fun i e => by omega)
        have HF3 := Lib.hid (ff HF2.out hf23)
        have HZ3 := Lib.hid (hf23.blk HZ2.out (fun h => h))
        have HV3 := Lib.hid hb3
        have d1 := hf23.cell0 c1
        have d2 := hf23.cell0 c2
        clear hf3 hb3 hf23)
      | (refine wpList_load_blk 61 _ w2.heap.size 0 61 (dayC d) (dayC d) _ (by rfl) rfl rfl HV3.out Tryz.underlying61 rfl (infoD _) (zero_part _) ?_)
      | (
        refine wpList_store_blk 61 _ _ w.heap.size 0 61 (dayC dayZ) (dayC d) (dayC d) (by rfl) rfl rfl rfl rfl HZ3.out (infoD _) (dayC_one _) (show 0 + 3 ≤ 3 by decide) (put_all rfl) ?_
        intro w5 hf5 hb5
        have HS5 := Lib.hid hf5
        have HB5 := Lib.hid hb5
        clear hf5 hb5))
    (try simp only [Exit.inBlock, Exit.then])
    exact bodyPost_ret (results_dayF _ _ _ _ 6 rfl rfl HB5.out) rfl ⟨rfl, HF3.out.fresh HS5.out (fun i e => by omega)⟩
  | some d' =>
    rw [hp] at h
    obtain ⟨rfl, hk⟩ := Prod.mk.inj h
    have hk' : (if canB d' y m = true then (0 : Int) else 6) = k := hk
    have HC := Lib.hid (HC.out d' 0 (by unfold dayW; rw [hp]))
    have hok := day_right hp
    have HK := Lib.hid hk'
    have HO := Lib.hid (fun W (f : Fr w W (fun _ => False)) => of_can d' hok y m W (HW.out W f))
    obtain ⟨d, hd⟩ : ∃ d, d' = d := ⟨_, rfl⟩
    rw [hd] at HC HO HK ⊢
    clear h hf0 hp hw HW hk hk' hok
    go_enter Tryz.func189, Tryz.ntmps189
    go_wp2_with fail
    refine HC.out.mono ?_
    rintro e w2 ⟨rfl, hf2⟩
    have HF2 := Lib.hid (ff HF0.out hf2)
    have HZ2 := Lib.hid (hf2.blk HZ.out (fun h => h))
    have c1 := hf2.cell0 hd1
    have c2 := hf2.cell0 hd2
    have hs2 := hf2.size
    simp at hs2
    clear hf2
    go_wp2_with (first
      | (
        refine wpList_store_blk 61 _ _ w2.heap.size 0 61 (dayC dayZ) (dayC d) (dayC d) (by rfl) rfl rfl rfl rfl (Blk.made w2 61 (dayC dayZ)) (infoD _) (dayC_one _) (show 0 + 3 ≤ 3 by decide) (put_all rfl) ?_
        intro w3 hf3 hb3
        have hf23 := (Fr.new w2 (.cells (dayC dayZ) 61) (fun _ => False)).fresh hf3 (fun i e => by omega)
        have HF3 := Lib.hid (ff HF2.out hf23)
        have HZ3 := Lib.hid (hf23.blk HZ2.out (fun h => h))
        have HV3 := Lib.hid hb3
        have d1 := hf23.cell0 c1
        have d2 := hf23.cell0 c2
        clear hf3 hb3 hf23)
      | (refine wpList_load_blk 61 _ w2.heap.size 0 61 (dayC d) (dayC d) _ (by rfl) rfl rfl HV3.out Tryz.underlying61 rfl (infoD _) (zero_part _) ?_))
    obtain ⟨n, j, hj1, hj2, hO⟩ := HO.out _ HF3.out
    have HJ := Lib.hid hj1
    refine hO.mono ?_
    rintro e w4 ⟨rfl, hf4⟩
    have HF4 := Lib.hid (ff HF3.out hf4)
    have HZ4 := Lib.hid (hf4.blk HZ3.out (fun h => h))
    have HV4 := Lib.hid (hf4.blk HV3.out (fun h => h))
    have hkj : k = j := by
      rw [← HK.out]
      rcases hj2 with e | e
      · rw [if_pos (HJ.out.1 e), e]
      · rw [if_neg (fun c => by have := HJ.out.2 c; omega), e.2]
    subst hkj
    clear hf4 hj2 hO hj1
    go_wp2_with (first
      | (refine wpList_load_blk 61 _ w2.heap.size 0 61 (dayC d) (dayC d) _ (by rfl) rfl rfl HV4.out Tryz.underlying61 rfl (infoD _) (zero_part _) ?_)
      | (
        refine wpList_store_blk 61 _ _ w.heap.size 0 61 (dayC dayZ) (dayC d) (dayC d) (by rfl) rfl rfl rfl rfl HZ4.out (infoD _) (dayC_one _) (show 0 + 3 ≤ 3 by decide) (put_all rfl) ?_
        intro w5 hf5 hb5
        have HS5 := Lib.hid hf5
        have HB5 := Lib.hid hb5
        clear hf5 hb5))
    (try simp only [Exit.inBlock, Exit.then])
    exact bodyPost_ret (results_dayF _ _ _ _ _ rfl rfl HB5.out) rfl ⟨rfl, HF4.out.fresh HS5.out (fun i e => by omega)⟩
theorem dayIn_any (y m : Int) (w : World) : Calls Tryz.prog 167 #[intV y, intV m] w fun e w' => ∃ q1 q2 : Nat, e = .returned (.func (.func 189) #[] #[.pointer (some ⟨q1, 0, none⟩), .pointer (some ⟨q2, 0, none⟩)]) ∧ w'.cell? ⟨q1, 0, none⟩ = some (intV y) ∧ w'.cell? ⟨q2, 0, none⟩ = some (intV m) ∧ Fr w w' (fun _ => False) := by
  have hb1 := Blk.made w 3 #[intV y]
  have hb2 := Blk.made (w.alloc (.cells #[intV y] 3)) 3 #[intV m]
  have hf1 := Fr.new w (.cells #[intV y] 3) (fun _ => False)
  have hf2 := Fr.new (w.alloc (.cells #[intV y] 3)) (.cells #[intV m] 3) (fun _ => False)
  have hsz : (w.alloc (.cells #[intV y] 3)).heap.size = w.heap.size + 1 := by simp
  rw [hsz] at hb2
  have H1 := Lib.hid (blk_cell (hf2.blk hb1 (fun h => h)) 0 (intV y) rfl)
  have H2 := Lib.hid (blk_cell hb2 0 (intV m) rfl)
  have HF := Lib.hid (ff hf1 hf2)
  clear hb1 hb2 hf1 hf2
  go_enter Tryz.func167, Tryz.ntmps167
  go_wp2_with fail
  go_ret
  exact ⟨_, _, rfl, H1.out, H2.out, HF.out⟩
end Go.Proofs.YtodcnbejnchmhaaGreatDoor
namespace Go.Proofs.YtodcnbejnchmhaaGreatDoor
open Go.RowKit Go.Mem Go.Lin

/-- a world behind w0, in which the listed variables stand as there; b: the reader's block, made behind w0; g: the fields' -/
structure Ok (w0 w : World) (b g : Nat) : Prop where
  lok : LOk w0
  fr : Fr w0 w (fun _ => False)
  hb : w0.heap.size ≤ b
  hg : g ≠ b
theorem Ok.on {w0 w W : World} {b g : Nat} (h : Ok w0 w b g) (hf : Fr w W (· = b)) : Ok w0 W b g := ⟨h.lok, h.fr.fresh hf (fun i e => by have := h.hb; have e : i = b := e; omega), h.hb, h.hg⟩
theorem Ok.at_ {w0 w W : World} {b g : Nat} (h : Ok w0 w b g) (hf : Fr w W (fun _ => False)) : LOk W := h.lok.fr (ff h.fr hf)
theorem fr_b {a c : World} {b : Nat} (h : Fr a c (fun _ => False)) : Fr a c (· = b) := h.mono (fun _ _ h => h.elim)
theorem fr_bb {a c d : World} {b : Nat} (h : Fr a c (· = b)) (h2 : Fr c d (· = b)) : Fr a d (· = b) := h.trans h2 (fun _ _ h => h) (fun _ _ h => h)
theorem gt_len {fs : List FPair} (hz : ∀ x ∈ fs, x.1.length ≤ 100000) (p : Nat) : (gt (fs.map (·.1)) p).length ≤ 100000 := by
  unfold gt
  rw [List.getD_eq_getElem?_getD, List.getElem?_map]
  cases h : fs[p]? with
  | none => simp
  | some x => exact hz x (List.mem_of_getElem? h)
/-- what a method of the reader answers: a value, with n fields gone by, or the panic with the wrong line -/
def Ran {α : Type} (fs : List FPair) (g b n : Nat) (r : Except Er α) (V : α → Value) (w : World) (e : Ending) (w' : World) : Prop := match r with
  | .ok v => e = .returned (V v) ∧ LeftAt w' b g (fs.drop n) ∧ Fr w w' (· = b)
  | .error x => e = Raised (wrongL x.2 (colOf fs x.1)) ∧ Fr w w' (· = b)
theorem timeC_any (l : Bs) (hl : l.length ≤ 1000000) (W : World) (t : AtL) (k : Int) (h : timeV l = (t, k)) : Calls Tryz.prog 169 #[strV l] W fun e w' => e = .returned (.tuple #[.agg (atC t), intV k]) ∧ Fr W w' (fun _ => False) := time_any l hl W t k h
theorem from_cases (l : Bs) : (∃ y, fromV l = (y, 0) ∧ fromP l = some y) ∨ (fromV l = (0, 8) ∧ fromP l = none) := by
  unfold fromV
  cases h : fromP l with
  | none => exact .inr ⟨rfl, rfl⟩
  | some y => exact .inl ⟨y, rfl, rfl⟩
theorem to_cases (l : Bs) (fr : Int) : (∃ y, toV l fr = (y, 0) ∧ toP l fr = some y) ∨ (toV l fr = (0, 8) ∧ toP l fr = none) := by
  unfold toV
  cases h : toP l fr with
  | none => exact .inr ⟨rfl, rfl⟩
  | some y => exact .inl ⟨y, rfl, rfl⟩
theorem time_cases (l : Bs) : (∃ y, timeV l = (y, 0) ∧ timeP l = some y) ∨ (timeV l = (atZ, 7) ∧ timeP l = none) := by
  unfold timeV
  cases h : timeP l with
  | none => exact .inr ⟨rfl, rfl⟩
  | some y => exact .inl ⟨y, rfl, rfl⟩
theorem amt_cases (l : Bs) : (∃ y, amtV l = (y, 0) ∧ Go.Clk.amtD l = some y) ∨ (amtV l = (0, 7) ∧ Go.Clk.amtD l = none) := by
  unfold amtV
  cases h : Go.Clk.amtD l with
  | none => exact .inr ⟨rfl, rfl⟩
  | some y => exact .inl ⟨y, rfl, rfl⟩
theorem letter_cases (l : Bs) : (∃ y, letterK l = (y, 0) ∧ letterP l = some y) ∨ (letterK l = (l, 15) ∧ letterP l = none) := by
  unfold letterK
  cases h : letterP l with
  | none => exact .inr ⟨rfl, rfl⟩
  | some y => exact .inl ⟨y, rfl, rfl⟩
theorem rules_cases (l : Bs) : (∃ y, rulesV l = (rulesE y, 0) ∧ rulesP l = some y) ∨ (rulesV l = (rulesE (1, 0, []), 5) ∧ rulesP l = none) := by
  unfold rulesV
  cases h : rulesP l with
  | none => exact .inr ⟨rfl, rfl⟩
  | some y => exact .inl ⟨y, rfl, rfl⟩
theorem month_cases (l : Bs) : (∃ n : Nat, Go.Kwd.monthD l = n ∧ (if n = 0 then (6 : Int) else 0) = 0 ∧ monthP l = some (n : Int)) ∨ (Go.Kwd.monthD l = 0 ∧ monthP l = none) := by
  unfold monthP
  by_cases h : Go.Kwd.monthD l = 0
  · exact .inr ⟨h, if_pos h⟩
  · exact .inl ⟨_, rfl, if_neg h, if_neg h⟩
/-- a day, and that it can be -/
theorem day_cases (l : Bs) (y m : Int) : (∃ d, dayK l y m = (d, 0) ∧ dayP l = some d ∧ canB d y m = true) ∨ (∃ d, dayK l y m = (d, 6) ∧ (dayP l = none ∨ (dayP l = some d ∧ canB d y m = false))) := by
  unfold dayK
  cases h : dayP l with
  | none => exact .inr ⟨_, rfl, .inl rfl⟩
  | some d =>
    cases hc : canB d y m with
    | true => exact .inl ⟨d, by simp [hc], rfl, hc⟩
    | false => exact .inr ⟨d, by simp [hc], .inr ⟨rfl, hc⟩⟩
theorem takeS_at (F : FuncId) (hF : ∀ args w, (callFunc F args).run Tryz.prog w = .ok (.enter F args) w) (caps args : Array Value) (w : World) (b g : Nat) (fs : List FPair) (p : Nat) (hp : p < fs.length) (h : LeftAt w b g (fs.drop p)) (ha : #[strV (gt (fs.map (·.1)) p)] ++ caps = args) (hbg : g ≠ b) (v : Bs)
    (hT : ∀ W, Fr w W (fun _ => False) → Calls Tryz.prog F args W fun e w' => e = .returned (.tuple #[(strV v), intV 0]) ∧ Fr W w' (fun _ => False)) :
    Calls Tryz.prog 142 #[.pointer (some ⟨b, 0, none⟩), .func (.func F) #[] caps] w fun e w' => e = .returned (strV v) ∧ LeftAt w' b g (fs.drop (p + 1)) ∧ Fr w w' (· = b) := by
  subst ha
  rw [gt_at fs p hp] at h
  exact takeS_ok F hF caps w b g _ _ h hbg v hT
theorem takeS_err (F : FuncId) (hF : ∀ args w, (callFunc F args).run Tryz.prog w = .ok (.enter F args) w) (caps args : Array Value) (w : World) (b g : Nat) (fs : List FPair) (p : Nat) (hp : p < fs.length) (h : LeftAt w b g (fs.drop p)) (ha : #[strV (gt (fs.map (·.1)) p)] ++ caps = args) (v : Bs) (k : Int) (hk : k ≠ 0)
    (hT : ∀ W, Fr w W (fun _ => False) → Calls Tryz.prog F args W fun e w' => e = .returned (.tuple #[(strV v), intV k]) ∧ Fr W w' (fun _ => False)) :
    Calls Tryz.prog 142 #[.pointer (some ⟨b, 0, none⟩), .func (.func F) #[] caps] w fun e w' => e = Raised (wrongL k (colOf fs p)) ∧ Fr w w' (fun _ => False) := by
  subst ha
  rw [gt_at fs p hp] at h
  exact takeS_no F hF caps w b g _ _ h v k hk hT
theorem takeI_at (F : FuncId) (hF : ∀ args w, (callFunc F args).run Tryz.prog w = .ok (.enter F args) w) (caps args : Array Value) (w : World) (b g : Nat) (fs : List FPair) (p : Nat) (hp : p < fs.length) (h : LeftAt w b g (fs.drop p)) (ha : #[strV (gt (fs.map (·.1)) p)] ++ caps = args) (hbg : g ≠ b) (v : Int)
    (hT : ∀ W, Fr w W (fun _ => False) → Calls Tryz.prog F args W fun e w' => e = .returned (.tuple #[(intV v), intV 0]) ∧ Fr W w' (fun _ => False)) :
    Calls Tryz.prog 160 #[.pointer (some ⟨b, 0, none⟩), .func (.func F) #[] caps] w fun e w' => e = .returned (intV v) ∧ LeftAt w' b g (fs.drop (p + 1)) ∧ Fr w w' (· = b) := by
  subst ha
  rw [gt_at fs p hp] at h
  exact takeI_ok F hF caps w b g _ _ h hbg v hT
theorem takeI_err (F : FuncId) (hF : ∀ args w, (callFunc F args).run Tryz.prog w = .ok (.enter F args) w) (caps args : Array Value) (w : World) (b g : Nat) (fs : List FPair) (p : Nat) (hp : p < fs.length) (h : LeftAt w b g (fs.drop p)) (ha : #[strV (gt (fs.map (·.1)) p)] ++ caps = args) (v : Int) (k : Int) (hk : k ≠ 0)
    (hT : ∀ W, Fr w W (fun _ => False) → Calls Tryz.prog F args W fun e w' => e = .returned (.tuple #[(intV v), intV k]) ∧ Fr W w' (fun _ => False)) :
    Calls Tryz.prog 160 #[.pointer (some ⟨b, 0, none⟩), .func (.func F) #[] caps] w fun e w' => e = Raised (wrongL k (colOf fs p)) ∧ Fr w w' (fun _ => False) := by
  subst ha
  rw [gt_at fs p hp] at h
  exact takeI_no F hF caps w b g _ _ h v k hk hT
theorem takeD_at (F : FuncId) (hF : ∀ args w, (callFunc F args).run Tryz.prog w = .ok (.enter F args) w) (caps args : Array Value) (w : World) (b g : Nat) (fs : List FPair) (p : Nat) (hp : p < fs.length) (h : LeftAt w b g (fs.drop p)) (ha : #[strV (gt (fs.map (·.1)) p)] ++ caps = args) (hbg : g ≠ b) (v : DayL)
    (hT : ∀ W, Fr w W (fun _ => False) → Calls Tryz.prog F args W fun e w' => e = .returned (.tuple #[(.agg (dayC v)), intV 0]) ∧ Fr W w' (fun _ => False)) :
    Calls Tryz.prog 166 #[.pointer (some ⟨b, 0, none⟩), .func (.func F) #[] caps] w fun e w' => e = .returned (.agg (dayC v)) ∧ LeftAt w' b g (fs.drop (p + 1)) ∧ Fr w w' (· = b) := by
  subst ha
  rw [gt_at fs p hp] at h
  exact takeD_ok F hF caps w b g _ _ h hbg v hT
theorem takeD_err (F : FuncId) (hF : ∀ args w, (callFunc F args).run Tryz.prog w = .ok (.enter F args) w) (caps args : Array Value) (w : World) (b g : Nat) (fs : List FPair) (p : Nat) (hp : p < fs.length) (h : LeftAt w b g (fs.drop p)) (ha : #[strV (gt (fs.map (·.1)) p)] ++ caps = args) (v : DayL) (k : Int) (hk : k ≠ 0)
    (hT : ∀ W, Fr w W (fun _ => False) → Calls Tryz.prog F args W fun e w' => e = .returned (.tuple #[(.agg (dayC v)), intV k]) ∧ Fr W w' (fun _ => False)) :
    Calls Tryz.prog 166 #[.pointer (some ⟨b, 0, none⟩), .func (.func F) #[] caps] w fun e w' => e = Raised (wrongL k (colOf fs p)) ∧ Fr w w' (fun _ => False) := by
  subst ha
  rw [gt_at fs p hp] at h
  exact takeD_no F hF caps w b g _ _ h v k hk hT
theorem takeA_at (F : FuncId) (hF : ∀ args w, (callFunc F args).run Tryz.prog w = .ok (.enter F args) w) (caps args : Array Value) (w : World) (b g : Nat) (fs : List FPair) (p : Nat) (hp : p < fs.length) (h : LeftAt w b g (fs.drop p)) (ha : #[strV (gt (fs.map (·.1)) p)] ++ caps = args) (hbg : g ≠ b) (v : AtL)
    (hT : ∀ W, Fr w W (fun _ => False) → Calls Tryz.prog F args W fun e w' => e = .returned (.tuple #[(.agg (atC v)), intV 0]) ∧ Fr W w' (fun _ => False)) :
    Calls Tryz.prog 168 #[.pointer (some ⟨b, 0, none⟩), .func (.func F) #[] caps] w fun e w' => e = .returned (.agg (atC v)) ∧ LeftAt w' b g (fs.drop (p + 1)) ∧ Fr w w' (· = b) := by
  subst ha
  rw [gt_at fs p hp] at h
  exact takeA_ok F hF caps w b g _ _ h hbg v hT
theorem takeA_err (F : FuncId) (hF : ∀ args w, (callFunc F args).run Tryz.prog w = .ok (.enter F args) w) (caps args : Array Value) (w : World) (b g : Nat) (fs : List FPair) (p : Nat) (hp : p < fs.length) (h : LeftAt w b g (fs.drop p)) (ha : #[strV (gt (fs.map (·.1)) p)] ++ caps = args) (v : AtL) (k : Int) (hk : k ≠ 0)
    (hT : ∀ W, Fr w W (fun _ => False) → Calls Tryz.prog F args W fun e w' => e = .returned (.tuple #[(.agg (atC v)), intV k]) ∧ Fr W w' (fun _ => False)) :
    Calls Tryz.prog 168 #[.pointer (some ⟨b, 0, none⟩), .func (.func F) #[] caps] w fun e w' => e = Raised (wrongL k (colOf fs p)) ∧ Fr w w' (fun _ => False) := by
  subst ha
  rw [gt_at fs p hp] at h
  exact takeA_no F hF caps w b g _ _ h v k hk hT
theorem takeE_at (F : FuncId) (hF : ∀ args w, (callFunc F args).run Tryz.prog w = .ok (.enter F args) w) (caps args : Array Value) (w : World) (b g : Nat) (fs : List FPair) (p : Nat) (hp : p < fs.length) (h : LeftAt w b g (fs.drop p)) (ha : #[strV (gt (fs.map (·.1)) p)] ++ caps = args) (hbg : g ≠ b) (v : EraL)
    (hT : ∀ W, Fr w W (fun _ => False) → Calls Tryz.prog F args W fun e w' => e = .returned (.tuple #[(.agg (eraC v)), intV 0]) ∧ Fr W w' (fun _ => False)) :
    Calls Tryz.prog 174 #[.pointer (some ⟨b, 0, none⟩), .func (.func F) #[] caps] w fun e w' => e = .returned (.agg (eraC v)) ∧ LeftAt w' b g (fs.drop (p + 1)) ∧ Fr w w' (· = b) := by
  subst ha
  rw [gt_at fs p hp] at h
  exact takeE_ok F hF caps w b g _ _ h hbg v hT
theorem takeE_err (F : FuncId) (hF : ∀ args w, (callFunc F args).run Tryz.prog w = .ok (.enter F args) w) (caps args : Array Value) (w : World) (b g : Nat) (fs : List FPair) (p : Nat) (hp : p < fs.length) (h : LeftAt w b g (fs.drop p)) (ha : #[strV (gt (fs.map (·.1)) p)] ++ caps = args) (v : EraL) (k : Int) (hk : k ≠ 0)
    (hT : ∀ W, Fr w W (fun _ => False) → Calls Tryz.prog F args W fun e w' => e = .returned (.tuple #[(.agg (eraC v)), intV k]) ∧ Fr W w' (fun _ => False)) :
    Calls Tryz.prog 174 #[.pointer (some ⟨b, 0, none⟩), .func (.func F) #[] caps] w fun e w' => e = Raised (wrongL k (colOf fs p)) ∧ Fr w w' (fun _ => False) := by
  subst ha
  rw [gt_at fs p hp] at h
  exact takeE_no F hF caps w b g _ _ h v k hk hT
end Go.Proofs.YtodcnbejnchmhaaGreatDoor
namespace Go.Proofs.YtodcnbejnchmhaaGreatDoor
open Go.RowKit Go.Mem Go.Lin

theorem req_none {α : Type} (i : Nat) (k : Int) : req (none : Option α) i k = .error (i, k) := rfl
theorem chk_false (i : Nat) (k : Int) : chk false i k = .error (i, k) := rfl
theorem bind_err {α β : Type} (e : Er) (f : α → Except Er β) : (Except.error e : Except Er α).bind f = .error e := rfl
theorem res_rule {w : World} {q : Nat} {v : RuleL} (hb : Blk w q 65 (ruleC v)) (tmps : Array Value) (hp : tmps.getD 2 undef = .pointer (some ⟨q, 0, none⟩)) : (results Tryz.f141 tmps).run Tryz.prog w = .ok (.agg (ruleC v)) w :=
  results_cell_row (P := Tryz.prog) (fn := Tryz.f141) (p := 2) (ty := 65) rfl tmps _ q 65 (ruleC v) (0, 0) _ hp hb Tryz.underlying65 rfl (infoR v)
set_option maxRecDepth 100000 in
set_option maxHeartbeats 6400000 in
theorem rrule_any (fs : List FPair) (hz : ∀ x ∈ fs, x.1.length ≤ 100000) (hlen : fs.length = 10) (w0 w : World) (b g : Nat) (ho : Ok w0 w b g) (h : LeftAt w b g (fs.drop 1)) :
    Calls Tryz.prog 141 #[.pointer (some ⟨b, 0, none⟩)] w (Ran fs g b 10 (ruleP (fs.map (·.1))) ruleV w) := by
  have hbs := h.lt
  have hgs : g < w.heap.size := by
    have h2 := h
    rw [gt_at fs 1 (by omega)] at h2
    obtain ⟨_, _, _, _, cg, _, _⟩ := h2.open
    exact World.block_lt_of_cell? w _ cg
  obtain ⟨R, hR⟩ : ∃ R, ruleP (fs.map (·.1)) = R := ⟨_, rfl⟩
  rw [hR]
  unfold ruleP at hR
  have HR0 := Lib.hid hR
  have hf1 := Fr.new w (.cells #[.string ⟨#[]⟩, intV 0, intV 0, intV 0, intV 0, intV 0, intV 0, intV 0, intV 0, intV 0, .string ⟨#[]⟩] 65) (fun _ => False)
  have hf2 := Fr.new (w.alloc (.cells #[.string ⟨#[]⟩, intV 0, intV 0, intV 0, intV 0, intV 0, intV 0, intV 0, intV 0, intV 0, .string ⟨#[]⟩] 65)) (.cells #[.string ⟨#[]⟩, intV 0, intV 0, intV 0, intV 0, intV 0, intV 0, intV 0, intV 0, intV 0, .string ⟨#[]⟩] 65) (fun _ => False)
  have hsz : (w.alloc (.cells #[.string ⟨#[]⟩, intV 0, intV 0, intV 0, intV 0, intV 0, intV 0, intV 0, intV 0, intV 0, .string ⟨#[]⟩] 65)).heap.size = w.heap.size + 1 := by simp
  have hb2 := Blk.made (w.alloc (.cells #[.string ⟨#[]⟩, intV 0, intV 0, intV 0, intV 0, intV 0, intV 0, intV 0, intV 0, intV 0, .string ⟨#[]⟩] 65)) 65 #[.string ⟨#[]⟩, intV 0, intV 0, intV 0, intV 0, intV 0, intV 0, intV 0, intV 0, intV 0, .string ⟨#[]⟩]
  rw [hsz] at hb2
  have HX0 := Lib.hid (show Blk _ (w.heap.size + 1) 65 (ruleC ruleZ) from hb2)
  have HZ0 := Lib.hid (show Blk _ w.heap.size 65 (ruleC ruleZ) from hf2.blk (Blk.made w 65 #[.string ⟨#[]⟩, intV 0, intV 0, intV 0, intV 0, intV 0, intV 0, intV 0, intV 0, intV 0, .string ⟨#[]⟩]) (fun h => h))
  have HL0 := Lib.hid (h.fr (ff hf1 hf2) (fun h => h) (fun h => h))
  have HF0 := Lib.hid (fr_b (b := b) (ff hf1 hf2))
  have HO0 := Lib.hid (ho.on HF0.out)
  have HG := Lib.hid (gt_len hz)
  clear hR hf1 hf2 hsz hb2 h ho hz
  go_enter Tryz.func141, Tryz.ntmps141
  go_wp2_with fail
  cases hb : Go.Kwd.ruleD (gt (fs.map (·.1)) 1)
  · have hR0 := HR0.out
    rw [hb] at hR0
    simp only [chk_false, bind_err] at hR0
    subst hR0
    refine (takeS_err 159 (fun a W => Tryz.call159 a W) #[] #[strV (gt (fs.map (·.1)) 1)] _ b g fs 1 (by omega) HL0.out rfl (gt (fs.map (·.1)) 1) 5 (by decide) (by intro W f; with_reducible exact ruleName_any _ (HG.out 1) W 5 (by simp [hb]))).mono ?_
    rintro e wn ⟨rfl, hfn⟩
    have HFn := Lib.hid hfn
    clear hfn
    go_wp2_with fail
    exact ⟨rfl, rfl, fr_bb HF0.out (fr_b HFn.out)⟩
  have hR0 := HR0.out
  rw [hb] at hR0
  simp only [chk_true, bind_ok] at hR0
  refine (takeS_at 159 (fun a W => Tryz.call159 a W) #[] #[strV (gt (fs.map (·.1)) 1)] _ b g fs 1 (by omega) HL0.out rfl HO0.out.hg (gt (fs.map (·.1)) 1) (by intro W f; with_reducible exact ruleName_any _ (HG.out 1) W 0 (by simp [hb]))).mono ?_
  rintro e wa0 ⟨rfl, hl0, hfa0⟩
  have HX1 := Lib.hid (hfa0.blk HX0.out (by omega))
  have HZ1 := Lib.hid (hfa0.blk HZ0.out (by omega))
  have HF1 := Lib.hid (fr_bb HF0.out hfa0)
  have HO1 := Lib.hid (HO0.out.on hfa0)
  have HL1 := Lib.hid hl0
  have HR1 := Lib.hid hR0
  clear hl0 hfa0 hR0 HR0 HL0 HX0 HZ0 HF0 HO0
  go_wp2_with (first
    | (
      refine wpList_store_cell 9 _ _ (w.heap.size + 1) 0 65 (ruleC ruleZ) (ruleC ⟨(gt (fs.map (·.1)) 1), 0, 0, 0, dayZ, atZ, 0, []⟩) (strV (gt (fs.map (·.1)) 1)) (by rfl) rfl rfl rfl rfl HX1.out info_str (by rfl) (show 0 < 11 by decide) (put_r0 _ _) ?_
      intro wb1 hfb1 hbb1
      have HX2 := Lib.hid hbb1
      have HZ2 := Lib.hid (hfb1.blk HZ1.out (by omega))
      have HL2 := Lib.hid (HL1.out.fr hfb1 (by omega) (by omega))
      have HF2 := Lib.hid (fr_more HF1.out hfb1 (fun i e => by omega))
      have HO2 := Lib.hid (show Ok w0 wb1 b g from ⟨HO1.out.lok, HO1.out.fr.fresh hfb1 (fun i e => by have := HO1.out.hb; omega), HO1.out.hb, HO1.out.hg⟩)
      
      clear hfb1 hbb1 HX1 HZ1 HL1 HF1 HO1))
  have HR2 := HR1
  clear HR1
  rcases (from_cases (gt (fs.map (·.1)) 2)).symm with ⟨hv, hp⟩ | ⟨y, hv, hp⟩
  · have hR2 := HR2.out
    rw [hp] at hR2
    simp only [req_none, bind_err] at hR2
    subst hR2
    refine (takeI_err 161 (fun a W => Tryz.call161 a W) #[] #[strV (gt (fs.map (·.1)) 2)] _ b g fs 2 (by omega) HL2.out rfl 0 8 (by decide) (by intro W f; with_reducible exact from_any _ (HG.out 2) W (HO2.out.at_ f) _ _ hv)).mono ?_
    rintro e wn ⟨rfl, hfn⟩
    have HFn := Lib.hid hfn
    clear hfn
    go_wp2_with fail
    exact ⟨rfl, rfl, fr_bb HF2.out (fr_b HFn.out)⟩
  have hR2 := HR2.out
  rw [hp] at hR2
  simp only [req_some, bind_ok] at hR2
  refine (takeI_at 161 (fun a W => Tryz.call161 a W) #[] #[strV (gt (fs.map (·.1)) 2)] _ b g fs 2 (by omega) HL2.out rfl HO2.out.hg y (by intro W f; with_reducible exact from_any _ (HG.out 2) W (HO2.out.at_ f) _ _ hv)).mono ?_
  rintro e wa2 ⟨rfl, hl2, hfa2⟩
  have HX3 := Lib.hid (hfa2.blk HX2.out (by omega))
  have HZ3 := Lib.hid (hfa2.blk HZ2.out (by omega))
  have HF3 := Lib.hid (fr_bb HF2.out hfa2)
  have HO3 := Lib.hid (HO2.out.on hfa2)
  have HL3 := Lib.hid hl2
  have HR3 := Lib.hid hR2
  clear hl2 hfa2 hR2 HR2 HL2 HX2 HZ2 HF2 HO2
  clear hv hp
  go_wp2_with (first
    | (
      refine wpList_store_cell 3 _ _ (w.heap.size + 1) 1 65 (ruleC ⟨(gt (fs.map (·.1)) 1), 0, 0, 0, dayZ, atZ, 0, []⟩) (ruleC ⟨(gt (fs.map (·.1)) 1), y, 0, 0, dayZ, atZ, 0, []⟩) (intV y) (by rfl) rfl rfl rfl rfl HX3.out info_int (by rfl) (show 1 < 11 by decide) (put_r1 _ _) ?_
      intro wb3 hfb3 hbb3
      have HX4 := Lib.hid hbb3
      have HZ4 := Lib.hid (hfb3.blk HZ3.out (by omega))
      have HL4 := Lib.hid (HL3.out.fr hfb3 (by omega) (by omega))
      have HF4 := Lib.hid (fr_more HF3.out hfb3 (fun i e => by omega))
      have HO4 := Lib.hid (show Ok w0 wb3 b g from ⟨HO3.out.lok, HO3.out.fr.fresh hfb3 (fun i e => by have := HO3.out.hb; omega), HO3.out.hb, HO3.out.hg⟩)
      
      clear hfb3 hbb3 HX3 HZ3 HL3 HF3 HO3))
  have HR4 := HR3
  clear HR3
  rcases (to_cases (gt (fs.map (·.1)) 3) y).symm with ⟨hv, hp⟩ | ⟨z, hv, hp⟩
  · have hR4 := HR4.out
    rw [hp] at hR4
    simp only [req_none, bind_err] at hR4
    subst hR4
    refine (takeI_err 162 (fun a W => Tryz.call162 a W) #[.pointer (some ⟨(w.heap.size + 1), 0, none⟩)] #[strV (gt (fs.map (·.1)) 3), .pointer (some ⟨(w.heap.size + 1), 0, none⟩)] _ b g fs 3 (by omega) HL4.out rfl 0 8 (by decide) (by intro W f; with_reducible exact rruleTo_any _ (HG.out 3) (⟨(gt (fs.map (·.1)) 1), y, 0, 0, dayZ, atZ, 0, []⟩) (w.heap.size + 1) W (HO4.out.at_ f) (f.blk HX4.out (fun h => h)) _ _ hv)).mono ?_
    rintro e wn ⟨rfl, hfn⟩
    have HFn := Lib.hid hfn
    clear hfn
    go_wp2_with fail
    exact ⟨rfl, rfl, fr_bb HF4.out (fr_b HFn.out)⟩
  have hR4 := HR4.out
  rw [hp] at hR4
  simp only [req_some, bind_ok] at hR4
  refine (takeI_at 162 (fun a W => Tryz.call162 a W) #[.pointer (some ⟨(w.heap.size + 1), 0, none⟩)] #[strV (gt (fs.map (·.1)) 3), .pointer (some ⟨(w.heap.size + 1), 0, none⟩)] _ b g fs 3 (by omega) HL4.out rfl HO4.out.hg z (by intro W f; with_reducible exact rruleTo_any _ (HG.out 3) (⟨(gt (fs.map (·.1)) 1), y, 0, 0, dayZ, atZ, 0, []⟩) (w.heap.size + 1) W (HO4.out.at_ f) (f.blk HX4.out (fun h => h)) _ _ hv)).mono ?_
  rintro e wa4 ⟨rfl, hl4, hfa4⟩
  have HX5 := Lib.hid (hfa4.blk HX4.out (by omega))
  have HZ5 := Lib.hid (hfa4.blk HZ4.out (by omega))
  have HF5 := Lib.hid (fr_bb HF4.out hfa4)
  have HO5 := Lib.hid (HO4.out.on hfa4)
  have HL5 := Lib.hid hl4
  have HR5 := Lib.hid hR4
  clear hl4 hfa4 hR4 HR4 HL4 HX4 HZ4 HF4 HO4
  clear hv hp
  go_wp2_with (first
    | (
      refine wpList_store_cell 3 _ _ (w.heap.size + 1) 2 65 (ruleC ⟨(gt (fs.map (·.1)) 1), y, 0, 0, dayZ, atZ, 0, []⟩) (ruleC ⟨(gt (fs.map (·.1)) 1), y, z, 0, dayZ, atZ, 0, []⟩) (intV z) (by rfl) rfl rfl rfl rfl HX5.out info_int (by rfl) (show 2 < 11 by decide) (put_r2 _ _) ?_
      intro wb5 hfb5 hbb5
      have HX6 := Lib.hid hbb5
      have HZ6 := Lib.hid (hfb5.blk HZ5.out (by omega))
      have HL6 := Lib.hid (HL5.out.fr hfb5 (by omega) (by omega))
      have HF6 := Lib.hid (fr_more HF5.out hfb5 (fun i e => by omega))
      have HO6 := Lib.hid (show Ok w0 wb5 b g from ⟨HO5.out.lok, HO5.out.fr.fresh hfb5 (fun i e => by have := HO5.out.hb; omega), HO5.out.hb, HO5.out.hg⟩)
      
      clear hfb5 hbb5 HX5 HZ5 HL5 HF5 HO5))
  have HR6 := HR5
  clear HR5
  rcases Decidable.em ((gt (fs.map (·.1)) 4) = [45]) |>.symm with hb | hb
  · have hR6 := HR6.out
    rw [decide_eq_false hb] at hR6
    simp only [chk_false, bind_err] at hR6
    subst hR6
    refine (takeS_err 164 (fun a W => Tryz.call164 a W) #[] #[strV (gt (fs.map (·.1)) 4)] _ b g fs 4 (by omega) HL6.out rfl (gt (fs.map (·.1)) 4) 3 (by decide) (by intro W f; with_reducible exact dash_any _ W 3 (if_neg hb))).mono ?_
    rintro e wn ⟨rfl, hfn⟩
    have HFn := Lib.hid hfn
    clear hfn
    go_wp2_with fail
    exact ⟨rfl, rfl, fr_bb HF6.out (fr_b HFn.out)⟩
  have hR6 := HR6.out
  rw [decide_eq_true hb] at hR6
  simp only [chk_true, bind_ok] at hR6
  refine (takeS_at 164 (fun a W => Tryz.call164 a W) #[] #[strV (gt (fs.map (·.1)) 4)] _ b g fs 4 (by omega) HL6.out rfl HO6.out.hg (gt (fs.map (·.1)) 4) (by intro W f; with_reducible exact dash_any _ W 0 (if_pos hb))).mono ?_
  rintro e wa6 ⟨rfl, hl6, hfa6⟩
  have HX7 := Lib.hid (hfa6.blk HX6.out (by omega))
  have HZ7 := Lib.hid (hfa6.blk HZ6.out (by omega))
  have HF7 := Lib.hid (fr_bb HF6.out hfa6)
  have HO7 := Lib.hid (HO6.out.on hfa6)
  have HL7 := Lib.hid hl6
  have HR7 := Lib.hid hR6
  clear hl6 hfa6 hR6 HR6 HL6 HX6 HZ6 HF6 HO6
  clear hb
  go_wp2_with fail
  rcases (month_cases (gt (fs.map (·.1)) 5)).symm with ⟨hn, hp⟩ | ⟨n, hn, hk, hp⟩
  · have hR7 := HR7.out
    rw [hp] at hR7
    simp only [req_none, bind_err] at hR7
    subst hR7
    refine (takeI_err 165 (fun a W => Tryz.call165 a W) #[] #[strV (gt (fs.map (·.1)) 5)] _ b g fs 5 (by omega) HL7.out rfl ((0 : Nat) : Int) 6 (by decide) (by intro W f; with_reducible exact monthF_any _ (HG.out 5) W 0 hn 6 (if_pos rfl))).mono ?_
    rintro e wn ⟨rfl, hfn⟩
    have HFn := Lib.hid hfn
    clear hfn
    go_wp2_with fail
    exact ⟨rfl, rfl, fr_bb HF7.out (fr_b HFn.out)⟩
  have hR7 := HR7.out
  rw [hp] at hR7
  simp only [req_some, bind_ok] at hR7
  refine (takeI_at 165 (fun a W => Tryz.call165 a W) #[] #[strV (gt (fs.map (·.1)) 5)] _ b g fs 5 (by omega) HL7.out rfl HO7.out.hg (n : Int) (by intro W f; with_reducible exact monthF_any _ (HG.out 5) W n hn 0 hk)).mono ?_
  rintro e wa7 ⟨rfl, hl7, hfa7⟩
  have HX8 := Lib.hid (hfa7.blk HX7.out (by omega))
  have HZ8 := Lib.hid (hfa7.blk HZ7.out (by omega))
  have HF8 := Lib.hid (fr_bb HF7.out hfa7)
  have HO8 := Lib.hid (HO7.out.on hfa7)
  have HL8 := Lib.hid hl7
  have HR8 := Lib.hid hR7
  clear hl7 hfa7 hR7 HR7 HL7 HX7 HZ7 HF7 HO7
  clear hn hk hp
  go_wp2_with (first
    | (
      refine wpList_store_cell 3 _ _ (w.heap.size + 1) 3 65 (ruleC ⟨(gt (fs.map (·.1)) 1), y, z, 0, dayZ, atZ, 0, []⟩) (ruleC ⟨(gt (fs.map (·.1)) 1), y, z, (n : Int), dayZ, atZ, 0, []⟩) (intV (n : Int)) (by rfl) rfl rfl rfl rfl HX8.out info_int (by rfl) (show 3 < 11 by decide) (put_r3 _ _) ?_
      intro wb8 hfb8 hbb8
      have HX9 := Lib.hid hbb8
      have HZ9 := Lib.hid (hfb8.blk HZ8.out (by omega))
      have HL9 := Lib.hid (HL8.out.fr hfb8 (by omega) (by omega))
      have HF9 := Lib.hid (fr_more HF8.out hfb8 (fun i e => by omega))
      have HO9 := Lib.hid (show Ok w0 wb8 b g from ⟨HO8.out.lok, HO8.out.fr.fresh hfb8 (fun i e => by have := HO8.out.hb; omega), HO8.out.hb, HO8.out.hg⟩)
      have cm := blk_cell hbb8 3 (intV (n : Int)) rfl
      clear hfb8 hbb8 HX8 HZ8 HL8 HF8 HO8))
  have HR9 := HR8
  clear HR8
  refine (dayIn_any 2000 (n : Int) _).mono ?_
  rintro e wd ⟨q1, q2, rfl, hq1, hq2, hfd⟩
  have hfd1 := fr_b (b := b) hfd
  have HX10 := Lib.hid (hfd1.blk HX9.out (by omega))
  have HZ10 := Lib.hid (hfd1.blk HZ9.out (by omega))
  have HF10 := Lib.hid (fr_bb HF9.out hfd1)
  have HO10 := Lib.hid (HO9.out.on hfd1)
  have HL10 := Lib.hid (HL9.out.fr hfd (fun h => h) (fun h => h))
  have HR10 := HR9
  have HQ1 := Lib.hid hq1
  have HQ2 := Lib.hid hq2
  clear hfd hfd1 hq1 hq2 HR9 HL9 HX9 HZ9 HF9 HO9 cm
  go_wp2_with fail
  rcases (day_cases (gt (fs.map (·.1)) 6) 2000 (n : Int)).symm with ⟨d, hv, hp⟩ | ⟨d, hv, hp, hc⟩
  · have hR10 := HR10.out
    have hR10 : Except.error (6, 6) = R := by
      rcases hp with hp | ⟨hp, hc⟩
      · rw [hp] at hR10
        simpa only [req_none, bind_err] using hR10
      · rw [hp] at hR10
        simp only [req_some, bind_ok] at hR10
        rw [hc] at hR10
        simpa only [chk_false, bind_err] using hR10
    subst hR10
    refine (takeD_err 189 (fun a W => Tryz.call189 a W) #[.pointer (some ⟨q1, 0, none⟩), .pointer (some ⟨q2, 0, none⟩)] #[strV (gt (fs.map (·.1)) 6), .pointer (some ⟨q1, 0, none⟩), .pointer (some ⟨q2, 0, none⟩)] _ b g fs 6 (by omega) HL10.out rfl d 6 (by decide) (by intro W f; with_reducible exact dayF_any _ (HG.out 6) 2000 (n : Int) q1 q2 W (HO10.out.at_ f) (f.cell0 HQ1.out) (f.cell0 HQ2.out) _ _ hv)).mono ?_
    rintro e wn ⟨rfl, hfn⟩
    have HFn := Lib.hid hfn
    clear hfn
    go_wp2_with fail
    exact ⟨rfl, rfl, fr_bb HF10.out (fr_b HFn.out)⟩
  have hR10 := HR10.out
  rw [hp] at hR10
  simp only [req_some, bind_ok] at hR10
  rw [hc] at hR10
  simp only [chk_true, bind_ok] at hR10
  refine (takeD_at 189 (fun a W => Tryz.call189 a W) #[.pointer (some ⟨q1, 0, none⟩), .pointer (some ⟨q2, 0, none⟩)] #[strV (gt (fs.map (·.1)) 6), .pointer (some ⟨q1, 0, none⟩), .pointer (some ⟨q2, 0, none⟩)] _ b g fs 6 (by omega) HL10.out rfl HO10.out.hg d (by intro W f; with_reducible exact dayF_any _ (HG.out 6) 2000 (n : Int) q1 q2 W (HO10.out.at_ f) (f.cell0 HQ1.out) (f.cell0 HQ2.out) _ _ hv)).mono ?_
  rintro e wa10 ⟨rfl, hl10, hfa10⟩
  have HX11 := Lib.hid (hfa10.blk HX10.out (by omega))
  have HZ11 := Lib.hid (hfa10.blk HZ10.out (by omega))
  have HF11 := Lib.hid (fr_bb HF10.out hfa10)
  have HO11 := Lib.hid (HO10.out.on hfa10)
  have HL11 := Lib.hid hl10
  have HR11 := Lib.hid hR10
  clear hl10 hfa10 hR10 HR10 HL10 HX10 HZ10 HF10 HO10
  clear hv hp hc HQ1 HQ2
  go_wp2_with (first
    | (
      refine wpList_store_blk 61 _ _ (w.heap.size + 1) 4 65 (ruleC ⟨(gt (fs.map (·.1)) 1), y, z, (n : Int), dayZ, atZ, 0, []⟩) (dayC d) (ruleC ⟨(gt (fs.map (·.1)) 1), y, z, (n : Int), d, atZ, 0, []⟩) (by rfl) rfl rfl rfl rfl HX11.out (infoD _) (dayC_one _) (show 4 + 3 ≤ 11 by decide) (put_r4 _ _) ?_
      intro wb11 hfb11 hbb11
      have HX12 := Lib.hid hbb11
      have HZ12 := Lib.hid (hfb11.blk HZ11.out (by omega))
      have HL12 := Lib.hid (HL11.out.fr hfb11 (by omega) (by omega))
      have HF12 := Lib.hid (fr_more HF11.out hfb11 (fun i e => by omega))
      have HO12 := Lib.hid (show Ok w0 wb11 b g from ⟨HO11.out.lok, HO11.out.fr.fresh hfb11 (fun i e => by have := HO11.out.hb; omega), HO11.out.hb, HO11.out.hg⟩)
      
      clear hfb11 hbb11 HX11 HZ11 HL11 HF11 HO11))
  have HR12 := HR11
  clear HR11
  rcases (time_cases (gt (fs.map (·.1)) 7)).symm with ⟨hv, hp⟩ | ⟨t, hv, hp⟩
  · have hR12 := HR12.out
    rw [hp] at hR12
    simp only [req_none, bind_err] at hR12
    subst hR12
    refine (takeA_err 169 (fun a W => Tryz.call169 a W) #[] #[strV (gt (fs.map (·.1)) 7)] _ b g fs 7 (by omega) HL12.out rfl atZ 7 (by decide) (by intro W f; with_reducible exact timeC_any _ (by have := HG.out 7; omega) W _ _ hv)).mono ?_
    rintro e wn ⟨rfl, hfn⟩
    have HFn := Lib.hid hfn
    clear hfn
    go_wp2_with fail
    exact ⟨rfl, rfl, fr_bb HF12.out (fr_b HFn.out)⟩
  have hR12 := HR12.out
  rw [hp] at hR12
  simp only [req_some, bind_ok] at hR12
  refine (takeA_at 169 (fun a W => Tryz.call169 a W) #[] #[strV (gt (fs.map (·.1)) 7)] _ b g fs 7 (by omega) HL12.out rfl HO12.out.hg t (by intro W f; with_reducible exact timeC_any _ (by have := HG.out 7; omega) W _ _ hv)).mono ?_
  rintro e wa12 ⟨rfl, hl12, hfa12⟩
  have HX13 := Lib.hid (hfa12.blk HX12.out (by omega))
  have HZ13 := Lib.hid (hfa12.blk HZ12.out (by omega))
  have HF13 := Lib.hid (fr_bb HF12.out hfa12)
  have HO13 := Lib.hid (HO12.out.on hfa12)
  have HL13 := Lib.hid hl12
  have HR13 := Lib.hid hR12
  clear hl12 hfa12 hR12 HR12 HL12 HX12 HZ12 HF12 HO12
  clear hv hp
  go_wp2_with (first
    | (
      refine wpList_store_blk 63 _ _ (w.heap.size + 1) 7 65 (ruleC ⟨(gt (fs.map (·.1)) 1), y, z, (n : Int), d, atZ, 0, []⟩) (atC t) (ruleC ⟨(gt (fs.map (·.1)) 1), y, z, (n : Int), d, t, 0, []⟩) (by rfl) rfl rfl rfl rfl HX13.out (infoA _) (atC_one _) (show 7 + 2 ≤ 11 by decide) (put_r7 _ _) ?_
      intro wb13 hfb13 hbb13
      have HX14 := Lib.hid hbb13
      have HZ14 := Lib.hid (hfb13.blk HZ13.out (by omega))
      have HL14 := Lib.hid (HL13.out.fr hfb13 (by omega) (by omega))
      have HF14 := Lib.hid (fr_more HF13.out hfb13 (fun i e => by omega))
      have HO14 := Lib.hid (show Ok w0 wb13 b g from ⟨HO13.out.lok, HO13.out.fr.fresh hfb13 (fun i e => by have := HO13.out.hb; omega), HO13.out.hb, HO13.out.hg⟩)
      
      clear hfb13 hbb13 HX13 HZ13 HL13 HF13 HO13))
  have HR14 := HR13
  clear HR13
  rcases (amt_cases (gt (fs.map (·.1)) 8)).symm with ⟨hv, hp⟩ | ⟨s, hv, hp⟩
  · have hR14 := HR14.out
    rw [hp] at hR14
    simp only [req_none, bind_err] at hR14
    subst hR14
    refine (takeI_err 170 (fun a W => Tryz.call170 a W) #[] #[strV (gt (fs.map (·.1)) 8)] _ b g fs 8 (by omega) HL14.out rfl 0 7 (by decide) (by intro W f; with_reducible exact amount_any _ (by have := HG.out 8; omega) W _ _ hv)).mono ?_
    rintro e wn ⟨rfl, hfn⟩
    have HFn := Lib.hid hfn
    clear hfn
    go_wp2_with fail
    exact ⟨rfl, rfl, fr_bb HF14.out (fr_b HFn.out)⟩
  have hR14 := HR14.out
  rw [hp] at hR14
  simp only [req_some, bind_ok] at hR14
  refine (takeI_at 170 (fun a W => Tryz.call170 a W) #[] #[strV (gt (fs.map (·.1)) 8)] _ b g fs 8 (by omega) HL14.out rfl HO14.out.hg s (by intro W f; with_reducible exact amount_any _ (by have := HG.out 8; omega) W _ _ hv)).mono ?_
  rintro e wa14 ⟨rfl, hl14, hfa14⟩
  have HX15 := Lib.hid (hfa14.blk HX14.out (by omega))
  have HZ15 := Lib.hid (hfa14.blk HZ14.out (by omega))
  have HF15 := Lib.hid (fr_bb HF14.out hfa14)
  have HO15 := Lib.hid (HO14.out.on hfa14)
  have HL15 := Lib.hid hl14
  have HR15 := Lib.hid hR14
  clear hl14 hfa14 hR14 HR14 HL14 HX14 HZ14 HF14 HO14
  clear hv hp
  go_wp2_with (first
    | (
      refine wpList_store_cell 3 _ _ (w.heap.size + 1) 9 65 (ruleC ⟨(gt (fs.map (·.1)) 1), y, z, (n : Int), d, t, 0, []⟩) (ruleC ⟨(gt (fs.map (·.1)) 1), y, z, (n : Int), d, t, s, []⟩) (intV s) (by rfl) rfl rfl rfl rfl HX15.out info_int (by rfl) (show 9 < 11 by decide) (put_r9 _ _) ?_
      intro wb15 hfb15 hbb15
      have HX16 := Lib.hid hbb15
      have HZ16 := Lib.hid (hfb15.blk HZ15.out (by omega))
      have HL16 := Lib.hid (HL15.out.fr hfb15 (by omega) (by omega))
      have HF16 := Lib.hid (fr_more HF15.out hfb15 (fun i e => by omega))
      have HO16 := Lib.hid (show Ok w0 wb15 b g from ⟨HO15.out.lok, HO15.out.fr.fresh hfb15 (fun i e => by have := HO15.out.hb; omega), HO15.out.hb, HO15.out.hg⟩)
      
      clear hfb15 hbb15 HX15 HZ15 HL15 HF15 HO15))
  have HR16 := HR15
  clear HR15
  rcases (letter_cases (gt (fs.map (·.1)) 9)).symm with ⟨hv, hp⟩ | ⟨u, hv, hp⟩
  · have hR16 := HR16.out
    rw [hp] at hR16
    simp only [req_none, bind_err] at hR16
    subst hR16
    refine (takeS_err 171 (fun a W => Tryz.call171 a W) #[] #[strV (gt (fs.map (·.1)) 9)] _ b g fs 9 (by omega) HL16.out rfl (gt (fs.map (·.1)) 9) 15 (by decide) (by intro W f; with_reducible exact letter_any _ (HG.out 9) W _ _ hv)).mono ?_
    rintro e wn ⟨rfl, hfn⟩
    have HFn := Lib.hid hfn
    clear hfn
    go_wp2_with fail
    exact ⟨rfl, rfl, fr_bb HF16.out (fr_b HFn.out)⟩
  have hR16 := HR16.out
  rw [hp] at hR16
  simp only [req_some, bind_ok] at hR16
  refine (takeS_at 171 (fun a W => Tryz.call171 a W) #[] #[strV (gt (fs.map (·.1)) 9)] _ b g fs 9 (by omega) HL16.out rfl HO16.out.hg u (by intro W f; with_reducible exact letter_any _ (HG.out 9) W _ _ hv)).mono ?_
  rintro e wa16 ⟨rfl, hl16, hfa16⟩
  have HX17 := Lib.hid (hfa16.blk HX16.out (by omega))
  have HZ17 := Lib.hid (hfa16.blk HZ16.out (by omega))
  have HF17 := Lib.hid (fr_bb HF16.out hfa16)
  have HO17 := Lib.hid (HO16.out.on hfa16)
  have HL17 := Lib.hid hl16
  have HR17 := Lib.hid hR16
  clear hl16 hfa16 hR16 HR16 HL16 HX16 HZ16 HF16 HO16
  clear hv hp
  go_wp2_with (first
    | (
      refine wpList_store_cell 9 _ _ (w.heap.size + 1) 10 65 (ruleC ⟨(gt (fs.map (·.1)) 1), y, z, (n : Int), d, t, s, []⟩) (ruleC ⟨(gt (fs.map (·.1)) 1), y, z, (n : Int), d, t, s, u⟩) (strV u) (by rfl) rfl rfl rfl rfl HX17.out info_str (by rfl) (show 10 < 11 by decide) (put_r10 _ _) ?_
      intro wb17 hfb17 hbb17
      have HX18 := Lib.hid hbb17
      have HZ18 := Lib.hid (hfb17.blk HZ17.out (by omega))
      have HL18 := Lib.hid (HL17.out.fr hfb17 (by omega) (by omega))
      have HF18 := Lib.hid (fr_more HF17.out hfb17 (fun i e => by omega))
      have HO18 := Lib.hid (show Ok w0 wb17 b g from ⟨HO17.out.lok, HO17.out.fr.fresh hfb17 (fun i e => by have := HO17.out.hb; omega), HO17.out.hb, HO17.out.hg⟩)
      
      clear hfb17 hbb17 HX17 HZ17 HL17 HF17 HO17)
    | (refine wpList_load_blk 65 _ (w.heap.size + 1) 0 65 (ruleC ⟨(gt (fs.map (·.1)) 1), y, z, (n : Int), d, t, s, u⟩) (ruleC ⟨(gt (fs.map (·.1)) 1), y, z, (n : Int), d, t, s, u⟩) _ (by rfl) rfl rfl HX18.out Tryz.underlying65 rfl (infoR _) (zero_part _) ?_)
    | (
      refine wpList_store_blk 65 _ _ w.heap.size 0 65 (ruleC ruleZ) (ruleC ⟨(gt (fs.map (·.1)) 1), y, z, (n : Int), d, t, s, u⟩) (ruleC ⟨(gt (fs.map (·.1)) 1), y, z, (n : Int), d, t, s, u⟩) (by rfl) rfl rfl rfl rfl HZ18.out (infoR _) (ruleC_one _) (show 0 + 11 ≤ 11 by decide) (put_ra _ _) ?_
      intro we hfe hbe
      have HE := Lib.hid hbe
      have HFe := Lib.hid (fr_more HF18.out hfe (fun i e => by omega))
      have HLe := Lib.hid (HL18.out.fr hfe (by omega) (by omega))
      clear hfe hbe))
  have HR18 := HR17
  clear HR17
  have hRe := HR18.out
  subst hRe
  (try simp only [Exit.inBlock, Exit.then])
  exact bodyPost_ret (res_rule HE.out _ rfl) rfl ⟨rfl, HLe.out, HFe.out⟩
end Go.Proofs.YtodcnbejnchmhaaGreatDoor
