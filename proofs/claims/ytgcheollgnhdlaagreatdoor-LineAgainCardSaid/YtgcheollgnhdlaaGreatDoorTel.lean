import Derived.Test.YtgcheollgnhdlaaGreatDoorWos
namespace Go.Proofs.YtgcheollgnhdlaaGreatDoor
open Go.RowKit Go.Mem Go.Lin

theorem zoneName_any (l : Bs) (hl : l.length ≤ 100000) (W : World) (hw : LOk W) (k : Int) (h : (if Go.Kwd.zoneD l = true then 0 else 5) = k) : Calls Tryz.prog 47 #[strV l] W fun e w' => e = .returned (.tuple #[strV l, intV k]) ∧ Fr W w' (fun _ => False) := by
  obtain ⟨b, hb⟩ : ∃ b, Go.Kwd.zoneD l = b := ⟨_, rfl⟩
  have HZ := Lib.hid (zone_any l (by omega) W hw b hb)
  have HU := Lib.hid (fun W => unless_any b 5 W)
  rw [hb] at h
  rw [h] at HU
  clear hw h hb
  go_enter Tryz.func47, Tryz.ntmps47
  go_wp2_with fail
  refine HZ.out.mono ?_
  rintro e w2 ⟨rfl, hf2⟩
  have HF2 := Lib.hid hf2
  clear hf2
  go_wp2_with fail
  refine (HU.out _).mono ?_
  rintro e w3 ⟨rfl, rfl⟩
  go_wp2_with fail
  go_ret2
  exact ⟨rfl, HF2.out⟩
theorem ruleName_any (l : Bs) (hl : l.length ≤ 100000) (W : World) (k : Int) (h : (if Go.Kwd.ruleD l = true then 0 else 5) = k) : Calls Tryz.prog 61 #[strV l] W fun e w' => e = .returned (.tuple #[strV l, intV k]) ∧ Fr W w' (fun _ => False) := by
  obtain ⟨b, hb⟩ : ∃ b, Go.Kwd.ruleD l = b := ⟨_, rfl⟩
  have HZ := Lib.hid (rule_any l (by omega) W b hb)
  have HU := Lib.hid (fun W => unless_any b 5 W)
  rw [hb] at h
  rw [h] at HU
  clear h hb
  go_enter Tryz.func61, Tryz.ntmps61
  go_wp2_with fail
  refine HZ.out.mono ?_
  rintro e w2 ⟨rfl, hf2⟩
  have HF2 := Lib.hid hf2
  clear hf2
  go_wp2_with fail
  refine (HU.out _).mono ?_
  rintro e w3 ⟨rfl, rfl⟩
  go_wp2_with fail
  go_ret2
  exact ⟨rfl, HF2.out⟩
theorem dash_any (l : Bs) (W : World) (k : Int) (h : (if l = [45] then 0 else 3) = k) : Calls Tryz.prog 66 #[strV l] W fun e w' => e = .returned (.tuple #[strV l, intV k]) ∧ Fr W w' (fun _ => False) := by
  obtain ⟨b, hb⟩ : ∃ b, (l == [45]) = b := ⟨_, rfl⟩
  have HU := Lib.hid (fun W => unless_any b 3 W)
  rw [show (if b = true then (0 : Int) else 3) = k by
    rw [← h, ← hb]
    by_cases e : l = [45]
    · simp [e]
    · rw [if_neg e, if_neg (by simpa using e)]] at HU
  clear h
  go_enter Tryz.func66, Tryz.ntmps66
  go_wp2_with fail
  refine (HU.out _).mono ?_
  rintro e w3 ⟨rfl, rfl⟩
  go_wp2_with fail
  go_ret2
  exact ⟨rfl, Fr.refl _ _⟩
theorem monthF_any (l : Bs) (hl : l.length ≤ 100000) (W : World) (n : Nat) (hn : Go.Kwd.monthD l = n) (k : Int) (h : (if n = 0 then 6 else 0) = k) : Calls Tryz.prog 67 #[strV l] W fun e w' => e = .returned (.tuple #[intV (n : Int), intV k]) ∧ Fr W w' (fun _ => False) := by
  have HZ := Lib.hid (month_any l (by omega) W n hn)
  obtain ⟨b, hb⟩ : ∃ b, ((n : Int) != 0) = b := ⟨_, rfl⟩
  have HU := Lib.hid (fun W => unless_any b 6 W)
  rw [show (if b = true then (0 : Int) else 6) = k by
    rw [← h, ← hb]
    by_cases e : n = 0
    · simp [e]
    · rw [if_neg e, if_pos (by simpa using e)]] at HU
  have hb2 : ((n : Int) == 0) = !b := by rw [← hb]; simp [bne]
  clear h hn
  cases b
  all_goals
    go_enter Tryz.func67, Tryz.ntmps67
    go_wp2_with fail
    refine HZ.out.mono ?_
    rintro e w2 ⟨rfl, hf2⟩
    have HF2 := Lib.hid hf2
    clear hf2
    go_wp2_with fail
    refine (HU.out _).mono ?_
    rintro e w3 ⟨rfl, rfl⟩
    go_wp2_with fail
    go_ret2
    exact ⟨rfl, HF2.out⟩
def letterK (l : Bs) : Bs × Int := match letterP l with
  | some v => (v, 0)
  | none => (l, 15)
set_option maxHeartbeats 800000 in
theorem letter_any (l : Bs) (hl : l.length ≤ 100000) (W : World) (v : Bs) (k : Int) (h : letterK l = (v, k)) : Calls Tryz.prog 73 #[strV l] W fun e w' => e = .returned (.tuple #[strV v, intV k]) ∧ Fr W w' (fun _ => False) := by
  unfold letterK letterP at h
  by_cases h1 : l = [45]
  · rw [if_pos h1] at h
    obtain ⟨rfl, rfl⟩ := Prod.mk.inj h
    subst h1
    clear h
    go_enter Tryz.func73, Tryz.ntmps73
    go_wp2_with fail
    go_ret2
    exact ⟨rfl, Fr.refl _ _⟩
  · rw [if_neg h1] at h
    have hne : (l == [45]) = false := beq_eq_false_iff_ne.2 h1
    obtain ⟨b, hb⟩ : ∃ b, (decide (1 ≤ l.length) && decide ((l.length : Int) ≤ 6)) = b := ⟨_, rfl⟩
    obtain ⟨a, ha⟩ : ∃ a, l.all letB = a := ⟨_, rfl⟩
    have HB := Lib.hid (fun W => fits_any l 6 W b hb)
    have HA := Lib.hid (fun W => conL_any ⟨l.toArray⟩ W (by rw [str_size]; omega) a ha)
    have hv : v = l ∧ k = if (b && a) = true then 0 else 15 := by
      by_cases h2 : 1 ≤ l.length ∧ l.length ≤ 6 ∧ l.all letB = true
      · rw [if_pos h2] at h
        obtain ⟨rfl, rfl⟩ := Prod.mk.inj h
        refine ⟨rfl, ?_⟩
        rw [← hb, ← ha, h2.2.2, decide_eq_true h2.1, decide_eq_true (show (l.length : Int) ≤ 6 by omega)]
        rfl
      · rw [if_neg h2] at h
        obtain ⟨rfl, rfl⟩ := Prod.mk.inj h
        refine ⟨rfl, ?_⟩
        rw [if_neg (fun e => h2 ?_)]
        rw [← hb, ← ha] at e
        simp only [Bool.and_eq_true, decide_eq_true_eq] at e
        exact ⟨e.1.1, by omega, e.2⟩
    obtain ⟨rfl, rfl⟩ := hv
    have HU := Lib.hid (fun W => unless_any (b && a) 15 W)
    obtain ⟨k, hk⟩ : ∃ k, (if (b && a) = true then (0 : Int) else 15) = k := ⟨_, rfl⟩
    rw [hk] at HU ⊢
    clear h hb ha h1 hk
    cases b with
    | false =>
      clear HA
      go_enter Tryz.func73, Tryz.ntmps73
      go_wp2_with fail
      refine (HB.out _).mono ?_
      rintro e w2 ⟨rfl, rfl⟩
      go_wp2_with fail
      refine (HU.out _).mono ?_
      rintro e w3 ⟨rfl, rfl⟩
      go_wp2_with fail
      go_ret2
      exact ⟨rfl, Fr.refl _ _⟩
    | true =>
      rw [Bool.true_and] at HU
      go_enter Tryz.func73, Tryz.ntmps73
      go_wp2_with fail
      refine (HB.out _).mono ?_
      rintro e w2 ⟨rfl, rfl⟩
      go_wp2_with fail
      refine (HA.out _).mono ?_
      rintro e w2 ⟨rfl, rfl⟩
      go_wp2_with fail
      refine (HU.out _).mono ?_
      rintro e w3 ⟨rfl, rfl⟩
      go_wp2_with fail
      go_ret2
      exact ⟨rfl, Fr.refl _ _⟩
set_option maxHeartbeats 800000 in
theorem format_any (l : Bs) (hl : l.length ≤ 100000) (W : World) (hw : LOk W) (k : Int) (h : (if formatB l = true then 0 else 15) = k) : Calls Tryz.prog 78 #[strV l] W fun e w' => e = .returned (.tuple #[strV l, intV k]) ∧ Fr W w' (fun _ => False) := by
  obtain ⟨b, hb⟩ : ∃ b, (decide (1 ≤ l.length) && decide ((l.length : Int) ≤ 20)) = b := ⟨_, rfl⟩
  obtain ⟨t, ht⟩ : ∃ t, withoutD slotW l = t := ⟨_, rfl⟩
  obtain ⟨a, ha⟩ : ∃ a, t.all signB = a := ⟨_, rfl⟩
  have htl : t.length ≤ 100000 := by rw [← ht]; exact Nat.le_trans (without_len l slotW) hl
  have HB := Lib.hid (fun W => fits_any l 20 W b hb)
  have HT := Lib.hid (without_any l hl W hw t ht)
  have HA := Lib.hid (fun W => conF_any ⟨t.toArray⟩ W (by rw [str_size]; omega) a ha)
  have HU := Lib.hid (fun W => unless_any (b && a) 15 W)
  rw [show (if (b && a) = true then (0 : Int) else 15) = k by
    rw [← h, format_eq, ← hb, ht, ha]
    congr 1
    by_cases h1 : 1 ≤ l.length
    · by_cases h2 : l.length ≤ 20
      · simp [h1, h2, show (l.length : Int) ≤ 20 by omega]
      · simp [h2, show ¬ (l.length : Int) ≤ 20 by omega]
    · simp [h1]] at HU
  clear h hb ha ht hw
  cases b with
  | false =>
    clear HA HT
    go_enter Tryz.func78, Tryz.ntmps78
    go_wp2_with fail
    refine (HB.out _).mono ?_
    rintro e w2 ⟨rfl, rfl⟩
    go_wp2_with fail
    refine (HU.out _).mono ?_
    rintro e w3 ⟨rfl, rfl⟩
    go_wp2_with fail
    go_ret2
    exact ⟨rfl, Fr.refl _ _⟩
  | true =>
    rw [Bool.true_and] at HU
    go_enter Tryz.func78, Tryz.ntmps78
    go_wp2_with fail
    refine (HB.out _).mono ?_
    rintro e w2 ⟨rfl, rfl⟩
    go_wp2_with fail
    refine HT.out.mono ?_
    rintro e w2 ⟨rfl, hf2⟩
    have HF2 := Lib.hid hf2
    clear hf2
    go_wp2_with fail
    refine (HA.out _).mono ?_
    rintro e w4 ⟨rfl, rfl⟩
    go_wp2_with fail
    refine (HU.out _).mono ?_
    rintro e w3 ⟨rfl, rfl⟩
    go_wp2_with fail
    go_ret2
    exact ⟨rfl, HF2.out⟩
theorem rruleTo_any (l : Bs) (hl : l.length ≤ 100000) (r : RuleL) (q : Nat) (W : World) (hw : LOk W) (hb : Blk W q 27 (ruleC r)) (y k : Int) (h : toV l r.fr = (y, k)) : Calls Tryz.prog 64 #[strV l, .pointer (some ⟨q, 0, none⟩)] W fun e w' => e = .returned (.tuple #[intV y, intV k]) ∧ Fr W w' (fun _ => False) := by
  have HC := Lib.hid (to_any l r.fr hl W hw y k h)
  have c1 := blk_cell hb 1 (intV r.fr) rfl
  clear hw hb h
  go_enter Tryz.func64, Tryz.ntmps64
  go_wp2_with fail
  refine HC.out.mono ?_
  rintro e w2 ⟨rfl, hf2⟩
  have HF2 := Lib.hid hf2
  clear hf2
  go_wp2_with fail
  go_ret2
  exact ⟨rfl, HF2.out⟩
end Go.Proofs.YtgcheollgnhdlaaGreatDoor
