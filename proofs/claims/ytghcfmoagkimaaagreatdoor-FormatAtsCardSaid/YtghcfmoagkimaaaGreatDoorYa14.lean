import Derived.Test.YtghcfmoagkimaaaGreatDoorYa13
import Derived.Deep.RegionHeld3
import Derived.Test.YtghcfmoagkimaaaGreatDoorYa08
import Derived.Test.YtghcfmoagkimaaaGreatDoorYa12
import Derived.Test.YtghcfmoagkimaaaGreatDoorCards
import Derived.Test.YtghcfmoagkimaaaGreatDoorTie
import Derived.ShutString
import Derived.ChangeOld
import Derived.ChangeMaps5
import Derived.ProofKit
import Derived.OpenShut
import Derived.JoinedCond
import Derived.Deep.DeepHandedRow
import Derived.Deep.DeepWitnessRowRef
import Derived.Lib.LaidTab
import Derived.Lay
import Derived.LaidLaws
namespace Go.Proofs.YtghcfmoagkimaaaGreatDoor.S6
open Go.RowKit Go.Mem Go.Civil

theorem tmod_gt {n c : Int} (h : n < 0) (hc : 0 < c) : -c < n.tmod c := by
  have e1 : n.tmod c = -((-n) % c) := by
    have := Int.neg_tmod (-n) c
    rw [Int.neg_neg, Int.tmod_eq_emod_of_nonneg (a := -n) (by omega)] at this
    exact this
  have b2 := Int.emod_lt_of_pos (-n) hc
  omega
theorem rWeek_any (n : Int) (w : World) (hn : inRange n) : Calls Tryz.prog 103 #[.int .i64 n] w fun e w' => e = .returned (.int .i64 ((n + 4) % 7)) ∧ w = w' := by
  unfold inRange at hn
  by_cases h : n < 0
  · have hp := neg_parts h (show (0 : Int) < 7 by omega)
    have hg := tmod_gt h (show (0 : Int) < 7 by omega)
    have b : -7 < n.tmod 7 ∧ n.tmod 7 ≤ 0 := by omega
    have HE := Lib.hid (show (n.tmod 7 + 11) % 7 = (n + 4) % 7 by omega)
    have b2 : 0 ≤ n.tmod 7 + 11 := by omega
    clear hp hg
    go_enter Tryz.func103, Tryz.ntmps103
    go_wp2_with fail
    go_ret
    exact ret_int HE.out
  · have HE := Lib.hid (show (n + 11) % 7 = (n + 4) % 7 by omega)
    go_enter Tryz.func103, Tryz.ntmps103
    go_wp2_with fail
    go_ret
    exact ret_int HE.out
theorem rDays_any (y m d : Int) (w : World) :
    Calls Tryz.prog 102 #[.int .i64 y, .int .i64 m, .int .i64 d] w fun e w' => e = .returned (.tuple #[.int .i64 (daysK y m d), .int .i64 (daysE y m d)]) ∧ w = w' := by
  have HR := Lib.hid (rRight_any y m d w)
  unfold daysK daysE
  by_cases h : rightB y m d = true
  · rw [h] at HR
    rw [if_pos h, if_pos h]
    have hb := rightB_iff.1 h
    have hnum : numD y m d = begD y + sumM y (m - 1).toNat + (d - 1) := rfl
    have HB := Lib.hid (rYear_any y w (by omega))
    have hbr := begD_range (y := y) (by omega)
    have hle := longI_le y m
    obtain ⟨j, rfl⟩ : ∃ j : Nat, m = (j : Int) + 1 := ⟨(m - 1).toNat, by omega⟩
    rw [show ((j : Int) + 1 - 1).toNat = j by omega] at hnum
    have hb1 : 1 ≤ d ∧ d ≤ 31 ∧ (j : Int) ≤ 11 := by omega
    rw [hnum]
    have HL := Lib.hid (fun i => rLong_any y i w)
    have HN : Hid (∀ k : Nat, k ≤ 12 → 0 ≤ sumM y k ∧ sumM y k ≤ 366) := Lib.hid (sumM_le y)
    generalize begD y = B at *
    clear h hb hnum hle
    go_enter Tryz.func102, Tryz.ntmps102
    go_wp2_with fail
    refine HR.out.mono ?_
    rintro e w' ⟨rfl, rfl⟩
    go_wp2_with fail
    refine HB.out.mono ?_
    rintro e w' ⟨rfl, rfl⟩
    go_wp2_with fail
    go_loop [8, 9] (fun v8 v9 => ∃ k : Nat, k ≤ j ∧ v8 = .int .i64 (B + sumM y k) ∧ v9 = .int .i64 ((k : Int) + 1)) (fun _ v9 => j + 1 - (intOf v9).toNat)
    case atStart => exact ⟨0, Nat.zero_le _, by simp [sumM], rfl⟩
    case round =>
      obtain ⟨k, hk, rfl, rfl⟩ := hrel
      by_cases hlt : k < j
      · have hs := HN.out k (by omega)
        have hs2 := HN.out (k + 1) (by omega)
        have hst := sumM_step y k
        have HS := Lib.hid hst
        have HC := Lib.hid (HL.out ((k : Int) + 1))
        have h1 : (k : Int) < (j : Int) := by omega
        have h2 : (k : Int) + 1 < (j : Int) + 1 := by omega
        have hle := longI_le y ((k : Int) + 1)
        generalize longI y ((k : Int) + 1) = L at *
        generalize sumM y k = S at *
        clear hst
        go_wp2_with fail
        refine HC.out.mono ?_
        rintro e w' ⟨rfl, rfl⟩
        go_wp2_with fail
        go_round
        case rel => exact ⟨k + 1, by omega, by rw [HS.out]; congr 1; omega, by go_num⟩
        case measure => simp [intOf]; omega
      · obtain rfl : k = j := by omega
        have hs := HN.out k (by omega)
        go_wp2_with fail
        go_ret2
        exact ret_two (P := fun w' => w = w') (by omega) rfl rfl
  · rw [if_neg h, if_neg h]
    simp only [Bool.not_eq_true] at h
    rw [h] at HR
    clear h
    go_enter Tryz.func102, Tryz.ntmps102
    go_wp2_with fail
    refine HR.out.mono ?_
    rintro e w' ⟨rfl, rfl⟩
    go_wp2_with fail
    go_ret2
    exact ⟨rfl, rfl⟩
end Go.Proofs.YtghcfmoagkimaaaGreatDoor.S6
namespace Go.Proofs.YtghcfmoagkimaaaGreatDoor.S6
open Go.RowKit Go.Mem Go.Dfm

theorem rright_any (k d q : Int) (w : World) : Calls Tryz.prog 100 #[dayV k d q] w fun e w' => e = .returned (.bool (rightB k d q)) ∧ Fr w w' (fun _ => False) := by
  obtain ⟨b, hb⟩ : ∃ b, rightB k d q = b := ⟨_, rfl⟩
  have HB := Lib.hid (show b = true ↔ rightP k d q by rw [← hb]; exact rightB_iff)
  rw [hb]
  clear hb
  go_enter Tryz.func100, Tryz.ntmps100
  go_wp2_with fail
  all_goals
    go_ret
    refine ret_bf ?_ (Fr.new _ _ _)
    have hb := HB.out
    rw [Bool.eq_iff_iff, hb]
    simp [rightP]
    try (simp only [beq_iff_eq, beq_eq_false_iff_ne, ne_eq] at *; omega)
end Go.Proofs.YtghcfmoagkimaaaGreatDoor.S6
namespace Go.Proofs.YtghcfmoagkimaaaGreatDoor.S6
open Go.RowKit Go.Mem Go.Dfm

theorem between_any (a b : Int) (w : World) (ha : 0 ≤ a ∧ a < 7) (hb : 0 ≤ b ∧ b < 7) : Calls Tryz.prog 113 #[.int .i64 a, .int .i64 b] w fun e w' => e = .returned (.int .i64 ((b - a + 7) % 7)) ∧ w = w' := by
  obtain ⟨ha0, ha1⟩ := ha
  obtain ⟨hb0, hb1⟩ := hb
  have h1 : 0 ≤ b - a + 7 := by omega
  go_enter Tryz.func113, Tryz.ntmps113
  go_wp2_with fail
  go_ret
  exact ⟨rfl, rfl⟩
theorem begin_day (k d q y m : Int) (w : World) (hw : WOk w) : Calls Tryz.prog 112 #[dayV k d q, .int .i64 y, .int .i64 m] w fun e w' => e = .returned (.int .i64 (if k = 1 then Go.Civil.longI y m else d)) ∧ Fr w w' (fun _ => False) := by
  have HL := Lib.hid (fun (W : World) (f : Fr w W (fun _ => False)) => Long_any y m W (hw.fr f).lok)
  clear hw
  by_cases h : k = 1
  · rw [if_pos h]
    subst h
    go_enter Tryz.func112, Tryz.ntmps112
    go_wp2_with fail
    refine (HL.out _ (Fr.new _ _ _)).mono ?_
    rintro e w2 ⟨rfl, rfl⟩
    go_wp2_with fail
    go_ret
    exact ⟨rfl, Fr.new _ _ _⟩
  · rw [if_neg h]
    have h1 : (k == 1) = false := beq_eq_false_iff_ne.2 h
    clear h HL
    go_enter Tryz.func112, Tryz.ntmps112
    go_wp2_with fail
    go_ret
    exact ⟨rfl, Fr.new _ _ _⟩
end Go.Proofs.YtghcfmoagkimaaaGreatDoor.S6
namespace Go.Proofs.YtghcfmoagkimaaaGreatDoor.S6
open Go.RowKit Go.Mem Go.Dfm

def dayOf (k d y m : Int) : Int := if k = 1 then Go.Civil.longI y m else d
/-- what Of answers -/
def ofD (k d q y m : Int) : Int × Int :=
  if rightB k d q = true then
    if daysE y m (dayOf k d y m) = 0 then
      (if k = 2 then daysK y m (dayOf k d y m) + (q - (daysK y m (dayOf k d y m) + 4) % 7 + 7) % 7
       else if k = 0 then daysK y m (dayOf k d y m)
       else daysK y m (dayOf k d y m) - ((daysK y m (dayOf k d y m) + 4) % 7 - q + 7) % 7, 0)
    else (0, 6)
  else (0, 1)
def OfR (n j : Int) (w : World) (e : Ending) (w' : World) : Prop := e = .returned (.tuple #[.int .i64 n, .int .i64 j]) ∧ Fr w w' (fun _ => False)
theorem daysE_is (y m d : Int) : daysE y m d = 0 ∨ daysE y m d = 6 := by unfold daysE; split <;> simp
theorem daysK_range (y m d : Int) : -4371587 ≤ daysK y m d ∧ daysK y m d ≤ 2932897 := by
  unfold daysK
  split
  · rename_i h
    have := Go.Civil.numD_range h
    omega
  · omega
theorem daysK_no {y m d : Int} (h : daysE y m d ≠ 0) : daysK y m d = 0 := by
  unfold daysE at h
  unfold daysK
  split at h
  · exact absurd rfl h
  · rename_i h'
    rw [if_neg h']
theorem of_bad (k d q y m : Int) (w : World) (h : rightB k d q = false) : Calls Tryz.prog 85 #[dayV k d q, .int .i64 y, .int .i64 m] w (OfR 0 1 w) := by
  have HT := Lib.hid (fun W => right_any k d q W)
  rw [h] at HT
  clear h
  go_enter Tryz.func85, Tryz.ntmps85
  go_wp2_with fail
  refine (HT.out _).mono ?_
  rintro e w2 ⟨rfl, hf2⟩
  have HF2 := Lib.hid (ff (Fr.new w _ _) hf2)
  clear hf2
  go_wp2_with fail
  go_ret2
  exact ⟨rfl, HF2.out⟩
theorem quiet_week (n : Int) (hn : inRange n) (W : World) (i : Nat) : Calls Tryz.prog 114 #[.int .i64 n] (W.drewN i) fun e w' => e = .returned (.int .i64 ((n + 4) % 7)) ∧ ∃ j, w' = W.drewN j :=
  Calls.quiet_of ((Week_any n (W.drewN i) hn).mono fun _ _ h => ⟨h.1, 1, h.2⟩)
theorem quiet_between (a b : Int) (ha : 0 ≤ a ∧ a < 7) (hb : 0 ≤ b ∧ b < 7) (W : World) (i : Nat) : Calls Tryz.prog 113 #[.int .i64 a, .int .i64 b] (W.drewN i) fun e w' => e = .returned (.int .i64 ((b - a + 7) % 7)) ∧ ∃ j, w' = W.drewN j :=
  (between_any a b (W.drewN i) ha hb).mono fun _ _ h => ⟨h.1, i, h.2.symm⟩
-- walks
set_option maxHeartbeats 1600000 in
theorem of_none (k d q y m : Int) (w : World) (hw : WOk w) (h : rightB k d q = true) (he : daysE y m (dayOf k d y m) = 6) : Calls Tryz.prog 85 #[dayV k d q, .int .i64 y, .int .i64 m] w (OfR 0 6 w) := by
  have HT := Lib.hid (fun W => right_any k d q W)
  rw [h] at HT
  have HB := Lib.hid (Blk.made w 42 #[.int .i64 k, .int .i64 d, .int .i64 q])
  have HG := Lib.hid (fun (W : World) (f : Fr w W (fun _ => False)) => begin_day k d q y m W (hw.fr f))
  rw [show (if k = 1 then Go.Civil.longI y m else d) = dayOf k d y m from rfl] at HG
  have HD := Lib.hid (fun (W : World) (f : Fr w W (fun _ => False)) => Days_any y m (dayOf k d y m) W (hw.fr f).lok)
  rw [he] at HD
  rw [daysK_no (by rw [he]; decide)] at HD
  clear he
  generalize dayOf k d y m = D at *
  clear h hw
  go_enter Tryz.func85, Tryz.ntmps85
  go_wp2_with fail
  refine (HT.out _).mono ?_
  rintro e w2 ⟨rfl, hf2⟩
  have hfr2 := ff (Fr.new w _ _) hf2
  have HF2 := Lib.hid hfr2
  have hb2 := hf2.blk HB.out (fun h => h)
  have c0 := cell_at hb2 0
  have c1 := cell_at hb2 1
  have c2 := cell_at hb2 2
  simp at c0 c1 c2
  have HB2 := Lib.hid hb2
  clear hf2 hb2 hfr2
  go_wp2_with fail
  refine (HG.out _ HF2.out).mono ?_
  rintro e w3 ⟨rfl, hf3⟩
  have HF3 := Lib.hid (ff HF2.out hf3)
  have HB3 := Lib.hid (hf3.blk HB2.out (fun h => h))
  clear hf3
  go_wp2_with fail
  refine (HD.out _ HF3.out).mono ?_
  rintro e w4 ⟨rfl, hf4⟩
  have HF4 := Lib.hid (ff HF3.out hf4)
  have hb4 := hf4.blk HB3.out (fun h => h)
  have c0 := cell_at hb4 0
  have c1 := cell_at hb4 1
  have c2 := cell_at hb4 2
  simp at c0 c1 c2
  clear hf4 hb4
  go_wp2_with fail
  go_ret2
  exact ⟨rfl, HF4.out⟩
set_option maxHeartbeats 1600000 in
theorem of_0 (d y m : Int) (w : World) (hw : WOk w) (h : rightB 0 d 0 = true) (he : daysE y m d = 0) : Calls Tryz.prog 85 #[dayV 0 d 0, .int .i64 y, .int .i64 m] w (OfR (daysK y m d) 0 w) := by
  have HT := Lib.hid (fun W => right_any 0 d 0 W)
  rw [h] at HT
  have HB := Lib.hid (Blk.made w 42 #[.int .i64 0, .int .i64 d, .int .i64 0])
  have HG := Lib.hid (fun (W : World) (f : Fr w W (fun _ => False)) => begin_day 0 d 0 y m W (hw.fr f))
  rw [if_neg (by decide)] at HG
  have HD := Lib.hid (fun (W : World) (f : Fr w W (fun _ => False)) => Days_any y m d W (hw.fr f).lok)
  rw [he] at HD
  clear he
  generalize daysK y m d = K at *
  clear h hw
  go_enter Tryz.func85, Tryz.ntmps85
  go_wp2_with fail
  refine (HT.out _).mono ?_
  rintro e w2 ⟨rfl, hf2⟩
  have hfr2 := ff (Fr.new w _ _) hf2
  have HF2 := Lib.hid hfr2
  have hb2 := hf2.blk HB.out (fun h => h)
  have c0 := cell_at hb2 0
  have c1 := cell_at hb2 1
  have c2 := cell_at hb2 2
  simp at c0 c1 c2
  have HB2 := Lib.hid hb2
  clear hf2 hb2 hfr2
  go_wp2_with fail
  refine (HG.out _ HF2.out).mono ?_
  rintro e w3 ⟨rfl, hf3⟩
  have HF3 := Lib.hid (ff HF2.out hf3)
  have HB3 := Lib.hid (hf3.blk HB2.out (fun h => h))
  clear hf3
  go_wp2_with fail
  refine (HD.out _ HF3.out).mono ?_
  rintro e w4 ⟨rfl, hf4⟩
  have HF4 := Lib.hid (ff HF3.out hf4)
  have hb4 := hf4.blk HB3.out (fun h => h)
  have c0 := cell_at hb4 0
  have c1 := cell_at hb4 1
  have c2 := cell_at hb4 2
  simp at c0 c1 c2
  clear hf4 hb4
  go_wp2_with fail
  go_ret2
  exact ⟨rfl, HF4.out⟩
set_option maxHeartbeats 1600000 in
theorem of_2 (d q y m : Int) (w : World) (hw : WOk w) (h : rightB 2 d q = true) (he : daysE y m d = 0) (hq : 0 ≤ q ∧ q < 7) : Calls Tryz.prog 85 #[dayV 2 d q, .int .i64 y, .int .i64 m] w (OfR (daysK y m d + (q - (daysK y m d + 4) % 7 + 7) % 7) 0 w) := by
  have HT := Lib.hid (fun W => right_any 2 d q W)
  rw [h] at HT
  have HB := Lib.hid (Blk.made w 42 #[.int .i64 2, .int .i64 d, .int .i64 q])
  have HG := Lib.hid (fun (W : World) (f : Fr w W (fun _ => False)) => begin_day 2 d q y m W (hw.fr f))
  rw [if_neg (by decide)] at HG
  have HD := Lib.hid (fun (W : World) (f : Fr w W (fun _ => False)) => Days_any y m d W (hw.fr f).lok)
  have hK := daysK_range y m d
  have HWK := Lib.hid (fun W i => quiet_week (daysK y m d) (by unfold inRange; omega) W i)
  have HBE := Lib.hid (fun W i => quiet_between ((daysK y m d + 4) % 7) q (by omega) (by omega) W i)
  rw [he] at HD
  clear he
  have hwk : 0 ≤ (daysK y m d + 4) % 7 ∧ (daysK y m d + 4) % 7 < 7 := by omega
  generalize (daysK y m d + 4) % 7 = W0 at *
  generalize daysK y m d = K at *
  have hbt : 0 ≤ (q - W0 + 7) % 7 ∧ (q - W0 + 7) % 7 < 7 := by omega
  generalize (q - W0 + 7) % 7 = V at *
  clear h hw
  go_enter Tryz.func85, Tryz.ntmps85
  go_wp2_with fail
  refine (HT.out _).mono ?_
  rintro e w2 ⟨rfl, hf2⟩
  have hfr2 := ff (Fr.new w _ _) hf2
  have HF2 := Lib.hid hfr2
  have hb2 := hf2.blk HB.out (fun h => h)
  have c0 := cell_at hb2 0
  have c1 := cell_at hb2 1
  have c2 := cell_at hb2 2
  simp at c0 c1 c2
  have HB2 := Lib.hid hb2
  clear hf2 hb2 hfr2
  go_wp2_with fail
  refine (HG.out _ HF2.out).mono ?_
  rintro e w3 ⟨rfl, hf3⟩
  have HF3 := Lib.hid (ff HF2.out hf3)
  have HB3 := Lib.hid (hf3.blk HB2.out (fun h => h))
  clear hf3
  go_wp2_with fail
  refine (HD.out _ HF3.out).mono ?_
  rintro e w4 ⟨rfl, hf4⟩
  have HF4 := Lib.hid (ff HF3.out hf4)
  have hb4 := hf4.blk HB3.out (fun h => h)
  have c0 := cell_at hb4 0
  have c1 := cell_at hb4 1
  have c2 := cell_at hb4 2
  simp at c0 c1 c2
  clear hf4 hb4
  go_wp2_with fail
  go_quiet ((first | with_reducible exact HWK.out _ _ | with_reducible exact HBE.out _ _))
  go_wp2_with fail
  go_ret2
  exact ⟨rfl, ff HF4.out (Fr.drewN _ _ _)⟩
set_option maxHeartbeats 1600000 in
theorem of_1 (q y m : Int) (w : World) (hw : WOk w) (h : rightB 1 0 q = true) (he : daysE y m (Go.Civil.longI y m) = 0) (hq : 0 ≤ q ∧ q < 7) : Calls Tryz.prog 85 #[dayV 1 0 q, .int .i64 y, .int .i64 m] w (OfR (daysK y m (Go.Civil.longI y m) - ((daysK y m (Go.Civil.longI y m) + 4) % 7 - q + 7) % 7) 0 w) := by
  have HT := Lib.hid (fun W => right_any 1 0 q W)
  rw [h] at HT
  have HB := Lib.hid (Blk.made w 42 #[.int .i64 1, .int .i64 0, .int .i64 q])
  have HG := Lib.hid (fun (W : World) (f : Fr w W (fun _ => False)) => begin_day 1 0 q y m W (hw.fr f))
  rw [if_pos rfl] at HG
  have HD := Lib.hid (fun (W : World) (f : Fr w W (fun _ => False)) => Days_any y m (Go.Civil.longI y m) W (hw.fr f).lok)
  have hK := daysK_range y m (Go.Civil.longI y m)
  have HWK := Lib.hid (fun W i => quiet_week (daysK y m (Go.Civil.longI y m)) (by unfold inRange; omega) W i)
  have HBE := Lib.hid (fun W i => quiet_between q ((daysK y m (Go.Civil.longI y m) + 4) % 7) (by omega) (by omega) W i)
  rw [he] at HD
  clear he
  have hwk : 0 ≤ (daysK y m (Go.Civil.longI y m) + 4) % 7 ∧ (daysK y m (Go.Civil.longI y m) + 4) % 7 < 7 := by omega
  generalize (daysK y m (Go.Civil.longI y m) + 4) % 7 = W0 at *
  generalize daysK y m (Go.Civil.longI y m) = K at *
  have hbt : 0 ≤ (W0 - q + 7) % 7 ∧ (W0 - q + 7) % 7 < 7 := by omega
  generalize (W0 - q + 7) % 7 = V at *
  generalize Go.Civil.longI y m = L at *
  clear h hw
  go_enter Tryz.func85, Tryz.ntmps85
  go_wp2_with fail
  refine (HT.out _).mono ?_
  rintro e w2 ⟨rfl, hf2⟩
  have hfr2 := ff (Fr.new w _ _) hf2
  have HF2 := Lib.hid hfr2
  have hb2 := hf2.blk HB.out (fun h => h)
  have c0 := cell_at hb2 0
  have c1 := cell_at hb2 1
  have c2 := cell_at hb2 2
  simp at c0 c1 c2
  have HB2 := Lib.hid hb2
  clear hf2 hb2 hfr2
  go_wp2_with fail
  refine (HG.out _ HF2.out).mono ?_
  rintro e w3 ⟨rfl, hf3⟩
  have HF3 := Lib.hid (ff HF2.out hf3)
  have HB3 := Lib.hid (hf3.blk HB2.out (fun h => h))
  clear hf3
  go_wp2_with fail
  refine (HD.out _ HF3.out).mono ?_
  rintro e w4 ⟨rfl, hf4⟩
  have HF4 := Lib.hid (ff HF3.out hf4)
  have hb4 := hf4.blk HB3.out (fun h => h)
  have c0 := cell_at hb4 0
  have c1 := cell_at hb4 1
  have c2 := cell_at hb4 2
  simp at c0 c1 c2
  clear hf4 hb4
  go_wp2_with fail
  go_quiet ((first | with_reducible exact HWK.out _ _ | with_reducible exact HBE.out _ _))
  go_wp2_with fail
  go_ret2
  exact ⟨rfl, ff HF4.out (Fr.drewN _ _ _)⟩
set_option maxHeartbeats 1600000 in
theorem of_3 (d q y m : Int) (w : World) (hw : WOk w) (h : rightB 3 d q = true) (he : daysE y m d = 0) (hq : 0 ≤ q ∧ q < 7) : Calls Tryz.prog 85 #[dayV 3 d q, .int .i64 y, .int .i64 m] w (OfR (daysK y m d - ((daysK y m d + 4) % 7 - q + 7) % 7) 0 w) := by
  have HT := Lib.hid (fun W => right_any 3 d q W)
  rw [h] at HT
  have HB := Lib.hid (Blk.made w 42 #[.int .i64 3, .int .i64 d, .int .i64 q])
  have HG := Lib.hid (fun (W : World) (f : Fr w W (fun _ => False)) => begin_day 3 d q y m W (hw.fr f))
  rw [if_neg (by decide)] at HG
  have HD := Lib.hid (fun (W : World) (f : Fr w W (fun _ => False)) => Days_any y m d W (hw.fr f).lok)
  have hK := daysK_range y m d
  have HWK := Lib.hid (fun W i => quiet_week (daysK y m d) (by unfold inRange; omega) W i)
  have HBE := Lib.hid (fun W i => quiet_between q ((daysK y m d + 4) % 7) (by omega) (by omega) W i)
  rw [he] at HD
  clear he
  have hwk : 0 ≤ (daysK y m d + 4) % 7 ∧ (daysK y m d + 4) % 7 < 7 := by omega
  generalize (daysK y m d + 4) % 7 = W0 at *
  generalize daysK y m d = K at *
  have hbt : 0 ≤ (W0 - q + 7) % 7 ∧ (W0 - q + 7) % 7 < 7 := by omega
  generalize (W0 - q + 7) % 7 = V at *
  clear h hw
  go_enter Tryz.func85, Tryz.ntmps85
  go_wp2_with fail
  refine (HT.out _).mono ?_
  rintro e w2 ⟨rfl, hf2⟩
  have hfr2 := ff (Fr.new w _ _) hf2
  have HF2 := Lib.hid hfr2
  have hb2 := hf2.blk HB.out (fun h => h)
  have c0 := cell_at hb2 0
  have c1 := cell_at hb2 1
  have c2 := cell_at hb2 2
  simp at c0 c1 c2
  have HB2 := Lib.hid hb2
  clear hf2 hb2 hfr2
  go_wp2_with fail
  refine (HG.out _ HF2.out).mono ?_
  rintro e w3 ⟨rfl, hf3⟩
  have HF3 := Lib.hid (ff HF2.out hf3)
  have HB3 := Lib.hid (hf3.blk HB2.out (fun h => h))
  clear hf3
  go_wp2_with fail
  refine (HD.out _ HF3.out).mono ?_
  rintro e w4 ⟨rfl, hf4⟩
  have HF4 := Lib.hid (ff HF3.out hf4)
  have hb4 := hf4.blk HB3.out (fun h => h)
  have c0 := cell_at hb4 0
  have c1 := cell_at hb4 1
  have c2 := cell_at hb4 2
  simp at c0 c1 c2
  clear hf4 hb4
  go_wp2_with fail
  go_quiet ((first | with_reducible exact HWK.out _ _ | with_reducible exact HBE.out _ _))
  go_wp2_with fail
  go_ret2
  exact ⟨rfl, ff HF4.out (Fr.drewN _ _ _)⟩
theorem Of_any (k d q y m : Int) (w : World) (hw : WOk w) (n j : Int) (h : ofD k d q y m = (n, j)) : Calls Tryz.prog 85 #[dayV k d q, .int .i64 y, .int .i64 m] w (OfR n j w) := by
  unfold ofD at h
  by_cases hr : rightB k d q = true
  · rw [if_pos hr] at h
    by_cases he : daysE y m (dayOf k d y m) = 0
    · rw [if_pos he] at h
      injection h with h1 h2
      subst h2
      rcases rightB_iff.1 hr with ⟨rfl, a1, a2, rfl⟩ | ⟨rfl, rfl, a1, a2⟩ | ⟨hk, a1, a2, a3, a4⟩
      · rw [if_neg (by decide), if_pos rfl] at h1
        subst h1
        exact of_0 d y m w hw hr he
      · rw [if_neg (by decide), if_neg (by decide)] at h1
        subst h1
        exact of_1 q y m w hw hr he ⟨a1, a2⟩
      · rcases hk with rfl | rfl
        · rw [if_pos rfl] at h1
          subst h1
          exact of_2 d q y m w hw hr he ⟨a3, a4⟩
        · rw [if_neg (by decide), if_neg (by decide)] at h1
          subst h1
          exact of_3 d q y m w hw hr he ⟨a3, a4⟩
    · rw [if_neg he] at h
      injection h with h1 h2
      subst h1 h2
      exact of_none k d q y m w hw hr ((daysE_is _ _ _).resolve_left he)
  · rw [if_neg hr] at h
    injection h with h1 h2
    subst h1 h2
    exact of_bad k d q y m w (by simpa using hr)
end Go.Proofs.YtghcfmoagkimaaaGreatDoor.S6
namespace Go.Proofs.YtghcfmoagkimaaaGreatDoor.S6
open Go.RowKit Go.Mem Go.Dfm

theorem quiet_rweek4 (n : Int) (hn : inRange n) (W : World) (i : Nat) : Calls Tryz.prog 103 #[.int .i64 n] (W.drewN i) fun e w' => e = .returned (.int .i64 ((n + 4) % 7)) ∧ ∃ j, w' = W.drewN j :=
  (rWeek_any n _ hn).mono fun _ _ h => ⟨h.1, i, h.2.symm⟩
theorem rof4_bad (k d q y m : Int) (h : rightB k d q = false) (w : World) : Calls Tryz.prog 71 #[dayV k d q, .int .i64 y, .int .i64 m] w (OfR 0 1 w) := by
  have HT := Lib.hid (fun W => rright_any k d q W)
  rw [h] at HT
  have HF := Lib.hid (Fr.new w (.cells #[.int .i64 k, .int .i64 d, .int .i64 q] 42) (fun _ => False))
  clear h
  go_enter Tryz.func71, Tryz.ntmps71
  go_wp2_with fail
  refine (HT.out _).mono ?_
  rintro e w2 ⟨rfl, hf2⟩
  have HF2 := Lib.hid (ff HF.out hf2)
  clear hf2
  go_wp2_with fail
  go_ret2
  exact ⟨rfl, HF2.out⟩
theorem rof4_out (k d q y m : Int) (h : rightB k d q = true) (hr : Go.Civil.rightB y m 1 = false) (w : World) : Calls Tryz.prog 71 #[dayV k d q, .int .i64 y, .int .i64 m] w (OfR 0 6 w) := by
  have HT := Lib.hid (fun W => rright_any k d q W)
  rw [h] at HT
  have HF := Lib.hid (Fr.new w (.cells #[.int .i64 k, .int .i64 d, .int .i64 q] 42) (fun _ => False))
  have HL := Lib.hid (fun W => rLong_any y m W)
  have HR := Lib.hid (fun W => rRight_any y m 1 W)
  rw [hr] at HR
  clear h hr
  go_enter Tryz.func71, Tryz.ntmps71
  go_wp2_with fail
  refine (HT.out _).mono ?_
  rintro e w2 ⟨rfl, hf2⟩
  have HF2 := Lib.hid (ff HF.out hf2)
  clear hf2
  go_wp2_with fail
  refine (HL.out _).mono ?_
  rintro e w3 ⟨rfl, rfl⟩
  go_wp2_with fail
  refine (HR.out _).mono ?_
  rintro e w3 ⟨rfl, rfl⟩
  go_wp2_with fail
  go_ret2
  exact ⟨rfl, HF2.out⟩
theorem rof4_far (k d q y m : Int) (h : rightB k d q = true) (hr : Go.Civil.rightB y m 1 = true) (hd : Go.Civil.longI y m < d) (w : World) : Calls Tryz.prog 71 #[dayV k d q, .int .i64 y, .int .i64 m] w (OfR 0 6 w) := by
  have HT := Lib.hid (fun W => rright_any k d q W)
  rw [h] at HT
  have hf := Fr.new w (.cells #[.int .i64 k, .int .i64 d, .int .i64 q] 42) (fun _ => False)
  have HB := Lib.hid (Blk.made w 42 #[.int .i64 k, .int .i64 d, .int .i64 q])
  have HF := Lib.hid hf
  have HL := Lib.hid (fun W => rLong_any y m W)
  have HR := Lib.hid (fun W => rRight_any y m 1 W)
  rw [hr] at HR
  generalize Go.Civil.longI y m = L at *
  clear h hr hf
  go_enter Tryz.func71, Tryz.ntmps71
  go_wp2_with fail
  refine (HT.out _).mono ?_
  rintro e w2 ⟨rfl, hf2⟩
  have HF2 := Lib.hid (ff HF.out hf2)
  have c1 := cell_at (hf2.blk HB.out (fun h => h)) 1
  simp at c1
  clear hf2
  go_wp2_with fail
  refine (HL.out _).mono ?_
  rintro e w3 ⟨rfl, rfl⟩
  go_wp2_with fail
  refine (HR.out _).mono ?_
  rintro e w3 ⟨rfl, rfl⟩
  go_wp2_with fail
  go_ret2
  exact ⟨rfl, HF2.out⟩
theorem rof4_0 (d y m : Int) (h : rightB 0 d 0 = true) (hr : Go.Civil.rightB y m 1 = true) (hd : d ≤ Go.Civil.longI y m) (w : World) : Calls Tryz.prog 71 #[dayV 0 d 0, .int .i64 y, .int .i64 m] w (OfR (daysK y m d) 0 w) := by
  have HT := Lib.hid (fun W => rright_any 0 d 0 W)
  rw [h] at HT
  have hf := Fr.new w (.cells #[.int .i64 0, .int .i64 d, .int .i64 0] 42) (fun _ => False)
  have HB := Lib.hid (Blk.made w 42 #[.int .i64 0, .int .i64 d, .int .i64 0])
  have HF := Lib.hid hf
  have HL := Lib.hid (fun W => rLong_any y m W)
  have HR := Lib.hid (fun W => rRight_any y m 1 W)
  have HD := Lib.hid (fun W => rDays_any y m d W)
  rw [hr] at HR
  generalize Go.Civil.longI y m = L at *
  generalize daysK y m d = N at *
  generalize daysE y m d = E at *
  clear h hr hf
  go_enter Tryz.func71, Tryz.ntmps71
  go_wp2_with fail
  refine (HT.out _).mono ?_
  rintro e w2 ⟨rfl, hf2⟩
  have HF2 := Lib.hid (ff HF.out hf2)
  have c0 := cell_at (hf2.blk HB.out (fun h => h)) 0
  have c1 := cell_at (hf2.blk HB.out (fun h => h)) 1
  simp at c0 c1
  clear hf2
  go_wp2_with fail
  refine (HL.out _).mono ?_
  rintro e w3 ⟨rfl, rfl⟩
  go_wp2_with fail
  refine (HR.out _).mono ?_
  rintro e w3 ⟨rfl, rfl⟩
  go_wp2_with fail
  refine (HD.out _).mono ?_
  rintro e w3 ⟨rfl, rfl⟩
  go_wp2_with fail
  go_ret2
  exact ⟨rfl, HF2.out⟩
def RofJ (N q : Int) (w : World) (p : Nat) (cs : Array Value) (g : Nat) (v10 v12 : Value) (wr : World) : Prop := ∃ (i : Nat), i + g = 7 ∧ v12 = .int .i64 (i : Int) ∧ v10 = .int .i64 (N + i) ∧ (i : Int) ≤ (q - (N + 4) % 7 + 7) % 7 ∧ Blk wr p 42 cs ∧ Fr w wr (fun _ => False)
def RofJd (N q : Int) (w : World) (p : Nat) (cs : Array Value) (g : Nat) (v10 v12 : Value) (wr : World) : Prop := ∃ (i : Nat), i + g = 7 ∧ v12 = .int .i64 (i : Int) ∧ v10 = .int .i64 (N - i) ∧ (i : Int) ≤ ((N + 4) % 7 - q + 7) % 7 ∧ Blk wr p 42 cs ∧ Fr w wr (fun _ => False)
set_option maxHeartbeats 1600000 in
theorem rof4_1 (q y m : Int) (h : rightB 1 0 q = true) (hr : Go.Civil.rightB y m 1 = true) (hd : 0 ≤ Go.Civil.longI y m) (hq7 : 0 ≤ q ∧ q < 7) (w : World) : Calls Tryz.prog 71 #[dayV 1 0 q, .int .i64 y, .int .i64 m] w (OfR (daysK y m (Go.Civil.longI y m) - ((daysK y m (Go.Civil.longI y m) + 4) % 7 - q + 7) % 7) 0 w) := by
  have HT := Lib.hid (fun W => rright_any 1 0 q W)
  rw [h] at HT
  have hf := Fr.new w (.cells #[.int .i64 1, .int .i64 0, .int .i64 q] 42) (fun _ => False)
  have HB := Lib.hid (Blk.made w 42 #[.int .i64 1, .int .i64 0, .int .i64 q])
  have HF := Lib.hid hf
  have HL := Lib.hid (fun W => rLong_any y m W)
  have HR := Lib.hid (fun W => rRight_any y m 1 W)
  have HD := Lib.hid (fun W => rDays_any y m (Go.Civil.longI y m) W)
  have hn := daysK_range y m (Go.Civil.longI y m)
  rw [hr] at HR
  generalize daysK y m (Go.Civil.longI y m) = N at *
  generalize daysE y m (Go.Civil.longI y m) = E at *
  generalize Go.Civil.longI y m = L at *
  clear h hr hf
  go_enter Tryz.func71, Tryz.ntmps71
  go_wp2_with fail
  refine (HT.out _).mono ?_
  rintro e w2 ⟨rfl, hf2⟩
  have hb2 := hf2.blk HB.out (fun h => h)
  have c0 := cell_at hb2 0
  have c1 := cell_at hb2 1
  simp at c0 c1
  have HF2 := Lib.hid (ff HF.out hf2)
  have HB2 := Lib.hid hb2
  clear hf2 hb2
  go_wp2_with fail
  refine (HL.out _).mono ?_
  rintro e w3 ⟨rfl, rfl⟩
  go_wp2_with fail
  refine (HR.out _).mono ?_
  rintro e w3 ⟨rfl, rfl⟩
  go_wp2_with fail
  refine (HD.out _).mono ?_
  rintro e w3 ⟨rfl, rfl⟩
  go_wp2_with fail
  clear c0 c1
  go_loopg [10, 12] 7 (fun g v10 v12 wr => RofJd N q w w.heap.size #[.int .i64 1, .int .i64 0, .int .i64 q] g v10 v12 wr)
  case atStart => exact ⟨0, rfl, rfl, by simp, by omega, HB2.out, HF2.out⟩
  case round =>
    obtain ⟨i, hi, rfl, rfl, h1, hb, hf⟩ := hrel
    obtain ⟨n, hnv⟩ : ∃ n : Int, N - i = n := ⟨_, rfl⟩
    rw [hnv]
    have HBr := Lib.hid hb
    have HFr := Lib.hid hf
    have h7 := Int.emod_lt_of_pos ((N + 4) % 7 - q + 7) (show (0 : Int) < 7 by decide)
    by_cases hlt : i < 7
    · have i7 : (i : Int) < 7 := by omega
      have c0 := cell_at hb 0
      have c2 := cell_at hb 2
      simp at c0 c2
      have HWK := Lib.hid (fun W j => quiet_rweek4 n (by unfold inRange; omega) W j)
      have hn1 : -9000000 ≤ n ∧ n ≤ 9000000 := by omega
      obtain ⟨v, hv⟩ : ∃ v, (n + 4) % 7 = v := ⟨_, rfl⟩
      rw [hv] at HWK
      clear hb hf
      by_cases hq : v = q
      · subst hq
        have hN : n = N - ((N + 4) % 7 - v + 7) % 7 := by omega
        have HN := Lib.hid hN
        clear hnv hv h1 h7 hN
        go_wp2_with fail
        go_quiet (with_reducible exact HWK.out _ _)
        go_wp2_with fail
        go_ret2
        refine ⟨?_, ff HFr.out (Fr.drewN _ _ _)⟩
        rw [← HN.out]
        rfl
      · have hq2 : (v != q) = true := by simpa using hq
        have hi2 : (i : Int) + 1 ≤ ((N + 4) % 7 - q + 7) % 7 := by omega
        clear hq
        go_wp2_with fail
        go_quiet (with_reducible exact HWK.out _ _)
        go_wp2_with fail
        go_roundg (7 - (i + 1))
        case measure => omega
        case rel => exact ⟨i + 1, by omega, by go_num, (by subst hnv; go_num), by omega, (Fr.drewN _ _ (fun _ => False)).blk HBr.out (fun h => h), ff HFr.out (Fr.drewN _ _ _)⟩
    · exact absurd h1 (by omega)
set_option maxHeartbeats 1600000 in
theorem rof4_2 (d q y m : Int) (h : rightB 2 d q = true) (hr : Go.Civil.rightB y m 1 = true) (hd : d ≤ Go.Civil.longI y m) (hq7 : 0 ≤ q ∧ q < 7) (w : World) : Calls Tryz.prog 71 #[dayV 2 d q, .int .i64 y, .int .i64 m] w (OfR (daysK y m d + (q - (daysK y m d + 4) % 7 + 7) % 7) 0 w) := by
  have HT := Lib.hid (fun W => rright_any 2 d q W)
  rw [h] at HT
  have hf := Fr.new w (.cells #[.int .i64 2, .int .i64 d, .int .i64 q] 42) (fun _ => False)
  have HB := Lib.hid (Blk.made w 42 #[.int .i64 2, .int .i64 d, .int .i64 q])
  have HF := Lib.hid hf
  have HL := Lib.hid (fun W => rLong_any y m W)
  have HR := Lib.hid (fun W => rRight_any y m 1 W)
  have HD := Lib.hid (fun W => rDays_any y m (d) W)
  have hn := daysK_range y m (d)
  rw [hr] at HR
  generalize daysK y m (d) = N at *
  generalize daysE y m (d) = E at *
  generalize Go.Civil.longI y m = L at *
  clear h hr hf
  go_enter Tryz.func71, Tryz.ntmps71
  go_wp2_with fail
  refine (HT.out _).mono ?_
  rintro e w2 ⟨rfl, hf2⟩
  have hb2 := hf2.blk HB.out (fun h => h)
  have c0 := cell_at hb2 0
  have c1 := cell_at hb2 1
  simp at c0 c1
  have HF2 := Lib.hid (ff HF.out hf2)
  have HB2 := Lib.hid hb2
  clear hf2 hb2
  go_wp2_with fail
  refine (HL.out _).mono ?_
  rintro e w3 ⟨rfl, rfl⟩
  go_wp2_with fail
  refine (HR.out _).mono ?_
  rintro e w3 ⟨rfl, rfl⟩
  go_wp2_with fail
  refine (HD.out _).mono ?_
  rintro e w3 ⟨rfl, rfl⟩
  go_wp2_with fail
  clear c0 c1
  go_loopg [10, 12] 7 (fun g v10 v12 wr => RofJ N q w w.heap.size #[.int .i64 2, .int .i64 d, .int .i64 q] g v10 v12 wr)
  case atStart => exact ⟨0, rfl, rfl, by simp, by omega, HB2.out, HF2.out⟩
  case round =>
    obtain ⟨i, hi, rfl, rfl, h1, hb, hf⟩ := hrel
    obtain ⟨n, hnv⟩ : ∃ n : Int, N + i = n := ⟨_, rfl⟩
    rw [hnv]
    have HBr := Lib.hid hb
    have HFr := Lib.hid hf
    have h7 := Int.emod_lt_of_pos (q - (N + 4) % 7 + 7) (show (0 : Int) < 7 by decide)
    by_cases hlt : i < 7
    · have i7 : (i : Int) < 7 := by omega
      have c0 := cell_at hb 0
      have c2 := cell_at hb 2
      simp at c0 c2
      have HWK := Lib.hid (fun W j => quiet_rweek4 n (by unfold inRange; omega) W j)
      have hn1 : -9000000 ≤ n ∧ n ≤ 9000000 := by omega
      obtain ⟨v, hv⟩ : ∃ v, (n + 4) % 7 = v := ⟨_, rfl⟩
      rw [hv] at HWK
      clear hb hf
      by_cases hq : v = q
      · subst hq
        have hN : n = N + (v - (N + 4) % 7 + 7) % 7 := by omega
        have HN := Lib.hid hN
        clear hnv hv h1 h7 hN
        go_wp2_with fail
        go_quiet (with_reducible exact HWK.out _ _)
        go_wp2_with fail
        go_ret2
        refine ⟨?_, ff HFr.out (Fr.drewN _ _ _)⟩
        rw [← HN.out]
        rfl
      · have hq2 : (v != q) = true := by simpa using hq
        have hi2 : (i : Int) + 1 ≤ (q - (N + 4) % 7 + 7) % 7 := by omega
        clear hq
        go_wp2_with fail
        go_quiet (with_reducible exact HWK.out _ _)
        go_wp2_with fail
        go_roundg (7 - (i + 1))
        case measure => omega
        case rel => exact ⟨i + 1, by omega, by go_num, (by subst hnv; go_num), by omega, (Fr.drewN _ _ (fun _ => False)).blk HBr.out (fun h => h), ff HFr.out (Fr.drewN _ _ _)⟩
    · exact absurd h1 (by omega)
set_option maxHeartbeats 1600000 in
theorem rof4_3 (d q y m : Int) (h : rightB 3 d q = true) (hr : Go.Civil.rightB y m 1 = true) (hd : d ≤ Go.Civil.longI y m) (hq7 : 0 ≤ q ∧ q < 7) (w : World) : Calls Tryz.prog 71 #[dayV 3 d q, .int .i64 y, .int .i64 m] w (OfR (daysK y m d - ((daysK y m d + 4) % 7 - q + 7) % 7) 0 w) := by
  have HT := Lib.hid (fun W => rright_any 3 d q W)
  rw [h] at HT
  have hf := Fr.new w (.cells #[.int .i64 3, .int .i64 d, .int .i64 q] 42) (fun _ => False)
  have HB := Lib.hid (Blk.made w 42 #[.int .i64 3, .int .i64 d, .int .i64 q])
  have HF := Lib.hid hf
  have HL := Lib.hid (fun W => rLong_any y m W)
  have HR := Lib.hid (fun W => rRight_any y m 1 W)
  have HD := Lib.hid (fun W => rDays_any y m (d) W)
  have hn := daysK_range y m (d)
  rw [hr] at HR
  generalize daysK y m (d) = N at *
  generalize daysE y m (d) = E at *
  generalize Go.Civil.longI y m = L at *
  clear h hr hf
  go_enter Tryz.func71, Tryz.ntmps71
  go_wp2_with fail
  refine (HT.out _).mono ?_
  rintro e w2 ⟨rfl, hf2⟩
  have hb2 := hf2.blk HB.out (fun h => h)
  have c0 := cell_at hb2 0
  have c1 := cell_at hb2 1
  simp at c0 c1
  have HF2 := Lib.hid (ff HF.out hf2)
  have HB2 := Lib.hid hb2
  clear hf2 hb2
  go_wp2_with fail
  refine (HL.out _).mono ?_
  rintro e w3 ⟨rfl, rfl⟩
  go_wp2_with fail
  refine (HR.out _).mono ?_
  rintro e w3 ⟨rfl, rfl⟩
  go_wp2_with fail
  refine (HD.out _).mono ?_
  rintro e w3 ⟨rfl, rfl⟩
  go_wp2_with fail
  clear c0 c1
  go_loopg [10, 12] 7 (fun g v10 v12 wr => RofJd N q w w.heap.size #[.int .i64 3, .int .i64 d, .int .i64 q] g v10 v12 wr)
  case atStart => exact ⟨0, rfl, rfl, by simp, by omega, HB2.out, HF2.out⟩
  case round =>
    obtain ⟨i, hi, rfl, rfl, h1, hb, hf⟩ := hrel
    obtain ⟨n, hnv⟩ : ∃ n : Int, N - i = n := ⟨_, rfl⟩
    rw [hnv]
    have HBr := Lib.hid hb
    have HFr := Lib.hid hf
    have h7 := Int.emod_lt_of_pos ((N + 4) % 7 - q + 7) (show (0 : Int) < 7 by decide)
    by_cases hlt : i < 7
    · have i7 : (i : Int) < 7 := by omega
      have c0 := cell_at hb 0
      have c2 := cell_at hb 2
      simp at c0 c2
      have HWK := Lib.hid (fun W j => quiet_rweek4 n (by unfold inRange; omega) W j)
      have hn1 : -9000000 ≤ n ∧ n ≤ 9000000 := by omega
      obtain ⟨v, hv⟩ : ∃ v, (n + 4) % 7 = v := ⟨_, rfl⟩
      rw [hv] at HWK
      clear hb hf
      by_cases hq : v = q
      · subst hq
        have hN : n = N - ((N + 4) % 7 - v + 7) % 7 := by omega
        have HN := Lib.hid hN
        clear hnv hv h1 h7 hN
        go_wp2_with fail
        go_quiet (with_reducible exact HWK.out _ _)
        go_wp2_with fail
        go_ret2
        refine ⟨?_, ff HFr.out (Fr.drewN _ _ _)⟩
        rw [← HN.out]
        rfl
      · have hq2 : (v != q) = true := by simpa using hq
        have hi2 : (i : Int) + 1 ≤ ((N + 4) % 7 - q + 7) % 7 := by omega
        clear hq
        go_wp2_with fail
        go_quiet (with_reducible exact HWK.out _ _)
        go_wp2_with fail
        go_roundg (7 - (i + 1))
        case measure => omega
        case rel => exact ⟨i + 1, by omega, by go_num, (by subst hnv; go_num), by omega, (Fr.drewN _ _ (fun _ => False)).blk HBr.out (fun h => h), ff HFr.out (Fr.drewN _ _ _)⟩
    · exact absurd h1 (by omega)
theorem daysE4_far {y m d : Int} (h : Go.Civil.longI y m < d) : daysE y m d = 6 := by
  unfold daysE
  rw [if_neg]
  rw [Go.Civil.rightB_iff]
  omega
theorem daysE4_out {y m d : Int} (h : Go.Civil.rightB y m 1 = false) : daysE y m d = 6 := by
  unfold daysE
  rw [if_neg]
  rw [Go.Civil.rightB_iff]
  rw [Go.Civil.rightB_no] at h
  rintro ⟨h1, h2, h3, h4, h5, h6⟩
  exact h ⟨h1, h2, h3, h4, by omega, by omega⟩
theorem daysE4_in {y m d : Int} (h : Go.Civil.rightB y m 1 = true) (h1 : 1 ≤ d) (h2 : d ≤ Go.Civil.longI y m) : daysE y m d = 0 := by
  unfold daysE
  rw [if_pos]
  rw [Go.Civil.rightB_iff] at h ⊢
  omega
theorem rOf4_any (k d q y m : Int) (w : World) (n j : Int) (h : ofD k d q y m = (n, j)) : Calls Tryz.prog 71 #[dayV k d q, .int .i64 y, .int .i64 m] w (OfR n j w) := by
  cases hb : rightB k d q with
  | false =>
    have e : ofD k d q y m = (0, 1) := if_neg (by rw [hb]; decide)
    rw [e] at h
    cases h
    exact rof4_bad k d q y m hb w
  | true =>
    have hp := rightB_iff.1 hb
    have e : ofD k d q y m = if daysE y m (dayOf k d y m) = 0 then
      (if k = 2 then daysK y m (dayOf k d y m) + (q - (daysK y m (dayOf k d y m) + 4) % 7 + 7) % 7
       else if k = 0 then daysK y m (dayOf k d y m)
       else daysK y m (dayOf k d y m) - ((daysK y m (dayOf k d y m) + 4) % 7 - q + 7) % 7, 0)
      else (0, 6) := if_pos hb
    rw [e] at h
    cases hr : Go.Civil.rightB y m 1 with
    | false =>
      rw [daysE4_out hr, if_neg (by decide)] at h
      cases h
      exact rof4_out k d q y m hb hr w
    | true =>
      have hc := Go.Civil.rightB_iff.1 hr
      unfold rightP at hp
      rcases hp with ⟨rfl, h1, h2, rfl⟩ | ⟨rfl, rfl, h1, h2⟩ | ⟨hk, h1, h2, h3, h4⟩
      · rw [show dayOf 0 d y m = d from rfl] at h
        by_cases hd : d ≤ Go.Civil.longI y m
        · rw [daysE4_in hr h1 hd, if_pos rfl, if_neg (by decide), if_pos rfl] at h
          cases h
          exact rof4_0 d y m hb hr hd w
        · rw [daysE4_far (by omega), if_neg (by decide)] at h
          cases h
          exact rof4_far _ _ _ _ _ hb hr (by omega) w
      · rw [show dayOf 1 0 y m = Go.Civil.longI y m from rfl, daysE4_in hr (by omega) (Int.le_refl _), if_pos rfl, if_neg (by decide), if_neg (by decide)] at h
        cases h
        exact rof4_1 q y m hb hr (by omega) ⟨h1, h2⟩ w
      · have e : dayOf k d y m = d := by unfold dayOf; rw [if_neg (by omega)]
        rw [e] at h
        by_cases hd : d ≤ Go.Civil.longI y m
        · rw [daysE4_in hr h1 hd, if_pos rfl] at h
          rcases hk with rfl | rfl
          · rw [if_pos rfl] at h
            cases h
            exact rof4_2 d q y m hb hr hd ⟨h3, h4⟩ w
          · rw [if_neg (by decide), if_neg (by decide)] at h
            cases h
            exact rof4_3 d q y m hb hr hd ⟨h3, h4⟩ w
        · rw [daysE4_far (by omega), if_neg (by decide)] at h
          cases h
          exact rof4_far _ _ _ _ _ hb hr (by omega) w
end Go.Proofs.YtghcfmoagkimaaaGreatDoor.S6
namespace Go.Proofs.YtghcfmoagkimaaaGreatDoor
open Go.RowKit Go.Mem Go.Lin Go.Xpd

/- fires in their cells -/
def fireC (f : FireL) : Array Value := #[intV f.i, intV f.y, intV f.at_, intV f.bef]
abbrev fireV (f : FireL) : Value := .agg (fireC f)
def fireL (f : FireL) : List Value := (fireC f).toList
theorem fireL_len (f : FireL) : (fireL f).length = 4 := rfl
theorem fireL_one (f : FireL) : (fireL f).toArray.all (·.oneCell') = true := by simp [fireL, fireC, Value.oneCell', intV]
theorem ff4 {a c d : World} (h : Fr a c (fun _ => False)) (h2 : Fr c d (fun _ => False)) : Fr a d (fun _ => False) := h.trans h2 (fun _ _ h => h) (fun _ _ h => h)
theorem kq4 {w a b : World} {p1 p2 p3 p4 o1 o2 o3 o4 : Nat} {v1 v2 v3 v4 : Value} (h : Fr w a (fun _ => False) ∧ a.cell? ⟨p1, o1, none⟩ = some v1 ∧ a.cell? ⟨p2, o2, none⟩ = some v2 ∧ a.cell? ⟨p3, o3, none⟩ = some v3 ∧ a.cell? ⟨p4, o4, none⟩ = some v4) (hf : Fr a b (fun _ => False)) :
    Fr w b (fun _ => False) ∧ b.cell? ⟨p1, o1, none⟩ = some v1 ∧ b.cell? ⟨p2, o2, none⟩ = some v2 ∧ b.cell? ⟨p3, o3, none⟩ = some v3 ∧ b.cell? ⟨p4, o4, none⟩ = some v4 :=
  ⟨ff4 h.1 hf, cell_far hf h.2.1 (fun h => h), cell_far hf h.2.2.1 (fun h => h), cell_far hf h.2.2.2.1 (fun h => h), cell_far hf h.2.2.2.2 (fun h => h)⟩
/-- the reference's before -/
theorem before_any (f g : FireL) (w : World) : Calls Tryz.prog 107 #[fireV f, fireV g] w fun e w' => e = .returned (.bool (decide (befo f g))) ∧ Fr w w' (fun _ => False) := by
  obtain ⟨i, y, a, b⟩ := f
  obtain ⟨j, z, c, d⟩ := g
  obtain ⟨r, hr⟩ : ∃ r, decide (befo ⟨i, y, a, b⟩ ⟨j, z, c, d⟩) = r := ⟨_, rfl⟩
  have HB := Lib.hid (show r = true ↔ (a < c ∨ (a = c ∧ i < j)) by rw [← hr]; exact decide_eq_true_iff)
  rw [hr]
  clear hr
  unfold fireV fireC
  go_enter Tryz.func107, Tryz.ntmps107
  go_wp2_with fail
  all_goals
    go_ret
    refine S6.ret_bf ?_ (ff4 (Fr.new _ _ _) (Fr.new _ _ _))
    have hb := HB.out
    rw [Bool.eq_iff_iff, hb]
    simp
    try omega
end Go.Proofs.YtghcfmoagkimaaaGreatDoor
namespace Go.Proofs.YtghcfmoagkimaaaGreatDoor
open Go.RowKit Go.Mem Go.Lin Go.Fmx

/-- the library's greatest length for a quick search is some number -/
def MOk (w : World) : Prop := ∃ m, w.cell? ⟨1, 0, none⟩ = some (.int .i64 m)
theorem MOk.fr {w w' : World} (h : MOk w) (f : Fr w w' (fun _ => False)) : MOk w' := h.elim fun m hm => ⟨m, f.cell0 hm⟩
theorem contains16_any (s t : Bs) (hs : s.length ≤ 1000000) (ht : t ≠ []) (w : World) (hw : MOk w) : Calls Tryz.prog 38 #[strV s, strV t] w fun e w' => e = .returned (.bool (findD s t).isSome) ∧ w' = w := by
  obtain ⟨m, hm⟩ := hw
  rw [← contains_find ht]
  exact Tryz.strings_Contains ⟨s.toArray⟩ ⟨t.toArray⟩ m w (by rw [S6.str_size]; omega) hm
theorem cut16_any (s t : Bs) (i : Nat) (hs : s.length ≤ 1000000) (ht : t ≠ []) (h : findD s t = some i) (w : World) (hw : MOk w) : Calls Tryz.prog 70 #[strV s, strV t] w fun e w' => e = .returned (.tuple #[strV (s.take i), strV (s.drop (i + t.length)), .bool true]) ∧ Fr w w' (fun _ => False) := by
  obtain ⟨m, hm⟩ := hw
  have e := cut_find ht h
  have H := Tryz.strings_Cut ⟨s.toArray⟩ ⟨t.toArray⟩ m w (by rw [S6.str_size]; omega) hm
  rw [show Go.Lib.cut (⟨s.toArray⟩ : ByteArray).data.toList (⟨t.toArray⟩ : ByteArray).data.toList = _ from e] at H
  refine H.mono ?_
  rintro q w2 ⟨rfl, n, rfl⟩
  exact ⟨rfl, Fr.drewN _ _ _⟩
theorem replace16_any (s t n : Bs) (i : Nat) (hs : s.length ≤ 1000) (hn : n.length ≤ 1000) (ht : t ≠ []) (h : findD s t = some i) (w : World) (hw : MOk w) : Calls Tryz.prog 39 #[strV s, strV t, strV n, .int .i64 1] w fun e w' => e = .returned (strV (s.take i ++ n ++ s.drop (i + t.length))) ∧ Fr w w' (fun _ => False) := by
  obtain ⟨m, hm⟩ := hw
  have e := replace_find (n := n) ht h
  have h1 : 1 ≤ (⟨t.toArray⟩ : ByteArray).size := by
    rw [S6.str_size]
    cases t with
    | nil => exact absurd rfl ht
    | cons x y => simp
  have hc : Go.Lib.countB (⟨s.toArray⟩ : ByteArray) (⟨t.toArray⟩ : ByteArray) ≤ 1001 := by
    have := count_le (s.length + 1) s t
    show Go.Lib.countFrom t (s.length + 1) s ≤ 1001
    omega
  have hm2 : Go.Lib.countB (⟨s.toArray⟩ : ByteArray) (⟨t.toArray⟩ : ByteArray) * n.length ≤ 1001 * 1000 := Nat.mul_le_mul hc hn
  have H := Tryz.strings_Replace ⟨s.toArray⟩ ⟨t.toArray⟩ ⟨n.toArray⟩ 1 m w (by rw [S6.str_size]; omega) hm h1 (by rw [S6.str_size, S6.str_size]; omega)
  rw [show Go.Lib.replace (⟨s.toArray⟩ : ByteArray).data.toList (⟨t.toArray⟩ : ByteArray).data.toList (⟨n.toArray⟩ : ByteArray).data.toList 1 = _ from e] at H
  refine H.mono ?_
  rintro q w2 ⟨rfl, hb⟩
  exact ⟨rfl, S6.fr_below hb⟩
end Go.Proofs.YtghcfmoagkimaaaGreatDoor
namespace Go.Proofs.YtghcfmoagkimaaaGreatDoor
open Go.ChangeShapes Go.WideShapes Go.ChangeAt Go.RowKit Go.Mem

theorem own : ownKnob Tryz.prog.godebug = none := by kernel_rfl
theorem laidOut : laidOutB Tryz.prog = true := by kernel_rfl
theorem gLen : Tryz.prog.globalNamed "noonmark/civil.lengths" = some 0 := by kernel_rfl
theorem gLenType : (Tryz.prog.globals[0]?).map (·.type) = some 143 := by kernel_rfl
theorem cellsArr : Tryz.prog.cellsOf 143 = 12 := by kernel_rfl
theorem cellsInt : Tryz.prog.cellsOf 3 = 1 := by kernel_rfl
abbrev theList : List (String × DataW Unit) := [("noonmark/civil.lengths", Rows.laid_noonmark_civil_lengths), ("unicode/utf8.acceptRanges", Rows.laid_unicode_utf8_acceptRanges), ("unicode/utf8.first", Rows.laid_unicode_utf8_first)]

theorem mok {W : World} (h : W.ShapedOpen Tryz.prog) : MOk W :=
  Go.Proofs.cell_of_shapedOpen_int (zero := #[.int .i64 0]) (t := 3) h (of_decide_eq_true (by kernel_rfl)) (by kernel_rfl) rfl (by kernel_rfl) (by kernel_rfl) Tryz.underlying3
theorem wok {W : World} (h : laidMetH Tryz.prog theList W) (_hs : W.ShapedOpen Tryz.prog) : S6.WOk W := by
  have h1 := h.filter (fun x => x.1 == "noonmark/civil.lengths")
  have h2 : theList.filter (fun x => x.1 == "noonmark/civil.lengths") = [("noonmark/civil.lengths", Rows.laid_noonmark_civil_lengths)] := by kernel_rfl
  rw [h2] at h1
  have ht := Lib.tabIs_of_head (rest := []) (zs := S6.lenTab) gLen gLenType Tryz.underlying143 Tryz.underlying3 cellsInt cellsArr h1
  exact ⟨fun i hi => ht.cell gLen i hi⟩
theorem laid_met (os : Os) (args : Array Value) : laidMet Tryz.prog theList ((World.laidAll Tryz.prog os theList).forCall (fun _ _ => 0) ⟨#[], args, []⟩).memory :=
  laidMet_laidAll args (by kernel_rfl) (by kernel_rfl)
end Go.Proofs.YtghcfmoagkimaaaGreatDoor
namespace Go.Proofs.YtghcfmoagkimaaaGreatDoor.S6
open Go.RowKit Go.Mem Go.Civil

theorem Clock_any (t : Int) (w : World) (hn : inRange t) : Calls Tryz.prog 33 #[.int .i64 t] w fun e w' => e = .returned (.tuple #[.int .i64 (t / 86400), .int .i64 (t % 86400)]) ∧ w' = w.drew := by
  have HP := Lib.hid (part_any t 86400 w (by omega) hn)
  have hr : 0 ≤ t % 86400 ∧ t % 86400 < 86400 := by omega
  clear hn
  generalize t % 86400 = r at *
  generalize t / 86400 = q at *
  go_enter Tryz.func33, Tryz.ntmps33
  go_wp2_with fail
  refine HP.out.mono ?_
  rintro e w' ⟨rfl, rfl⟩
  go_wp2_with fail
  go_ret2
  exact ⟨rfl, rfl⟩
theorem year_of {n : Int} {y : Int} (hy : begD y ≤ n ∧ n < begD (y + 1)) :
    ∃ r, r = (if (n + 719528) % 146097 < toY ((n + 719528) % 146097 / 365) then (n + 719528) % 146097 / 365 - 1 else (n + 719528) % 146097 / 365) ∧
      0 ≤ r ∧ r < 400 ∧ 0 ≤ (n + 719528) % 146097 / 365 ∧ (n + 719528) % 146097 / 365 ≤ 400 ∧ y = (n + 719528) / 146097 * 400 + r ∧ n - begD y = (n + 719528) % 146097 - toY r ∧ 0 ≤ toY r ∧ toY r ≤ (n + 719528) % 146097 := by
  have hd : 0 ≤ (n + 719528) % 146097 ∧ (n + 719528) % 146097 < 146097 := by omega
  have hnn : n = (n + 719528) / 146097 * 146097 + (n + 719528) % 146097 - 719528 := by omega
  have h := era_year hd rfl
  refine ⟨_, rfl, h.1, h.2.1, by omega, h.2.2.2.2, ?_⟩
  generalize (if (n + 719528) % 146097 < toY ((n + 719528) % 146097 / 365) then (n + 719528) % 146097 / 365 - 1 else (n + 719528) % 146097 / 365) = r at *
  have h1 := begD_era ((n + 719528) / 146097) r ⟨h.1, h.2.1⟩
  have h2 := begD_era_next ((n + 719528) / 146097) r ⟨h.1, h.2.1⟩
  have hy2 : y = (n + 719528) / 146097 * 400 + r := begD_one hy.1 hy.2 (by omega) (by omega)
  have := toY_le (r := r) (by omega)
  refine ⟨hy2, ?_, this.1, h.2.2.1⟩
  rw [hy2, h1]
  omega
theorem yearOf_any (n y : Int) (w : World) (hn : -4371587 ≤ n ∧ n < 2932897) (hy : begD y ≤ n ∧ n < begD (y + 1)) :
    Calls Tryz.prog 58 #[.int .i64 n] w fun e w' => e = .returned (.tuple #[.int .i64 y, .int .i64 (n - begD y)]) ∧ w' = w.drew := by
  obtain ⟨r, hr, b0, b1, b2, b3, hy2, hy3, hy4, hy5⟩ := year_of hy
  have hd : 0 ≤ (n + 719528) % 146097 ∧ (n + 719528) % 146097 < 146097 := by omega
  have hq : -30 ≤ (n + 719528) / 146097 ∧ (n + 719528) / 146097 ≤ 30 := by omega
  have HP := Lib.hid (part_any (n + 719528) 146097 w (by omega) (by unfold inRange; omega))
  have HD := Lib.hid (fun w => daysTo_any ((n + 719528) % 146097 / 365) w (by omega) (by omega))
  have HE := Lib.hid (fun w => daysTo_any r w (by omega) (by omega))
  rw [hy3, hy2]
  have hto := toY_le (r := (n + 719528) % 146097 / 365) (by omega)
  clear hy hy2 hy3
  generalize (n + 719528) / 146097 = q at *
  generalize (n + 719528) % 146097 = d at *
  by_cases hlt : d < toY (d / 365)
  · rw [if_pos hlt] at hr
    subst hr
    go_enter Tryz.func58, Tryz.ntmps58
    go_wp2_with fail
    refine HP.out.mono ?_
    rintro e w' ⟨rfl, rfl⟩
    go_wp2_with fail
    refine (HD.out _).mono ?_
    rintro e w' ⟨rfl, rfl⟩
    go_wp2_with fail
    refine (HE.out _).mono ?_
    rintro e w' ⟨rfl, rfl⟩
    go_wp2_with fail
    go_ret2
    exact ⟨rfl, rfl⟩
  · rw [if_neg hlt] at hr
    subst hr
    go_enter Tryz.func58, Tryz.ntmps58
    go_wp2_with fail
    refine HP.out.mono ?_
    rintro e w' ⟨rfl, rfl⟩
    go_wp2_with fail
    refine (HD.out _).mono ?_
    rintro e w' ⟨rfl, rfl⟩
    go_wp2_with fail
    refine (HE.out _).mono ?_
    rintro e w' ⟨rfl, rfl⟩
    go_wp2_with fail
    go_ret2
    exact ⟨rfl, rfl⟩
end Go.Proofs.YtghcfmoagkimaaaGreatDoor.S6
namespace Go.Proofs.YtghcfmoagkimaaaGreatDoor.S6
open Go.RowKit Go.Mem Go.Civil

/-- what Date answers: the date that has the number, or Range -/
def DateR (n y m d k : Int) : Prop :=
  (-4371587 ≤ n ∧ n < 2932897 ∧ rightB y m d = true ∧ numD y m d = n ∧ k = 0) ∨ ((n < -4371587 ∨ 2932897 ≤ n) ∧ y = 0 ∧ m = 0 ∧ d = 0 ∧ k = 2)
theorem month_of {y r : Int} (h0 : 0 ≤ r) : ∀ K : Nat, r < sumM y K → ∃ k, k < K ∧ sumM y k ≤ r ∧ r < sumM y (k + 1) := by
  intro K
  induction K with
  | zero => intro h; simp [sumM] at h; omega
  | succ K ih =>
    intro h
    by_cases h' : r < sumM y K
    · obtain ⟨k, hk, h1, h2⟩ := ih h'
      exact ⟨k, by omega, h1, h2⟩
    · exact ⟨K, by omega, by omega, h⟩
theorem date_of (n : Int) : ∃ y m d k, DateR n y m d k := by
  by_cases hn : -4371587 ≤ n ∧ n < 2932897
  · obtain ⟨q, hq⟩ : ∃ q, (n + 719528) / 146097 = q := ⟨_, rfl⟩
    obtain ⟨a, ha⟩ : ∃ a, (n + 719528) % 146097 = a := ⟨_, rfl⟩
    have hd : 0 ≤ a ∧ a < 146097 := by omega
    obtain ⟨r, hr⟩ : ∃ r, r = if a < toY (a / 365) then a / 365 - 1 else a / 365 := ⟨_, rfl⟩
    have hy := era_year hd hr
    have e1 := begD_era q r ⟨hy.1, hy.2.1⟩
    have e2 := begD_era_next q r ⟨hy.1, hy.2.1⟩
    generalize q * 400 + r = y at *
    have b1 : begD y ≤ n := by omega
    have b2 : n < begD (y + 1) := by omega
    clear e1 e2 hy hr hd ha hq
    have r1 : -9999 ≤ y := by
      by_cases h : y < -9999
      · have := begD_mono h
        rw [begD_first] at this
        omega
      · omega
    have r2 : y ≤ 9999 := by
      by_cases h : 9999 < y
      · have := begD_mono h
        rw [show (9999 : Int) + 1 = 10000 from rfl, begD_end] at this
        omega
      · omega
    rw [← sumM_13] at b2
    obtain ⟨k, hk, h1, h2⟩ := month_of (y := y) (r := n - begD y) (by omega) 12 (by omega)
    rw [sumM_step] at h2
    refine ⟨y, k + 1, n - begD y - sumM y k + 1, 0, Or.inl ⟨hn.1, hn.2, ?_, ?_, rfl⟩⟩
    · rw [rightB_iff]
      omega
    · unfold numD
      rw [show ((k : Int) + 1 - 1).toNat = k by omega]
      omega
  · exact ⟨0, 0, 0, 2, Or.inr ⟨by omega, rfl, rfl, rfl, rfl⟩⟩
theorem DateR.one {n y m d k y' m' d' k' : Int} (h : DateR n y m d k) (h' : DateR n y' m' d' k') : y = y' ∧ m = m' ∧ d = d' ∧ k = k' := by
  rcases h with ⟨a, b, c, e, f⟩ | ⟨a, b, c, e, f⟩ <;> rcases h' with ⟨a', b', c', e', f'⟩ | ⟨a', b', c', e', f'⟩
  · have := numD_one c c' (by omega)
    omega
  · omega
  · omega
  · omega

theorem results_tmp4 {fn : Func} {t u v x : Tmp} (h : fn.results = #[.tmp t, .tmp u, .tmp v, .tmp x]) (tmps : Array Value) (P : Program) (w : World) :
    (results fn tmps).run P w = .ok (.tuple #[tmps.getD t undef, tmps.getD u undef, tmps.getD v undef, tmps.getD x undef]) w := by
  simp [results, h]
theorem Date_any (n y m d k : Int) (w : World) (hn : inRange n) (hg : LOk w) (h : DateR n y m d k) :
    Calls Tryz.prog 34 #[.int .i64 n] w fun e w' => e = .returned (.tuple #[.int .i64 y, .int .i64 m, .int .i64 d, .int .i64 k]) ∧ Fr w w' (fun _ => False) := by
  have HB1 := Lib.hid (begin_any (-9999) w (by omega))
  have HB2 := Lib.hid (begin_any 10000 w.drew (by omega))
  rw [begD_first] at HB1
  rw [begD_end] at HB2
  unfold inRange at hn
  rcases h with ⟨h1, h2, h3, h4, rfl⟩ | ⟨h1, rfl, rfl, rfl, rfl⟩
  · obtain ⟨b1, b2, b3, b4⟩ := numD_in h3
    have hnum : numD y m d = begD y + sumM y (m - 1).toNat + (d - 1) := rfl
    have hb := rightB_iff.1 h3
    rw [h4] at b1 b2 b3 b4
    have HY := Lib.hid (yearOf_any n y w.drew.drew ⟨h1, h2⟩ ⟨b1, b2⟩)
    have hle := longI_le y m
    obtain ⟨j, rfl⟩ : ∃ j : Nat, m = (j : Int) + 1 := ⟨(m - 1).toNat, by omega⟩
    rw [show ((j : Int) + 1 - 1).toNat = j by omega] at b3 b4 hnum
    obtain ⟨r, hr⟩ : ∃ r, n - begD y = r := ⟨_, rfl⟩
    rw [hr] at b3 b4 HY
    have hr0 : 0 ≤ r ∧ r ≤ 366 := by have := begD_succ y; have := leapI_le y; omega
    have hdv : d = r - sumM y j + 1 := by omega
    have HL := Lib.hid (fun i => Long_any y i w.drew.drew.drew (hg.fr (((Fr.drew _ _).trans (Fr.drew _ (fun _ => False)) (fun _ _ h => h) (fun _ _ h => h)).trans (Fr.drew _ _) (fun _ _ h => h) (fun _ _ h => h))))
    have HN : Hid (∀ k : Nat, k ≤ 12 → 0 ≤ sumM y k ∧ sumM y k ≤ 366) := Lib.hid (sumM_le y)
    have hj : j ≤ 11 := by omega
    have B3 := Lib.hid b3
    have B4 := Lib.hid b4
    have hy' : -9999 ≤ y ∧ y ≤ 9999 := by omega
    subst hdv
    clear hb hnum hle hg h3 h4 hr b1 b2 b3 b4
    go_enter Tryz.func34, Tryz.ntmps34
    go_wp2_with fail
    refine HB1.out.mono ?_
    rintro e w' ⟨rfl, rfl⟩
    go_wp2_with fail
    refine HB2.out.mono ?_
    rintro e w' ⟨rfl, rfl⟩
    go_wp2_with fail
    refine HY.out.mono ?_
    rintro e w' ⟨rfl, rfl⟩
    go_wp2_with fail
    go_loop [3, 6] (fun v3 v6 => ∃ k : Nat, k ≤ j ∧ v3 = .int .i64 ((k : Int) + 1) ∧ v6 = .int .i64 (r - sumM y k)) (fun v3 _ => j + 1 - (intOf v3).toNat)
    case atStart => exact ⟨0, Nat.zero_le _, rfl, by simp [sumM]⟩
    case round =>
      obtain ⟨k, hk, rfl, rfl⟩ := hrel
      have hs := HN.out k (by omega)
      have hle := longI_le y ((k : Int) + 1)
      have HC := Lib.hid (HL.out ((k : Int) + 1))
      by_cases hlt : k < j
      · have hmo := sumM_mono (y := y) (show k + 1 ≤ j by omega)
        have hst := sumM_step y k
        have hb3 := B3.out
        have hge : longI y ((k : Int) + 1) ≤ r - sumM y k := by omega
        have HS := Lib.hid hst
        clear hst hmo hb3
        have h1 : (k : Int) < (j : Int) := by omega
        go_wp2_with fail
        refine HC.out.mono ?_
        rintro e w' ⟨rfl, rfl⟩
        go_wp2_with fail
        refine HC.out.mono ?_
        rintro e w' ⟨rfl, rfl⟩
        go_wp2_with fail
        go_round
        case rel => exact ⟨k + 1, by omega, by go_num, by rw [HS.out]; congr 1; omega⟩
        case measure => simp [intOf]; omega
      · obtain rfl : k = j := by omega
        have hb4 := B4.out
        rw [sumM_step] at hb4
        have hge : r - sumM y k < longI y ((k : Int) + 1) := by omega
        have hb3 := B3.out
        clear hb4
        go_wp2_with fail
        refine HC.out.mono ?_
        rintro e w' ⟨rfl, rfl⟩
        go_wp2_with fail
        (try simp only [Exit.inBlock, Exit.then])
        refine bodyPost_ret (results_tmp4 rfl _ _ _) rfl ?_
        exact ⟨rfl, (((Fr.drew _ _).trans (Fr.drew _ (fun _ => False)) (fun _ _ h => h) (fun _ _ h => h)).trans (Fr.drew _ _) (fun _ _ h => h) (fun _ _ h => h))⟩
  · by_cases ha : n < -4371587
    · clear HB2 hg
      go_enter Tryz.func34, Tryz.ntmps34
      go_wp2_with fail
      refine HB1.out.mono ?_
      rintro e w' ⟨rfl, rfl⟩
      go_wp2_with fail
      (try simp only [Exit.inBlock, Exit.then])
      refine bodyPost_ret (results_tmp4 rfl _ _ _) rfl ?_
      exact ⟨rfl, Fr.drew _ _⟩
    · have hb : 2932897 ≤ n := by omega
      clear hg h1
      go_enter Tryz.func34, Tryz.ntmps34
      go_wp2_with fail
      refine HB1.out.mono ?_
      rintro e w' ⟨rfl, rfl⟩
      go_wp2_with fail
      refine HB2.out.mono ?_
      rintro e w' ⟨rfl, rfl⟩
      go_wp2_with fail
      (try simp only [Exit.inBlock, Exit.then])
      refine bodyPost_ret (results_tmp4 rfl _ _ _) rfl ?_
      exact ⟨rfl, (Fr.drew _ _).trans (Fr.drew _ (fun _ => False)) (fun _ _ h => h) (fun _ _ h => h)⟩
end Go.Proofs.YtghcfmoagkimaaaGreatDoor.S6
