import Derived.Test.YtbkjafaijkmpfaaDoorYa10
import Derived.Deep.RegionHeld3
import Derived.OwnWalk
import Derived.Lib.Hide
import Derived.LoopTactic
import Derived.IntWalk
import Derived.Deep.RegionHeld
import Derived.OrdersHeld
namespace Go.Proofs.YtbkjafaijkmpfaaDoor.S6
open Go.RowKit Go.Mem Go.Civil

theorem tmod_gt {n c : Int} (h : n < 0) (hc : 0 < c) : -c < n.tmod c := by
  have e1 : n.tmod c = -((-n) % c) := by
    have := Int.neg_tmod (-n) c
    rw [Int.neg_neg, Int.tmod_eq_emod_of_nonneg (a := -n) (by omega)] at this
    exact this
  have b2 := Int.emod_lt_of_pos (-n) hc
  omega
theorem rWeek_any (n : Int) (w : World) (hn : inRange n) : Calls Tryd.prog 64 #[.int .i64 n] w fun e w' => e = .returned (.int .i64 ((n + 4) % 7)) ∧ w = w' := by
  unfold inRange at hn
  by_cases h : n < 0
  · have hp := neg_parts h (show (0 : Int) < 7 by omega)
    have hg := tmod_gt h (show (0 : Int) < 7 by omega)
    have b : -7 < n.tmod 7 ∧ n.tmod 7 ≤ 0 := by omega
    have HE := Lib.hid (show (n.tmod 7 + 11) % 7 = (n + 4) % 7 by omega)
    have b2 : 0 ≤ n.tmod 7 + 11 := by omega
    clear hp hg
    go_enter Tryd.func64, Tryd.ntmps64
    go_wp2_with fail
    go_ret
    exact ret_int HE.out
  · have HE := Lib.hid (show (n + 11) % 7 = (n + 4) % 7 by omega)
    go_enter Tryd.func64, Tryd.ntmps64
    go_wp2_with fail
    go_ret
    exact ret_int HE.out
theorem rDays_any (y m d : Int) (w : World) :
    Calls Tryd.prog 63 #[.int .i64 y, .int .i64 m, .int .i64 d] w fun e w' => e = .returned (.tuple #[.int .i64 (daysK y m d), .int .i64 (daysE y m d)]) ∧ w = w' := by
  have HR := Lib.hid (rRight_any y m d w)
  unfold daysK daysE
  by_cases h : rightB y m d = true
  · rw [h] at HR
    rw [if_pos h, if_pos h]
    have hb := rightB_iff.1 h
    have hnum : numD y m d = begD y + sumM y (m - 1).toNat + (d - 1) := rfl
    have HB := Lib.hid (rYear_any y w (by omega))
    have hbr := begD_range (y := y) (by omega)
    have hle := longI_le y m
    obtain ⟨j, rfl⟩ : ∃ j : Nat, m = (j : Int) + 1 := ⟨(m - 1).toNat, by omega⟩
    rw [show ((j : Int) + 1 - 1).toNat = j by omega] at hnum
    have hb1 : 1 ≤ d ∧ d ≤ 31 ∧ (j : Int) ≤ 11 := by omega
    rw [hnum]
    have HL := Lib.hid (fun i => rLong_any y i w)
    have HN : Hid (∀ k : Nat, k ≤ 12 → 0 ≤ sumM y k ∧ sumM y k ≤ 366) := Lib.hid (sumM_le y)
    generalize begD y = B at *
    clear h hb hnum hle
    go_enter Tryd.func63, Tryd.ntmps63
    go_wp2_with fail
    refine HR.out.mono ?_
    rintro e w' ⟨rfl, rfl⟩
    go_wp2_with fail
    refine HB.out.mono ?_
    rintro e w' ⟨rfl, rfl⟩
    go_wp2_with fail
    go_loop [8, 9] (fun v8 v9 => ∃ k : Nat, k ≤ j ∧ v8 = .int .i64 (B + sumM y k) ∧ v9 = .int .i64 ((k : Int) + 1)) (fun _ v9 => j + 1 - (intOf v9).toNat)
    case atStart => exact ⟨0, Nat.zero_le _, by simp [sumM], rfl⟩
    case round =>
      obtain ⟨k, hk, rfl, rfl⟩ := hrel
      by_cases hlt : k < j
      · have hs := HN.out k (by omega)
        have hs2 := HN.out (k + 1) (by omega)
        have hst := sumM_step y k
        have HS := Lib.hid hst
        have HC := Lib.hid (HL.out ((k : Int) + 1))
        have h1 : (k : Int) < (j : Int) := by omega
        have h2 : (k : Int) + 1 < (j : Int) + 1 := by omega
        have hle := longI_le y ((k : Int) + 1)
        generalize longI y ((k : Int) + 1) = L at *
        generalize sumM y k = S at *
        clear hst
        go_wp2_with fail
        refine HC.out.mono ?_
        rintro e w' ⟨rfl, rfl⟩
        go_wp2_with fail
        go_round
        case rel => exact ⟨k + 1, by omega, by rw [HS.out]; congr 1; omega, by go_num⟩
        case measure => simp [intOf]; omega
      · obtain rfl : k = j := by omega
        have hs := HN.out k (by omega)
        go_wp2_with fail
        go_ret2
        exact ret_two (P := fun w' => w = w') (by omega) rfl rfl
  · rw [if_neg h, if_neg h]
    simp only [Bool.not_eq_true] at h
    rw [h] at HR
    clear h
    go_enter Tryd.func63, Tryd.ntmps63
    go_wp2_with fail
    refine HR.out.mono ?_
    rintro e w' ⟨rfl, rfl⟩
    go_wp2_with fail
    go_ret2
    exact ⟨rfl, rfl⟩
end Go.Proofs.YtbkjafaijkmpfaaDoor.S6
namespace Go.Proofs.YtbkjafaijkmpfaaDoor.S6
open Go.RowKit Go.Mem Go.Dfm

theorem rright_any (k d q : Int) (w : World) : Calls Tryd.prog 60 #[dayV k d q] w fun e w' => e = .returned (.bool (rightB k d q)) ∧ Fr w w' (fun _ => False) := by
  obtain ⟨b, hb⟩ : ∃ b, rightB k d q = b := ⟨_, rfl⟩
  have HB := Lib.hid (show b = true ↔ rightP k d q by rw [← hb]; exact rightB_iff)
  rw [hb]
  clear hb
  go_enter Tryd.func60, Tryd.ntmps60
  go_wp2_with fail
  all_goals
    go_ret
    refine ret_bf ?_ (Fr.new _ _ _)
    have hb := HB.out
    rw [Bool.eq_iff_iff, hb]
    simp [rightP]
    try (simp only [beq_iff_eq, beq_eq_false_iff_ne, ne_eq] at *; omega)
end Go.Proofs.YtbkjafaijkmpfaaDoor.S6
namespace Go.Proofs.YtbkjafaijkmpfaaDoor.S6
open Go.RowKit Go.Mem Go.Dfm

theorem between_any (a b : Int) (w : World) (ha : 0 ≤ a ∧ a < 7) (hb : 0 ≤ b ∧ b < 7) : Calls Tryd.prog 44 #[.int .i64 a, .int .i64 b] w fun e w' => e = .returned (.int .i64 ((b - a + 7) % 7)) ∧ w = w' := by
  obtain ⟨ha0, ha1⟩ := ha
  obtain ⟨hb0, hb1⟩ := hb
  have h1 : 0 ≤ b - a + 7 := by omega
  go_enter Tryd.func44, Tryd.ntmps44
  go_wp2_with fail
  go_ret
  exact ⟨rfl, rfl⟩
theorem begin_day (k d q y m : Int) (w : World) (hw : WOk w) : Calls Tryd.prog 43 #[dayV k d q, .int .i64 y, .int .i64 m] w fun e w' => e = .returned (.int .i64 (if k = 1 then Go.Civil.longI y m else d)) ∧ Fr w w' (fun _ => False) := by
  have HL := Lib.hid (fun (W : World) (f : Fr w W (fun _ => False)) => Long_any y m W (hw.fr f).lok)
  clear hw
  by_cases h : k = 1
  · rw [if_pos h]
    subst h
    go_enter Tryd.func43, Tryd.ntmps43
    go_wp2_with fail
    refine (HL.out _ (Fr.new _ _ _)).mono ?_
    rintro e w2 ⟨rfl, rfl⟩
    go_wp2_with fail
    go_ret
    exact ⟨rfl, Fr.new _ _ _⟩
  · rw [if_neg h]
    have h1 : (k == 1) = false := beq_eq_false_iff_ne.2 h
    clear h HL
    go_enter Tryd.func43, Tryd.ntmps43
    go_wp2_with fail
    go_ret
    exact ⟨rfl, Fr.new _ _ _⟩
end Go.Proofs.YtbkjafaijkmpfaaDoor.S6
namespace Go.Proofs.YtbkjafaijkmpfaaDoor.S6
open Go.RowKit Go.Mem Go.Dfm

def dayOf (k d y m : Int) : Int := if k = 1 then Go.Civil.longI y m else d
/-- what Of answers -/
def ofD (k d q y m : Int) : Int × Int :=
  if rightB k d q = true then
    if daysE y m (dayOf k d y m) = 0 then
      (if k = 2 then daysK y m (dayOf k d y m) + (q - (daysK y m (dayOf k d y m) + 4) % 7 + 7) % 7
       else if k = 0 then daysK y m (dayOf k d y m)
       else daysK y m (dayOf k d y m) - ((daysK y m (dayOf k d y m) + 4) % 7 - q + 7) % 7, 0)
    else (0, 6)
  else (0, 1)
def OfR (n j : Int) (w : World) (e : Ending) (w' : World) : Prop := e = .returned (.tuple #[.int .i64 n, .int .i64 j]) ∧ Fr w w' (fun _ => False)
theorem daysE_is (y m d : Int) : daysE y m d = 0 ∨ daysE y m d = 6 := by unfold daysE; split <;> simp
theorem daysK_range (y m d : Int) : -4371587 ≤ daysK y m d ∧ daysK y m d ≤ 2932897 := by
  unfold daysK
  split
  · rename_i h
    have := Go.Civil.numD_range h
    omega
  · omega
theorem daysK_no {y m d : Int} (h : daysE y m d ≠ 0) : daysK y m d = 0 := by
  unfold daysE at h
  unfold daysK
  split at h
  · exact absurd rfl h
  · rename_i h'
    rw [if_neg h']
theorem of_bad (k d q y m : Int) (w : World) (h : rightB k d q = false) : Calls Tryd.prog 29 #[dayV k d q, .int .i64 y, .int .i64 m] w (OfR 0 1 w) := by
  have HT := Lib.hid (fun W => right_any k d q W)
  rw [h] at HT
  clear h
  go_enter Tryd.func29, Tryd.ntmps29
  go_wp2_with fail
  refine (HT.out _).mono ?_
  rintro e w2 ⟨rfl, hf2⟩
  have HF2 := Lib.hid (ff (Fr.new w _ _) hf2)
  clear hf2
  go_wp2_with fail
  go_ret2
  exact ⟨rfl, HF2.out⟩
theorem quiet_week (n : Int) (hn : inRange n) (W : World) (i : Nat) : Calls Tryd.prog 45 #[.int .i64 n] (W.drewN i) fun e w' => e = .returned (.int .i64 ((n + 4) % 7)) ∧ ∃ j, w' = W.drewN j :=
  Calls.quiet_of ((Week_any n (W.drewN i) hn).mono fun _ _ h => ⟨h.1, 1, h.2⟩)
theorem quiet_between (a b : Int) (ha : 0 ≤ a ∧ a < 7) (hb : 0 ≤ b ∧ b < 7) (W : World) (i : Nat) : Calls Tryd.prog 44 #[.int .i64 a, .int .i64 b] (W.drewN i) fun e w' => e = .returned (.int .i64 ((b - a + 7) % 7)) ∧ ∃ j, w' = W.drewN j :=
  (between_any a b (W.drewN i) ha hb).mono fun _ _ h => ⟨h.1, i, h.2.symm⟩
-- walks
set_option maxHeartbeats 1600000 in
theorem of_none (k d q y m : Int) (w : World) (hw : WOk w) (h : rightB k d q = true) (he : daysE y m (dayOf k d y m) = 6) : Calls Tryd.prog 29 #[dayV k d q, .int .i64 y, .int .i64 m] w (OfR 0 6 w) := by
  have HT := Lib.hid (fun W => right_any k d q W)
  rw [h] at HT
  have HB := Lib.hid (Blk.made w 38 #[.int .i64 k, .int .i64 d, .int .i64 q])
  have HG := Lib.hid (fun (W : World) (f : Fr w W (fun _ => False)) => begin_day k d q y m W (hw.fr f))
  rw [show (if k = 1 then Go.Civil.longI y m else d) = dayOf k d y m from rfl] at HG
  have HD := Lib.hid (fun (W : World) (f : Fr w W (fun _ => False)) => Days_any y m (dayOf k d y m) W (hw.fr f).lok)
  rw [he] at HD
  rw [daysK_no (by rw [he]; decide)] at HD
  clear he
  generalize dayOf k d y m = D at *
  clear h hw
  go_enter Tryd.func29, Tryd.ntmps29
  go_wp2_with fail
  refine (HT.out _).mono ?_
  rintro e w2 ⟨rfl, hf2⟩
  have hfr2 := ff (Fr.new w _ _) hf2
  have HF2 := Lib.hid hfr2
  have hb2 := hf2.blk HB.out (fun h => h)
  have c0 := cell_at hb2 0
  have c1 := cell_at hb2 1
  have c2 := cell_at hb2 2
  simp at c0 c1 c2
  have HB2 := Lib.hid hb2
  clear hf2 hb2 hfr2
  go_wp2_with fail
  refine (HG.out _ HF2.out).mono ?_
  rintro e w3 ⟨rfl, hf3⟩
  have HF3 := Lib.hid (ff HF2.out hf3)
  have HB3 := Lib.hid (hf3.blk HB2.out (fun h => h))
  clear hf3
  go_wp2_with fail
  refine (HD.out _ HF3.out).mono ?_
  rintro e w4 ⟨rfl, hf4⟩
  have HF4 := Lib.hid (ff HF3.out hf4)
  have hb4 := hf4.blk HB3.out (fun h => h)
  have c0 := cell_at hb4 0
  have c1 := cell_at hb4 1
  have c2 := cell_at hb4 2
  simp at c0 c1 c2
  clear hf4 hb4
  go_wp2_with fail
  go_ret2
  exact ⟨rfl, HF4.out⟩
set_option maxHeartbeats 1600000 in
theorem of_0 (d y m : Int) (w : World) (hw : WOk w) (h : rightB 0 d 0 = true) (he : daysE y m d = 0) : Calls Tryd.prog 29 #[dayV 0 d 0, .int .i64 y, .int .i64 m] w (OfR (daysK y m d) 0 w) := by
  have HT := Lib.hid (fun W => right_any 0 d 0 W)
  rw [h] at HT
  have HB := Lib.hid (Blk.made w 38 #[.int .i64 0, .int .i64 d, .int .i64 0])
  have HG := Lib.hid (fun (W : World) (f : Fr w W (fun _ => False)) => begin_day 0 d 0 y m W (hw.fr f))
  rw [if_neg (by decide)] at HG
  have HD := Lib.hid (fun (W : World) (f : Fr w W (fun _ => False)) => Days_any y m d W (hw.fr f).lok)
  rw [he] at HD
  clear he
  generalize daysK y m d = K at *
  clear h hw
  go_enter Tryd.func29, Tryd.ntmps29
  go_wp2_with fail
  refine (HT.out _).mono ?_
  rintro e w2 ⟨rfl, hf2⟩
  have hfr2 := ff (Fr.new w _ _) hf2
  have HF2 := Lib.hid hfr2
  have hb2 := hf2.blk HB.out (fun h => h)
  have c0 := cell_at hb2 0
  have c1 := cell_at hb2 1
  have c2 := cell_at hb2 2
  simp at c0 c1 c2
  have HB2 := Lib.hid hb2
  clear hf2 hb2 hfr2
  go_wp2_with fail
  refine (HG.out _ HF2.out).mono ?_
  rintro e w3 ⟨rfl, hf3⟩
  have HF3 := Lib.hid (ff HF2.out hf3)
  have HB3 := Lib.hid (hf3.blk HB2.out (fun h => h))
  clear hf3
  go_wp2_with fail
  refine (HD.out _ HF3.out).mono ?_
  rintro e w4 ⟨rfl, hf4⟩
  have HF4 := Lib.hid (ff HF3.out hf4)
  have hb4 := hf4.blk HB3.out (fun h => h)
  have c0 := cell_at hb4 0
  have c1 := cell_at hb4 1
  have c2 := cell_at hb4 2
  simp at c0 c1 c2
  clear hf4 hb4
  go_wp2_with fail
  go_ret2
  exact ⟨rfl, HF4.out⟩
set_option maxHeartbeats 1600000 in
theorem of_2 (d q y m : Int) (w : World) (hw : WOk w) (h : rightB 2 d q = true) (he : daysE y m d = 0) (hq : 0 ≤ q ∧ q < 7) : Calls Tryd.prog 29 #[dayV 2 d q, .int .i64 y, .int .i64 m] w (OfR (daysK y m d + (q - (daysK y m d + 4) % 7 + 7) % 7) 0 w) := by
  have HT := Lib.hid (fun W => right_any 2 d q W)
  rw [h] at HT
  have HB := Lib.hid (Blk.made w 38 #[.int .i64 2, .int .i64 d, .int .i64 q])
  have HG := Lib.hid (fun (W : World) (f : Fr w W (fun _ => False)) => begin_day 2 d q y m W (hw.fr f))
  rw [if_neg (by decide)] at HG
  have HD := Lib.hid (fun (W : World) (f : Fr w W (fun _ => False)) => Days_any y m d W (hw.fr f).lok)
  have hK := daysK_range y m d
  have HWK := Lib.hid (fun W i => quiet_week (daysK y m d) (by unfold inRange; omega) W i)
  have HBE := Lib.hid (fun W i => quiet_between ((daysK y m d + 4) % 7) q (by omega) (by omega) W i)
  rw [he] at HD
  clear he
  have hwk : 0 ≤ (daysK y m d + 4) % 7 ∧ (daysK y m d + 4) % 7 < 7 := by omega
  generalize (daysK y m d + 4) % 7 = W0 at *
  generalize daysK y m d = K at *
  have hbt : 0 ≤ (q - W0 + 7) % 7 ∧ (q - W0 + 7) % 7 < 7 := by omega
  generalize (q - W0 + 7) % 7 = V at *
  clear h hw
  go_enter Tryd.func29, Tryd.ntmps29
  go_wp2_with fail
  refine (HT.out _).mono ?_
  rintro e w2 ⟨rfl, hf2⟩
  have hfr2 := ff (Fr.new w _ _) hf2
  have HF2 := Lib.hid hfr2
  have hb2 := hf2.blk HB.out (fun h => h)
  have c0 := cell_at hb2 0
  have c1 := cell_at hb2 1
  have c2 := cell_at hb2 2
  simp at c0 c1 c2
  have HB2 := Lib.hid hb2
  clear hf2 hb2 hfr2
  go_wp2_with fail
  refine (HG.out _ HF2.out).mono ?_
  rintro e w3 ⟨rfl, hf3⟩
  have HF3 := Lib.hid (ff HF2.out hf3)
  have HB3 := Lib.hid (hf3.blk HB2.out (fun h => h))
  clear hf3
  go_wp2_with fail
  refine (HD.out _ HF3.out).mono ?_
  rintro e w4 ⟨rfl, hf4⟩
  have HF4 := Lib.hid (ff HF3.out hf4)
  have hb4 := hf4.blk HB3.out (fun h => h)
  have c0 := cell_at hb4 0
  have c1 := cell_at hb4 1
  have c2 := cell_at hb4 2
  simp at c0 c1 c2
  clear hf4 hb4
  go_wp2_with fail
  go_quiet ((first | with_reducible exact HWK.out _ _ | with_reducible exact HBE.out _ _))
  go_wp2_with fail
  go_ret2
  exact ⟨rfl, ff HF4.out (Fr.drewN _ _ _)⟩
set_option maxHeartbeats 1600000 in
theorem of_1 (q y m : Int) (w : World) (hw : WOk w) (h : rightB 1 0 q = true) (he : daysE y m (Go.Civil.longI y m) = 0) (hq : 0 ≤ q ∧ q < 7) : Calls Tryd.prog 29 #[dayV 1 0 q, .int .i64 y, .int .i64 m] w (OfR (daysK y m (Go.Civil.longI y m) - ((daysK y m (Go.Civil.longI y m) + 4) % 7 - q + 7) % 7) 0 w) := by
  have HT := Lib.hid (fun W => right_any 1 0 q W)
  rw [h] at HT
  have HB := Lib.hid (Blk.made w 38 #[.int .i64 1, .int .i64 0, .int .i64 q])
  have HG := Lib.hid (fun (W : World) (f : Fr w W (fun _ => False)) => begin_day 1 0 q y m W (hw.fr f))
  rw [if_pos rfl] at HG
  have HD := Lib.hid (fun (W : World) (f : Fr w W (fun _ => False)) => Days_any y m (Go.Civil.longI y m) W (hw.fr f).lok)
  have hK := daysK_range y m (Go.Civil.longI y m)
  have HWK := Lib.hid (fun W i => quiet_week (daysK y m (Go.Civil.longI y m)) (by unfold inRange; omega) W i)
  have HBE := Lib.hid (fun W i => quiet_between q ((daysK y m (Go.Civil.longI y m) + 4) % 7) (by omega) (by omega) W i)
  rw [he] at HD
  clear he
  have hwk : 0 ≤ (daysK y m (Go.Civil.longI y m) + 4) % 7 ∧ (daysK y m (Go.Civil.longI y m) + 4) % 7 < 7 := by omega
  generalize (daysK y m (Go.Civil.longI y m) + 4) % 7 = W0 at *
  generalize daysK y m (Go.Civil.longI y m) = K at *
  have hbt : 0 ≤ (W0 - q + 7) % 7 ∧ (W0 - q + 7) % 7 < 7 := by omega
  generalize (W0 - q + 7) % 7 = V at *
  generalize Go.Civil.longI y m = L at *
  clear h hw
  go_enter Tryd.func29, Tryd.ntmps29
  go_wp2_with fail
  refine (HT.out _).mono ?_
  rintro e w2 ⟨rfl, hf2⟩
  have hfr2 := ff (Fr.new w _ _) hf2
  have HF2 := Lib.hid hfr2
  have hb2 := hf2.blk HB.out (fun h => h)
  have c0 := cell_at hb2 0
  have c1 := cell_at hb2 1
  have c2 := cell_at hb2 2
  simp at c0 c1 c2
  have HB2 := Lib.hid hb2
  clear hf2 hb2 hfr2
  go_wp2_with fail
  refine (HG.out _ HF2.out).mono ?_
  rintro e w3 ⟨rfl, hf3⟩
  have HF3 := Lib.hid (ff HF2.out hf3)
  have HB3 := Lib.hid (hf3.blk HB2.out (fun h => h))
  clear hf3
  go_wp2_with fail
  refine (HD.out _ HF3.out).mono ?_
  rintro e w4 ⟨rfl, hf4⟩
  have HF4 := Lib.hid (ff HF3.out hf4)
  have hb4 := hf4.blk HB3.out (fun h => h)
  have c0 := cell_at hb4 0
  have c1 := cell_at hb4 1
  have c2 := cell_at hb4 2
  simp at c0 c1 c2
  clear hf4 hb4
  go_wp2_with fail
  go_quiet ((first | with_reducible exact HWK.out _ _ | with_reducible exact HBE.out _ _))
  go_wp2_with fail
  go_ret2
  exact ⟨rfl, ff HF4.out (Fr.drewN _ _ _)⟩
set_option maxHeartbeats 1600000 in
theorem of_3 (d q y m : Int) (w : World) (hw : WOk w) (h : rightB 3 d q = true) (he : daysE y m d = 0) (hq : 0 ≤ q ∧ q < 7) : Calls Tryd.prog 29 #[dayV 3 d q, .int .i64 y, .int .i64 m] w (OfR (daysK y m d - ((daysK y m d + 4) % 7 - q + 7) % 7) 0 w) := by
  have HT := Lib.hid (fun W => right_any 3 d q W)
  rw [h] at HT
  have HB := Lib.hid (Blk.made w 38 #[.int .i64 3, .int .i64 d, .int .i64 q])
  have HG := Lib.hid (fun (W : World) (f : Fr w W (fun _ => False)) => begin_day 3 d q y m W (hw.fr f))
  rw [if_neg (by decide)] at HG
  have HD := Lib.hid (fun (W : World) (f : Fr w W (fun _ => False)) => Days_any y m d W (hw.fr f).lok)
  have hK := daysK_range y m d
  have HWK := Lib.hid (fun W i => quiet_week (daysK y m d) (by unfold inRange; omega) W i)
  have HBE := Lib.hid (fun W i => quiet_between q ((daysK y m d + 4) % 7) (by omega) (by omega) W i)
  rw [he] at HD
  clear he
  have hwk : 0 ≤ (daysK y m d + 4) % 7 ∧ (daysK y m d + 4) % 7 < 7 := by omega
  generalize (daysK y m d + 4) % 7 = W0 at *
  generalize daysK y m d = K at *
  have hbt : 0 ≤ (W0 - q + 7) % 7 ∧ (W0 - q + 7) % 7 < 7 := by omega
  generalize (W0 - q + 7) % 7 = V at *
  clear h hw
  go_enter Tryd.func29, Tryd.ntmps29
  go_wp2_with fail
  refine (HT.out _).mono ?_
  rintro e w2 ⟨rfl, hf2⟩
  have hfr2 := ff (Fr.new w _ _) hf2
  have HF2 := Lib.hid hfr2
  have hb2 := hf2.blk HB.out (fun h => h)
  have c0 := cell_at hb2 0
  have c1 := cell_at hb2 1
  have c2 := cell_at hb2 2
  simp at c0 c1 c2
  have HB2 := Lib.hid hb2
  clear hf2 hb2 hfr2
  go_wp2_with fail
  refine (HG.out _ HF2.out).mono ?_
  rintro e w3 ⟨rfl, hf3⟩
  have HF3 := Lib.hid (ff HF2.out hf3)
  have HB3 := Lib.hid (hf3.blk HB2.out (fun h => h))
  clear hf3
  go_wp2_with fail
  refine (HD.out _ HF3.out).mono ?_
  rintro e w4 ⟨rfl, hf4⟩
  have HF4 := Lib.hid (ff HF3.out hf4)
  have hb4 := hf4.blk HB3.out (fun h => h)
  have c0 := cell_at hb4 0
  have c1 := cell_at hb4 1
  have c2 := cell_at hb4 2
  simp at c0 c1 c2
  clear hf4 hb4
  go_wp2_with fail
  go_quiet ((first | with_reducible exact HWK.out _ _ | with_reducible exact HBE.out _ _))
  go_wp2_with fail
  go_ret2
  exact ⟨rfl, ff HF4.out (Fr.drewN _ _ _)⟩
theorem Of_any (k d q y m : Int) (w : World) (hw : WOk w) (n j : Int) (h : ofD k d q y m = (n, j)) : Calls Tryd.prog 29 #[dayV k d q, .int .i64 y, .int .i64 m] w (OfR n j w) := by
  unfold ofD at h
  by_cases hr : rightB k d q = true
  · rw [if_pos hr] at h
    by_cases he : daysE y m (dayOf k d y m) = 0
    · rw [if_pos he] at h
      injection h with h1 h2
      subst h2
      rcases rightB_iff.1 hr with ⟨rfl, a1, a2, rfl⟩ | ⟨rfl, rfl, a1, a2⟩ | ⟨hk, a1, a2, a3, a4⟩
      · rw [if_neg (by decide), if_pos rfl] at h1
        subst h1
        exact of_0 d y m w hw hr he
      · rw [if_neg (by decide), if_neg (by decide)] at h1
        subst h1
        exact of_1 q y m w hw hr he ⟨a1, a2⟩
      · rcases hk with rfl | rfl
        · rw [if_pos rfl] at h1
          subst h1
          exact of_2 d q y m w hw hr he ⟨a3, a4⟩
        · rw [if_neg (by decide), if_neg (by decide)] at h1
          subst h1
          exact of_3 d q y m w hw hr he ⟨a3, a4⟩
    · rw [if_neg he] at h
      injection h with h1 h2
      subst h1 h2
      exact of_none k d q y m w hw hr ((daysE_is _ _ _).resolve_left he)
  · rw [if_neg hr] at h
    injection h with h1 h2
    subst h1 h2
    exact of_bad k d q y m w (by simpa using hr)
end Go.Proofs.YtbkjafaijkmpfaaDoor.S6
namespace Go.Proofs.YtbkjafaijkmpfaaDoor.S6
open Go.RowKit Go.Mem Go.Dfm

theorem quiet_rweek4 (n : Int) (hn : inRange n) (W : World) (i : Nat) : Calls Tryd.prog 64 #[.int .i64 n] (W.drewN i) fun e w' => e = .returned (.int .i64 ((n + 4) % 7)) ∧ ∃ j, w' = W.drewN j :=
  (rWeek_any n _ hn).mono fun _ _ h => ⟨h.1, i, h.2.symm⟩
theorem rof4_bad (k d q y m : Int) (h : rightB k d q = false) (w : World) : Calls Tryd.prog 37 #[dayV k d q, .int .i64 y, .int .i64 m] w (OfR 0 1 w) := by
  have HT := Lib.hid (fun W => rright_any k d q W)
  rw [h] at HT
  have HF := Lib.hid (Fr.new w (.cells #[.int .i64 k, .int .i64 d, .int .i64 q] 38) (fun _ => False))
  clear h
  go_enter Tryd.func37, Tryd.ntmps37
  go_wp2_with fail
  refine (HT.out _).mono ?_
  rintro e w2 ⟨rfl, hf2⟩
  have HF2 := Lib.hid (ff HF.out hf2)
  clear hf2
  go_wp2_with fail
  go_ret2
  exact ⟨rfl, HF2.out⟩
theorem rof4_out (k d q y m : Int) (h : rightB k d q = true) (hr : Go.Civil.rightB y m 1 = false) (w : World) : Calls Tryd.prog 37 #[dayV k d q, .int .i64 y, .int .i64 m] w (OfR 0 6 w) := by
  have HT := Lib.hid (fun W => rright_any k d q W)
  rw [h] at HT
  have HF := Lib.hid (Fr.new w (.cells #[.int .i64 k, .int .i64 d, .int .i64 q] 38) (fun _ => False))
  have HL := Lib.hid (fun W => rLong_any y m W)
  have HR := Lib.hid (fun W => rRight_any y m 1 W)
  rw [hr] at HR
  clear h hr
  go_enter Tryd.func37, Tryd.ntmps37
  go_wp2_with fail
  refine (HT.out _).mono ?_
  rintro e w2 ⟨rfl, hf2⟩
  have HF2 := Lib.hid (ff HF.out hf2)
  clear hf2
  go_wp2_with fail
  refine (HL.out _).mono ?_
  rintro e w3 ⟨rfl, rfl⟩
  go_wp2_with fail
  refine (HR.out _).mono ?_
  rintro e w3 ⟨rfl, rfl⟩
  go_wp2_with fail
  go_ret2
  exact ⟨rfl, HF2.out⟩
theorem rof4_far (k d q y m : Int) (h : rightB k d q = true) (hr : Go.Civil.rightB y m 1 = true) (hd : Go.Civil.longI y m < d) (w : World) : Calls Tryd.prog 37 #[dayV k d q, .int .i64 y, .int .i64 m] w (OfR 0 6 w) := by
  have HT := Lib.hid (fun W => rright_any k d q W)
  rw [h] at HT
  have hf := Fr.new w (.cells #[.int .i64 k, .int .i64 d, .int .i64 q] 38) (fun _ => False)
  have HB := Lib.hid (Blk.made w 38 #[.int .i64 k, .int .i64 d, .int .i64 q])
  have HF := Lib.hid hf
  have HL := Lib.hid (fun W => rLong_any y m W)
  have HR := Lib.hid (fun W => rRight_any y m 1 W)
  rw [hr] at HR
  generalize Go.Civil.longI y m = L at *
  clear h hr hf
  go_enter Tryd.func37, Tryd.ntmps37
  go_wp2_with fail
  refine (HT.out _).mono ?_
  rintro e w2 ⟨rfl, hf2⟩
  have HF2 := Lib.hid (ff HF.out hf2)
  have c1 := cell_at (hf2.blk HB.out (fun h => h)) 1
  simp at c1
  clear hf2
  go_wp2_with fail
  refine (HL.out _).mono ?_
  rintro e w3 ⟨rfl, rfl⟩
  go_wp2_with fail
  refine (HR.out _).mono ?_
  rintro e w3 ⟨rfl, rfl⟩
  go_wp2_with fail
  go_ret2
  exact ⟨rfl, HF2.out⟩
theorem rof4_0 (d y m : Int) (h : rightB 0 d 0 = true) (hr : Go.Civil.rightB y m 1 = true) (hd : d ≤ Go.Civil.longI y m) (w : World) : Calls Tryd.prog 37 #[dayV 0 d 0, .int .i64 y, .int .i64 m] w (OfR (daysK y m d) 0 w) := by
  have HT := Lib.hid (fun W => rright_any 0 d 0 W)
  rw [h] at HT
  have hf := Fr.new w (.cells #[.int .i64 0, .int .i64 d, .int .i64 0] 38) (fun _ => False)
  have HB := Lib.hid (Blk.made w 38 #[.int .i64 0, .int .i64 d, .int .i64 0])
  have HF := Lib.hid hf
  have HL := Lib.hid (fun W => rLong_any y m W)
  have HR := Lib.hid (fun W => rRight_any y m 1 W)
  have HD := Lib.hid (fun W => rDays_any y m d W)
  rw [hr] at HR
  generalize Go.Civil.longI y m = L at *
  generalize daysK y m d = N at *
  generalize daysE y m d = E at *
  clear h hr hf
  go_enter Tryd.func37, Tryd.ntmps37
  go_wp2_with fail
  refine (HT.out _).mono ?_
  rintro e w2 ⟨rfl, hf2⟩
  have HF2 := Lib.hid (ff HF.out hf2)
  have c0 := cell_at (hf2.blk HB.out (fun h => h)) 0
  have c1 := cell_at (hf2.blk HB.out (fun h => h)) 1
  simp at c0 c1
  clear hf2
  go_wp2_with fail
  refine (HL.out _).mono ?_
  rintro e w3 ⟨rfl, rfl⟩
  go_wp2_with fail
  refine (HR.out _).mono ?_
  rintro e w3 ⟨rfl, rfl⟩
  go_wp2_with fail
  refine (HD.out _).mono ?_
  rintro e w3 ⟨rfl, rfl⟩
  go_wp2_with fail
  go_ret2
  exact ⟨rfl, HF2.out⟩
def RofJ (N q : Int) (w : World) (p : Nat) (cs : Array Value) (g : Nat) (v10 v12 : Value) (wr : World) : Prop := ∃ (i : Nat), i + g = 7 ∧ v12 = .int .i64 (i : Int) ∧ v10 = .int .i64 (N + i) ∧ (i : Int) ≤ (q - (N + 4) % 7 + 7) % 7 ∧ Blk wr p 38 cs ∧ Fr w wr (fun _ => False)
def RofJd (N q : Int) (w : World) (p : Nat) (cs : Array Value) (g : Nat) (v10 v12 : Value) (wr : World) : Prop := ∃ (i : Nat), i + g = 7 ∧ v12 = .int .i64 (i : Int) ∧ v10 = .int .i64 (N - i) ∧ (i : Int) ≤ ((N + 4) % 7 - q + 7) % 7 ∧ Blk wr p 38 cs ∧ Fr w wr (fun _ => False)
set_option maxHeartbeats 1600000 in
theorem rof4_1 (q y m : Int) (h : rightB 1 0 q = true) (hr : Go.Civil.rightB y m 1 = true) (hd : 0 ≤ Go.Civil.longI y m) (hq7 : 0 ≤ q ∧ q < 7) (w : World) : Calls Tryd.prog 37 #[dayV 1 0 q, .int .i64 y, .int .i64 m] w (OfR (daysK y m (Go.Civil.longI y m) - ((daysK y m (Go.Civil.longI y m) + 4) % 7 - q + 7) % 7) 0 w) := by
  have HT := Lib.hid (fun W => rright_any 1 0 q W)
  rw [h] at HT
  have hf := Fr.new w (.cells #[.int .i64 1, .int .i64 0, .int .i64 q] 38) (fun _ => False)
  have HB := Lib.hid (Blk.made w 38 #[.int .i64 1, .int .i64 0, .int .i64 q])
  have HF := Lib.hid hf
  have HL := Lib.hid (fun W => rLong_any y m W)
  have HR := Lib.hid (fun W => rRight_any y m 1 W)
  have HD := Lib.hid (fun W => rDays_any y m (Go.Civil.longI y m) W)
  have hn := daysK_range y m (Go.Civil.longI y m)
  rw [hr] at HR
  generalize daysK y m (Go.Civil.longI y m) = N at *
  generalize daysE y m (Go.Civil.longI y m) = E at *
  generalize Go.Civil.longI y m = L at *
  clear h hr hf
  go_enter Tryd.func37, Tryd.ntmps37
  go_wp2_with fail
  refine (HT.out _).mono ?_
  rintro e w2 ⟨rfl, hf2⟩
  have hb2 := hf2.blk HB.out (fun h => h)
  have c0 := cell_at hb2 0
  have c1 := cell_at hb2 1
  simp at c0 c1
  have HF2 := Lib.hid (ff HF.out hf2)
  have HB2 := Lib.hid hb2
  clear hf2 hb2
  go_wp2_with fail
  refine (HL.out _).mono ?_
  rintro e w3 ⟨rfl, rfl⟩
  go_wp2_with fail
  refine (HR.out _).mono ?_
  rintro e w3 ⟨rfl, rfl⟩
  go_wp2_with fail
  refine (HD.out _).mono ?_
  rintro e w3 ⟨rfl, rfl⟩
  go_wp2_with fail
  clear c0 c1
  go_loopg [10, 12] 7 (fun g v10 v12 wr => RofJd N q w w.heap.size #[.int .i64 1, .int .i64 0, .int .i64 q] g v10 v12 wr)
  case atStart => exact ⟨0, rfl, rfl, by simp, by omega, HB2.out, HF2.out⟩
  case round =>
    obtain ⟨i, hi, rfl, rfl, h1, hb, hf⟩ := hrel
    obtain ⟨n, hnv⟩ : ∃ n : Int, N - i = n := ⟨_, rfl⟩
    rw [hnv]
    have HBr := Lib.hid hb
    have HFr := Lib.hid hf
    have h7 := Int.emod_lt_of_pos ((N + 4) % 7 - q + 7) (show (0 : Int) < 7 by decide)
    by_cases hlt : i < 7
    · have i7 : (i : Int) < 7 := by omega
      have c0 := cell_at hb 0
      have c2 := cell_at hb 2
      simp at c0 c2
      have HWK := Lib.hid (fun W j => quiet_rweek4 n (by unfold inRange; omega) W j)
      have hn1 : -9000000 ≤ n ∧ n ≤ 9000000 := by omega
      obtain ⟨v, hv⟩ : ∃ v, (n + 4) % 7 = v := ⟨_, rfl⟩
      rw [hv] at HWK
      clear hb hf
      by_cases hq : v = q
      · subst hq
        have hN : n = N - ((N + 4) % 7 - v + 7) % 7 := by omega
        have HN := Lib.hid hN
        clear hnv hv h1 h7 hN
        go_wp2_with fail
        go_quiet (with_reducible exact HWK.out _ _)
        go_wp2_with fail
        go_ret2
        refine ⟨?_, ff HFr.out (Fr.drewN _ _ _)⟩
        rw [← HN.out]
        rfl
      · have hq2 : (v != q) = true := by simpa using hq
        have hi2 : (i : Int) + 1 ≤ ((N + 4) % 7 - q + 7) % 7 := by omega
        clear hq
        go_wp2_with fail
        go_quiet (with_reducible exact HWK.out _ _)
        go_wp2_with fail
        go_roundg (7 - (i + 1))
        case measure => omega
        case rel => exact ⟨i + 1, by omega, by go_num, (by subst hnv; go_num), by omega, (Fr.drewN _ _ (fun _ => False)).blk HBr.out (fun h => h), ff HFr.out (Fr.drewN _ _ _)⟩
    · exact absurd h1 (by omega)
set_option maxHeartbeats 1600000 in
theorem rof4_2 (d q y m : Int) (h : rightB 2 d q = true) (hr : Go.Civil.rightB y m 1 = true) (hd : d ≤ Go.Civil.longI y m) (hq7 : 0 ≤ q ∧ q < 7) (w : World) : Calls Tryd.prog 37 #[dayV 2 d q, .int .i64 y, .int .i64 m] w (OfR (daysK y m d + (q - (daysK y m d + 4) % 7 + 7) % 7) 0 w) := by
  have HT := Lib.hid (fun W => rright_any 2 d q W)
  rw [h] at HT
  have hf := Fr.new w (.cells #[.int .i64 2, .int .i64 d, .int .i64 q] 38) (fun _ => False)
  have HB := Lib.hid (Blk.made w 38 #[.int .i64 2, .int .i64 d, .int .i64 q])
  have HF := Lib.hid hf
  have HL := Lib.hid (fun W => rLong_any y m W)
  have HR := Lib.hid (fun W => rRight_any y m 1 W)
  have HD := Lib.hid (fun W => rDays_any y m (d) W)
  have hn := daysK_range y m (d)
  rw [hr] at HR
  generalize daysK y m (d) = N at *
  generalize daysE y m (d) = E at *
  generalize Go.Civil.longI y m = L at *
  clear h hr hf
  go_enter Tryd.func37, Tryd.ntmps37
  go_wp2_with fail
  refine (HT.out _).mono ?_
  rintro e w2 ⟨rfl, hf2⟩
  have hb2 := hf2.blk HB.out (fun h => h)
  have c0 := cell_at hb2 0
  have c1 := cell_at hb2 1
  simp at c0 c1
  have HF2 := Lib.hid (ff HF.out hf2)
  have HB2 := Lib.hid hb2
  clear hf2 hb2
  go_wp2_with fail
  refine (HL.out _).mono ?_
  rintro e w3 ⟨rfl, rfl⟩
  go_wp2_with fail
  refine (HR.out _).mono ?_
  rintro e w3 ⟨rfl, rfl⟩
  go_wp2_with fail
  refine (HD.out _).mono ?_
  rintro e w3 ⟨rfl, rfl⟩
  go_wp2_with fail
  clear c0 c1
  go_loopg [10, 12] 7 (fun g v10 v12 wr => RofJ N q w w.heap.size #[.int .i64 2, .int .i64 d, .int .i64 q] g v10 v12 wr)
  case atStart => exact ⟨0, rfl, rfl, by simp, by omega, HB2.out, HF2.out⟩
  case round =>
    obtain ⟨i, hi, rfl, rfl, h1, hb, hf⟩ := hrel
    obtain ⟨n, hnv⟩ : ∃ n : Int, N + i = n := ⟨_, rfl⟩
    rw [hnv]
    have HBr := Lib.hid hb
    have HFr := Lib.hid hf
    have h7 := Int.emod_lt_of_pos (q - (N + 4) % 7 + 7) (show (0 : Int) < 7 by decide)
    by_cases hlt : i < 7
    · have i7 : (i : Int) < 7 := by omega
      have c0 := cell_at hb 0
      have c2 := cell_at hb 2
      simp at c0 c2
      have HWK := Lib.hid (fun W j => quiet_rweek4 n (by unfold inRange; omega) W j)
      have hn1 : -9000000 ≤ n ∧ n ≤ 9000000 := by omega
      obtain ⟨v, hv⟩ : ∃ v, (n + 4) % 7 = v := ⟨_, rfl⟩
      rw [hv] at HWK
      clear hb hf
      by_cases hq : v = q
      · subst hq
        have hN : n = N + (v - (N + 4) % 7 + 7) % 7 := by omega
        have HN := Lib.hid hN
        clear hnv hv h1 h7 hN
        go_wp2_with fail
        go_quiet (with_reducible exact HWK.out _ _)
        go_wp2_with fail
        go_ret2
        refine ⟨?_, ff HFr.out (Fr.drewN _ _ _)⟩
        rw [← HN.out]
        rfl
      · have hq2 : (v != q) = true := by simpa using hq
        have hi2 : (i : Int) + 1 ≤ (q - (N + 4) % 7 + 7) % 7 := by omega
        clear hq
        go_wp2_with fail
        go_quiet (with_reducible exact HWK.out _ _)
        go_wp2_with fail
        go_roundg (7 - (i + 1))
        case measure => omega
        case rel => exact ⟨i + 1, by omega, by go_num, (by subst hnv; go_num), by omega, (Fr.drewN _ _ (fun _ => False)).blk HBr.out (fun h => h), ff HFr.out (Fr.drewN _ _ _)⟩
    · exact absurd h1 (by omega)
set_option maxHeartbeats 1600000 in
theorem rof4_3 (d q y m : Int) (h : rightB 3 d q = true) (hr : Go.Civil.rightB y m 1 = true) (hd : d ≤ Go.Civil.longI y m) (hq7 : 0 ≤ q ∧ q < 7) (w : World) : Calls Tryd.prog 37 #[dayV 3 d q, .int .i64 y, .int .i64 m] w (OfR (daysK y m d - ((daysK y m d + 4) % 7 - q + 7) % 7) 0 w) := by
  have HT := Lib.hid (fun W => rright_any 3 d q W)
  rw [h] at HT
  have hf := Fr.new w (.cells #[.int .i64 3, .int .i64 d, .int .i64 q] 38) (fun _ => False)
  have HB := Lib.hid (Blk.made w 38 #[.int .i64 3, .int .i64 d, .int .i64 q])
  have HF := Lib.hid hf
  have HL := Lib.hid (fun W => rLong_any y m W)
  have HR := Lib.hid (fun W => rRight_any y m 1 W)
  have HD := Lib.hid (fun W => rDays_any y m (d) W)
  have hn := daysK_range y m (d)
  rw [hr] at HR
  generalize daysK y m (d) = N at *
  generalize daysE y m (d) = E at *
  generalize Go.Civil.longI y m = L at *
  clear h hr hf
  go_enter Tryd.func37, Tryd.ntmps37
  go_wp2_with fail
  refine (HT.out _).mono ?_
  rintro e w2 ⟨rfl, hf2⟩
  have hb2 := hf2.blk HB.out (fun h => h)
  have c0 := cell_at hb2 0
  have c1 := cell_at hb2 1
  simp at c0 c1
  have HF2 := Lib.hid (ff HF.out hf2)
  have HB2 := Lib.hid hb2
  clear hf2 hb2
  go_wp2_with fail
  refine (HL.out _).mono ?_
  rintro e w3 ⟨rfl, rfl⟩
  go_wp2_with fail
  refine (HR.out _).mono ?_
  rintro e w3 ⟨rfl, rfl⟩
  go_wp2_with fail
  refine (HD.out _).mono ?_
  rintro e w3 ⟨rfl, rfl⟩
  go_wp2_with fail
  clear c0 c1
  go_loopg [10, 12] 7 (fun g v10 v12 wr => RofJd N q w w.heap.size #[.int .i64 3, .int .i64 d, .int .i64 q] g v10 v12 wr)
  case atStart => exact ⟨0, rfl, rfl, by simp, by omega, HB2.out, HF2.out⟩
  case round =>
    obtain ⟨i, hi, rfl, rfl, h1, hb, hf⟩ := hrel
    obtain ⟨n, hnv⟩ : ∃ n : Int, N - i = n := ⟨_, rfl⟩
    rw [hnv]
    have HBr := Lib.hid hb
    have HFr := Lib.hid hf
    have h7 := Int.emod_lt_of_pos ((N + 4) % 7 - q + 7) (show (0 : Int) < 7 by decide)
    by_cases hlt : i < 7
    · have i7 : (i : Int) < 7 := by omega
      have c0 := cell_at hb 0
      have c2 := cell_at hb 2
      simp at c0 c2
      have HWK := Lib.hid (fun W j => quiet_rweek4 n (by unfold inRange; omega) W j)
      have hn1 : -9000000 ≤ n ∧ n ≤ 9000000 := by omega
      obtain ⟨v, hv⟩ : ∃ v, (n + 4) % 7 = v := ⟨_, rfl⟩
      rw [hv] at HWK
      clear hb hf
      by_cases hq : v = q
      · subst hq
        have hN : n = N - ((N + 4) % 7 - v + 7) % 7 := by omega
        have HN := Lib.hid hN
        clear hnv hv h1 h7 hN
        go_wp2_with fail
        go_quiet (with_reducible exact HWK.out _ _)
        go_wp2_with fail
        go_ret2
        refine ⟨?_, ff HFr.out (Fr.drewN _ _ _)⟩
        rw [← HN.out]
        rfl
      · have hq2 : (v != q) = true := by simpa using hq
        have hi2 : (i : Int) + 1 ≤ ((N + 4) % 7 - q + 7) % 7 := by omega
        clear hq
        go_wp2_with fail
        go_quiet (with_reducible exact HWK.out _ _)
        go_wp2_with fail
        go_roundg (7 - (i + 1))
        case measure => omega
        case rel => exact ⟨i + 1, by omega, by go_num, (by subst hnv; go_num), by omega, (Fr.drewN _ _ (fun _ => False)).blk HBr.out (fun h => h), ff HFr.out (Fr.drewN _ _ _)⟩
    · exact absurd h1 (by omega)
theorem daysE4_far {y m d : Int} (h : Go.Civil.longI y m < d) : daysE y m d = 6 := by
  unfold daysE
  rw [if_neg]
  rw [Go.Civil.rightB_iff]
  omega
theorem daysE4_out {y m d : Int} (h : Go.Civil.rightB y m 1 = false) : daysE y m d = 6 := by
  unfold daysE
  rw [if_neg]
  rw [Go.Civil.rightB_iff]
  rw [Go.Civil.rightB_no] at h
  rintro ⟨h1, h2, h3, h4, h5, h6⟩
  exact h ⟨h1, h2, h3, h4, by omega, by omega⟩
theorem daysE4_in {y m d : Int} (h : Go.Civil.rightB y m 1 = true) (h1 : 1 ≤ d) (h2 : d ≤ Go.Civil.longI y m) : daysE y m d = 0 := by
  unfold daysE
  rw [if_pos]
  rw [Go.Civil.rightB_iff] at h ⊢
  omega
theorem rOf4_any (k d q y m : Int) (w : World) (n j : Int) (h : ofD k d q y m = (n, j)) : Calls Tryd.prog 37 #[dayV k d q, .int .i64 y, .int .i64 m] w (OfR n j w) := by
  cases hb : rightB k d q with
  | false =>
    have e : ofD k d q y m = (0, 1) := if_neg (by rw [hb]; decide)
    rw [e] at h
    cases h
    exact rof4_bad k d q y m hb w
  | true =>
    have hp := rightB_iff.1 hb
    have e : ofD k d q y m = if daysE y m (dayOf k d y m) = 0 then
      (if k = 2 then daysK y m (dayOf k d y m) + (q - (daysK y m (dayOf k d y m) + 4) % 7 + 7) % 7
       else if k = 0 then daysK y m (dayOf k d y m)
       else daysK y m (dayOf k d y m) - ((daysK y m (dayOf k d y m) + 4) % 7 - q + 7) % 7, 0)
      else (0, 6) := if_pos hb
    rw [e] at h
    cases hr : Go.Civil.rightB y m 1 with
    | false =>
      rw [daysE4_out hr, if_neg (by decide)] at h
      cases h
      exact rof4_out k d q y m hb hr w
    | true =>
      have hc := Go.Civil.rightB_iff.1 hr
      unfold rightP at hp
      rcases hp with ⟨rfl, h1, h2, rfl⟩ | ⟨rfl, rfl, h1, h2⟩ | ⟨hk, h1, h2, h3, h4⟩
      · rw [show dayOf 0 d y m = d from rfl] at h
        by_cases hd : d ≤ Go.Civil.longI y m
        · rw [daysE4_in hr h1 hd, if_pos rfl, if_neg (by decide), if_pos rfl] at h
          cases h
          exact rof4_0 d y m hb hr hd w
        · rw [daysE4_far (by omega), if_neg (by decide)] at h
          cases h
          exact rof4_far _ _ _ _ _ hb hr (by omega) w
      · rw [show dayOf 1 0 y m = Go.Civil.longI y m from rfl, daysE4_in hr (by omega) (Int.le_refl _), if_pos rfl, if_neg (by decide), if_neg (by decide)] at h
        cases h
        exact rof4_1 q y m hb hr (by omega) ⟨h1, h2⟩ w
      · have e : dayOf k d y m = d := by unfold dayOf; rw [if_neg (by omega)]
        rw [e] at h
        by_cases hd : d ≤ Go.Civil.longI y m
        · rw [daysE4_in hr h1 hd, if_pos rfl] at h
          rcases hk with rfl | rfl
          · rw [if_pos rfl] at h
            cases h
            exact rof4_2 d q y m hb hr hd ⟨h3, h4⟩ w
          · rw [if_neg (by decide), if_neg (by decide)] at h
            cases h
            exact rof4_3 d q y m hb hr hd ⟨h3, h4⟩ w
        · rw [daysE4_far (by omega), if_neg (by decide)] at h
          cases h
          exact rof4_far _ _ _ _ _ hb hr (by omega) w
end Go.Proofs.YtbkjafaijkmpfaaDoor.S6
namespace Go.Proofs.YtbkjafaijkmpfaaDoor
open Go.RowKit Go.Mem Go.Lin Go.Xpd

/- fires in their cells -/
def fireC (f : FireL) : Array Value := #[intV f.i, intV f.y, intV f.at_, intV f.bef]
abbrev fireV (f : FireL) : Value := .agg (fireC f)
def fireL (f : FireL) : List Value := (fireC f).toList
theorem fireL_len (f : FireL) : (fireL f).length = 4 := rfl
theorem fireL_one (f : FireL) : (fireL f).toArray.all (·.oneCell') = true := by simp [fireL, fireC, Value.oneCell', intV]
theorem ff4 {a c d : World} (h : Fr a c (fun _ => False)) (h2 : Fr c d (fun _ => False)) : Fr a d (fun _ => False) := h.trans h2 (fun _ _ h => h) (fun _ _ h => h)
theorem kq4 {w a b : World} {p1 p2 p3 p4 o1 o2 o3 o4 : Nat} {v1 v2 v3 v4 : Value} (h : Fr w a (fun _ => False) ∧ a.cell? ⟨p1, o1, none⟩ = some v1 ∧ a.cell? ⟨p2, o2, none⟩ = some v2 ∧ a.cell? ⟨p3, o3, none⟩ = some v3 ∧ a.cell? ⟨p4, o4, none⟩ = some v4) (hf : Fr a b (fun _ => False)) :
    Fr w b (fun _ => False) ∧ b.cell? ⟨p1, o1, none⟩ = some v1 ∧ b.cell? ⟨p2, o2, none⟩ = some v2 ∧ b.cell? ⟨p3, o3, none⟩ = some v3 ∧ b.cell? ⟨p4, o4, none⟩ = some v4 :=
  ⟨ff4 h.1 hf, cell_far hf h.2.1 (fun h => h), cell_far hf h.2.2.1 (fun h => h), cell_far hf h.2.2.2.1 (fun h => h), cell_far hf h.2.2.2.2 (fun h => h)⟩
/-- the reference's before -/
theorem before_any (f g : FireL) (w : World) : Calls Tryd.prog 38 #[fireV f, fireV g] w fun e w' => e = .returned (.bool (decide (befo f g))) ∧ Fr w w' (fun _ => False) := by
  obtain ⟨i, y, a, b⟩ := f
  obtain ⟨j, z, c, d⟩ := g
  obtain ⟨r, hr⟩ : ∃ r, decide (befo ⟨i, y, a, b⟩ ⟨j, z, c, d⟩) = r := ⟨_, rfl⟩
  have HB := Lib.hid (show r = true ↔ (a < c ∨ (a = c ∧ i < j)) by rw [← hr]; exact decide_eq_true_iff)
  rw [hr]
  clear hr
  unfold fireV fireC
  go_enter Tryd.func38, Tryd.ntmps38
  go_wp2_with fail
  all_goals
    go_ret
    refine S6.ret_bf ?_ (ff4 (Fr.new _ _ _) (Fr.new _ _ _))
    have hb := HB.out
    rw [Bool.eq_iff_iff, hb]
    simp
    try omega
end Go.Proofs.YtbkjafaijkmpfaaDoor
namespace Go.Proofs.YtbkjafaijkmpfaaDoor
open Go.RowKit Go.Mem Go.Lin Go.Dcm

/-- a row of one element, just made -/
theorem rd_made (w : World) (t : TypeId) (cs : Array Value) : Rd (w.alloc (.cells cs t)) cs.size (some ⟨w.heap.size, 0, none⟩) 1 cs.toList := by
  refine ⟨by simp, fun _ => ⟨w.heap.size, 0, rfl, fun j u hu => ?_⟩⟩
  have := cell_at (Blk.made w t cs) j
  rw [Nat.zero_add, this]
  simpa using hu
theorem one_made {cs : Array Value} (h : cs.all (·.oneCell') = true) : ∀ u ∈ cs.toList, u.oneCell' = true := by
  intro u hu
  have := (Array.all_eq_true' ).1 h u (by simpa using hu)
  exact this
/-- a row with one element more -/
theorem own_more {X : Type} {w : World} {base : Nat} {e : TypeId} {k : Nat} {f : X → List Value} {v : Value} {l : List X} {x : X} {cs : List Value} (h : w.ownsRow base e k v (l.length + 1) (l.flatMap f ++ cs)) (hc : cs = f x) : Own w base e k f v (l ++ [x]) := by
  subst hc
  show w.ownsRow base e k v (l ++ [x]).length ((l ++ [x]).flatMap f)
  simpa using h
theorem own_none {X : Type} (w : World) (base : Nat) (e : TypeId) (k : Nat) (f : X → List Value) : Own w base e k f (.slice none 0 0) ([] : List X) := World.ownsRow_nil _ _ _ _
theorem own_base {X : Type} {w : World} {a b : Nat} {e : TypeId} {k : Nat} {f : X → List Value} {v : Value} {l : List X} (h : Own w b e k f v l) (hb : a ≤ b) : Own w a e k f v l := by
  refine ⟨h.1, ?_⟩
  rcases h.2 with h2 | ⟨g, cap, cur, hv, hg, r⟩
  · exact .inl h2
  · exact .inr ⟨g, cap, cur, hv, by omega, r⟩
theorem own_block {X : Type} {w : World} {b : Nat} {e : TypeId} {k : Nat} {f : X → List Value} {v : Value} {l : List X} (h : Own w b e k f v l) {g : Nat} (hg : v.ownBlock = some g) : b ≤ g ∧ g < w.heap.size ∧ ∃ cs, Blk w g e cs := by
  obtain ⟨h1, h2⟩ := h.lt g hg
  refine ⟨h1, h2, ?_⟩
  rcases h.2 with ⟨rfl, _⟩ | ⟨g', cap, cur, rfl, _, hh, _⟩
  · simp [Value.ownBlock] at hg
  · have : g' = g := by simpa [Value.ownBlock] using hg
    subst this
    exact ⟨cur, hh⟩
theorem blk_same {w : World} {g : Nat} {t t' : TypeId} {cs cs' : Array Value} (h : Blk w g t cs) (h' : Blk w g t' cs') : t = t' := by
  unfold Blk at h h'
  rw [h] at h'
  injection h' with h'
  injection h' with _ ht
/- zones -/
end Go.Proofs.YtbkjafaijkmpfaaDoor
namespace Go.Proofs.YtbkjafaijkmpfaaDoor
open Go.RowKit Go.Mem
/- append(append(append([]T{}, x[:n]...), e), x[n:]...) in a region that draws its order -/
theorem ev_ne (a : Act) {d k : Nat} (v : Value) (h : k ≠ d) : (a.put (some d) v).eval (.tmp k) = a.eval (.tmp k) := by
  simp [Act.put, Act.eval, Ne.symm h]
theorem ev_eq (a : Act) {d : Nat} (v : Value) (h : d < a.tmps.size) : (a.put (some d) v).eval (.tmp d) = v := by
  simp [Act.put, Act.eval, h]
theorem pt_size (a : Act) (d : Nat) (v : Value) : (a.put (some d) v).tmps.size = a.tmps.size := by simp [Act.put]
theorem put3 (a : Act) {d0 d1 d2 : Nat} (h0 : d0 ≠ d2) (h1 : d1 ≠ d2) (X Y Z : Value) : ((a.put (some d2) X).put (some d0) Y).put (some d1) Z = ((a.put (some d0) Y).put (some d1) Z).put (some d2) X := by
  simp only [Act.put]
  rw [Array.setIfInBounds_comm _ _ h0.symm, Array.setIfInBounds_comm _ _ h1.symm]
section
variable {P : Program} {ops : Array Oper} {Q : Exit → Act → World → Prop} {md : Region.Mode} {S : World → Prop}
theorem at_store4 {rest : List Oper} {d : Option Tmp} {x y : Operand} {ty : TypeId} {pos : String} {af : Array Edge} {g : Option (Nat × Bool)} {a : Act} {w : World} (t : TypeId) (h : wpList P ops Q (⟨d, .store t x y, ty, pos, af, g⟩ :: rest) a w) : wpList P ops Q (⟨d, .store t x y, ty, pos, af, g⟩ :: rest) a w := h
theorem wp_build0 {o : Oper} {a : Act} {w : World} {K : Act → World → Prop} {t e : TypeId} (ho : o.op = .buildSlice t 0 #[]) (h : ∀ w, (Instr.buildSlice t 0 #[]).run P w = .ok (.slice (some ⟨w.heap.size, 0, none⟩) 0 0) (w.alloc (.cells #[] e)))
    (hK : K (a.put o.dst (.slice (some ⟨w.heap.size, 0, none⟩) 0 0)) (w.alloc (.cells #[] e))) : o.wp P a w K Q := by
  unfold Oper.wp execOp
  simp only [ho, Sem.run_bind, List.map_toArray, List.map_nil, h, Result.andThen_ok]
  exact hK
theorem wp_build1 {o : Oper} {a : Act} {w : World} {K : Act → World → Prop} {t e : TypeId} {y : Operand} {v : Value} {cs : Array Value} (ho : o.op = .buildSlice t 1 #[(0, y)]) (hy : a.eval y = v)
    (h : ∀ w, (Instr.buildSlice t 1 #[(0, v)]).run P w = .ok (.slice (some ⟨w.heap.size, 0, none⟩) 1 1) (w.alloc (.cells cs e))) (hK : K (a.put o.dst (.slice (some ⟨w.heap.size, 0, none⟩) 1 1)) (w.alloc (.cells cs e))) : o.wp P a w K Q := by
  unfold Oper.wp execOp
  simp only [ho, Sem.run_bind, List.map_toArray, List.map_cons, List.map_nil, hy, h, Result.andThen_ok]
  exact hK
theorem own_grown {X : Type} {w W W' : World} {e : TypeId} {k : Nat} {f : X → List Value} {v : Value} {l : List X} (hf : Fr w W (fun _ => False)) (h : Own W w.heap.size e k f v l) (hg : W.grownBy W' v.ownBlock) : Fr w W' (fun _ => False) :=
  hf.fresh (Fr.ofGrown hg) fun _ hi => (own_block h hi.symm).1
theorem flat_ones4 {X : Type} {f : X → List Value} (h : ∀ x, (f x).toArray.all (·.oneCell') = true) (l : List X) : ∀ u ∈ l.flatMap f, u.oneCell' = true := by
  intro u hu
  obtain ⟨x, -, hx⟩ := List.mem_flatMap.1 hu
  have := h x
  rw [List.all_toArray, List.all_eq_true] at this
  exact this u hx
theorem wpAnyH_insert {X : Type} {f : X → List Value} {k : Nat} {p q : List X} {x : X} {fuel : Nat} {listed : Array Bool} {a : Act} {w : World} (i0 i1 i2 i3 i4 : Nat) (o0 o1 o2 o3 o4 : Oper)
    (h0 : ops[i0]? = some o0) (h1 : ops[i1]? = some o1) (h2 : ops[i2]? = some o2) (h3 : ops[i3]? = some o3) (h4 : ops[i4]? = some o4)
    (_n01 : i0 ≠ i1) (n02 : i0 ≠ i2) (n12 : i1 ≠ i2)
    (r : Region.ready md ops listed = [i0, i2]) (r0 : Region.ready md ops (listed.setIfInBounds i0 true) = [i1, i2]) (r01 : Region.ready md ops ((listed.setIfInBounds i0 true).setIfInBounds i1 true) = [i2])
    (r02 : Region.ready md ops ((listed.setIfInBounds i0 true).setIfInBounds i2 true) = [i1]) (r2 : Region.ready md ops (listed.setIfInBounds i2 true) = [i0])
    (r3 : Region.ready md ops (((listed.setIfInBounds i0 true).setIfInBounds i1 true).setIfInBounds i2 true) = [i3]) (r4 : Region.ready md ops ((((listed.setIfInBounds i0 true).setIfInBounds i1 true).setIfInBounds i2 true).setIfInBounds i3 true) = [i4])
    (g0 : o0.guard = none) (g1 : o1.guard = none) (g2 : o2.guard = none) (g3 : o3.guard = none) (g4 : o4.guard = none)
    {ts e : TypeId} {d0 d1 d2 d3 x1 y2 x4 : Nat} (ho0 : o0.op = .buildSlice ts 0 #[]) (ho1 : o1.op = .call { callee := .builtin .append, args := #[.tmp d0, .tmp x1], argTypes := #[ts, ts] })
    (ho2 : o2.op = .buildSlice ts 1 #[(0, .tmp y2)]) (ho3 : o3.op = .call { callee := .builtin .append, args := #[.tmp d1, .tmp d2], argTypes := #[ts, ts] }) (ho4 : o4.op = .call { callee := .builtin .append, args := #[.tmp d3, .tmp x4], argTypes := #[ts, ts] })
    (e0 : o0.dst = some d0) (e1 : o1.dst = some d1) (e2 : o2.dst = some d2) (e3 : o3.dst = some d3)
    (_m01 : d0 ≠ d1) (m02 : d0 ≠ d2) (m12 : d1 ≠ d2) (mx : x1 ≠ d0 ∧ x1 ≠ d2) (my : y2 ≠ d0 ∧ y2 ≠ d1) (mz : x4 ≠ d0 ∧ x4 ≠ d1 ∧ x4 ≠ d2 ∧ x4 ≠ d3)
    (ms : d0 < a.tmps.size ∧ d1 < a.tmps.size ∧ d2 < a.tmps.size ∧ d3 < a.tmps.size)
    (A1 : Option Addr) (c1 : Nat) (hx1 : a.eval (.tmp x1) = .slice A1 p.length c1) (hr1 : Rd w k A1 p.length (p.flatMap f))
    (A4 : Option Addr) (c4 : Nat) (hx4 : a.eval (.tmp x4) = .slice A4 q.length c4) (hr4 : Rd w k A4 q.length (q.flatMap f))
    (v : Value) (cs : Array Value) (hy2 : a.eval (.tmp y2) = v) (hrun0 : ∀ w, (Instr.buildSlice ts 0 #[]).run P w = .ok (.slice (some ⟨w.heap.size, 0, none⟩) 0 0) (w.alloc (.cells #[] e)))
    (hrun : ∀ w, (Instr.buildSlice ts 1 #[(0, v)]).run P w = .ok (.slice (some ⟨w.heap.size, 0, none⟩) 1 1) (w.alloc (.cells cs e)))
    (hcs : cs.toList = f x) (hone : ∀ x, (f x).toArray.all (·.oneCell') = true)
    (z : Value) (bytes : Nat) (ht : P.underlying ts = some (.slice e)) (hinf : (P.info? e).map (fun i => (i.zero, i.size, i.bytes)) = some (some z, k, bytes)) (hzs : z.cells.size = k) (hk : 0 < k) (hcz : cs.size = k)
    (hp : p.length ≤ 100000) (hq : q.length ≤ 100000) (hby : bytes ≤ 1000)
    (hS : ∀ W, Fr w W (fun _ => False) → S W)
    (h : ∀ A9 c9 v0 v1 v2 v3 W, S W → Own W w.heap.size e k f (.slice A9 (p.length + 1 + q.length) c9) (p ++ x :: q) → Fr w W (fun _ => False) →
      wpAnyH P md ops Q S fuel (((((listed.setIfInBounds i0 true).setIfInBounds i1 true).setIfInBounds i2 true).setIfInBounds i3 true).setIfInBounds i4 true) (((((a.put (some d0) v0).put (some d1) v1).put (some d2) v2).put (some d3) v3).put o4.dst (.slice A9 (p.length + 1 + q.length) c9)) W) :
    wpAnyH P md ops Q S (fuel + 5) listed a w := by
  have hw : ∀ (o : Oper) (y : Nat → Option Bool) (hg : o.guard = none), Region.wanted o y = true := fun o y hg => by simp only [Region.wanted, hg]
  obtain ⟨j0, hj0, hz0, hz1, hz2⟩ := info_parts hinf
  have big : ∀ n, n ≤ 200001 → n * bytes ≤ 140737488355328 := fun n hn => by
    have : n * bytes ≤ 200001 * 1000 := Nat.mul_le_mul hn hby
    omega
  -- behind the first three
  have last : ∀ W v0 v1 b2, Own W w.heap.size e k f v1 p → Rd W k (some ⟨b2, 0, none⟩) 1 (f x) → Fr w W (fun _ => False) →
      wpAnyH P md ops Q S (fuel + 2) (((listed.setIfInBounds i0 true).setIfInBounds i1 true).setIfInBounds i2 true) (((a.put (some d0) v0).put (some d1) v1).put (some d2) (.slice (some ⟨b2, 0, none⟩) 1 1)) W := by
    intro W v0 v1 b2 ho hr hf
    refine wpAnyH_ready r3 (by simp) (AllReadyH.cons h3 (fun K hK => ?_) AllReadyH.nil)
    rw [if_pos (hw _ _ g3)]
    have hx : ∀ y ∈ f x, y.oneCell' = true := fun y hy => by
      have := hone x
      rw [List.all_toArray, List.all_eq_true] at this
      exact this y hy
    refine wp_append_rd _ (.tmp d1) (.tmp d2) ts ho3 w.heap.size e j0 z k bytes ht hj0 hz0 hz1 hz2 hzs hk v1 p.length _ ?_ ho _ 1 1 (f x) ?_ hr hx (by simp only [maxLen]; omega) (big _ (by omega)) hf.size ?_
    · rw [ev_ne _ _ m12, ev_eq _ _ (by rw [pt_size]; exact ms.2.1)]
    · rw [ev_eq _ _ (by rw [pt_size, pt_size]; exact ms.2.2.1)]
    intro v3 W3 ho3' hg3 _
    have hf3 := own_grown hf ho hg3
    have ho3 := own_more (x := x) ho3' rfl
    rw [e3]
    refine hK.out _ _ (hS _ hf3) (fun _ => ?_)
    refine wpAnyH_ready r4 (by simp) (AllReadyH.cons h4 (fun K2 hK2 => ?_) AllReadyH.nil)
    rw [if_pos (hw _ _ g4)]
    refine wp_append_rd _ (.tmp d3) (.tmp x4) ts ho4 w.heap.size e j0 z k bytes ht hj0 hz0 hz1 hz2 hzs hk v3 (p.length + 1) _ ?_ ho3' A4 q.length c4 (q.flatMap f) ?_ (Rd.fr hr4 hf3 (fun _ _ _ _ h => h)) (flat_ones4 hone q) (by simp only [maxLen]; omega) (big _ (by omega)) hf3.size ?_
    · rw [ev_eq _ _ (by rw [pt_size, pt_size, pt_size]; exact ms.2.2.2)]
    · rw [ev_ne _ _ mz.2.2.2, ev_ne _ _ mz.2.2.1, ev_ne _ _ mz.2.1, ev_ne _ _ mz.1, hx4]
    intro v4 W4 ho4' hg4 _
    have hf4 := own_grown hf3 ho3 hg4
    obtain ⟨A9, c9, rfl⟩ := Go.Mem.own_slice ho4'
    refine hK2.out _ _ (hS _ hf4) (fun hs => h A9 c9 v0 v1 _ v3 W4 hs ?_ hf4)
    show W4.ownsRow w.heap.size e k _ (p ++ x :: q).length ((p ++ x :: q).flatMap f)
    rw [show (p ++ x :: q).length = p.length + 1 + q.length by simp; omega]
    have e9 : (p ++ x :: q).flatMap f = p.flatMap f ++ f x ++ q.flatMap f := by simp
    rw [e9]
    exact ho4'
  have mk0 : ∀ W, Fr w W (fun _ => False) → Own (W.alloc (.cells #[] e)) w.heap.size e k f (.slice (some ⟨W.heap.size, 0, none⟩) 0 0) ([] : List X) := fun W hf => World.ownsRow_made W #[] 0 hf.size (Nat.zero_le _) (by simp)
  -- the first append
  have app : ∀ (a : Act) W b0 (K : Act → World → Prop), Fr w W (fun _ => False) → Own W w.heap.size e k f (.slice (some ⟨b0, 0, none⟩) 0 0) ([] : List X) → a.eval (.tmp d0) = .slice (some ⟨b0, 0, none⟩) 0 0 → a.eval (.tmp x1) = .slice A1 p.length c1 →
      (∀ v1 W', Own W' w.heap.size e k f v1 p → Fr W W' (fun i => i = b0) → Fr w W' (fun _ => False) → K (a.put (some d1) v1) W') → o1.wp P a W K Q := by
    intro a W b0 K hf ho hd hx hK
    refine wp_append_rd _ (.tmp d0) (.tmp x1) ts ho1 w.heap.size e j0 z k bytes ht hj0 hz0 hz1 hz2 hzs hk _ 0 [] hd ho A1 p.length c1 (p.flatMap f) hx (Rd.fr hr1 hf (fun _ _ _ _ h => h)) (flat_ones4 hone p) (by simp only [maxLen]; omega) (big _ (by omega)) hf.size ?_
    intro v1 W' ho' hg _
    rw [Nat.zero_add, List.nil_append] at ho'
    rw [e1]
    refine hK _ _ ho' ((Fr.ofGrown hg).mono fun i _ hi => ?_) (own_grown hf ho hg)
    have : some i = some b0 := hi
    injection this
  have hn0 := Fr.new w (.cells #[] e) (fun _ => False)
  have hn2 := Fr.new w (.cells cs e) (fun _ => False)
  have rdm : ∀ W : World, Rd (W.alloc (.cells cs e)) k (some ⟨W.heap.size, 0, none⟩) 1 (f x) := fun W => by
    have := rd_made W e cs
    rwa [hcz, hcs] at this
  refine wpAnyH_ready r (by simp) (AllReadyH.cons h0 (fun K hK => ?_) (AllReadyH.cons h2 (fun K hK => ?_) AllReadyH.nil))
  · rw [if_pos (hw _ _ g0)]
    refine wp_build0 ho0 hrun0 ?_
    rw [e0]
    refine hK.out _ _ (hS _ hn0) (fun _ => ?_)
    refine wpAnyH_ready r0 (by simp) (AllReadyH.cons h1 (fun K hK => ?_) (AllReadyH.cons h2 (fun K hK => ?_) AllReadyH.nil))
    · rw [if_pos (hw _ _ g1)]
      refine app _ _ _ K hn0 (mk0 w (Fr.refl _ _)) (ev_eq _ _ ms.1) (by rw [ev_ne _ _ mx.1]; exact hx1) fun v1 W1 ho1' _ hf1 => ?_
      refine hK.out _ _ (hS _ hf1) (fun _ => ?_)
      refine wpAnyH_ready r01 (by simp) (AllReadyH.cons h2 (fun K hK => ?_) AllReadyH.nil)
      rw [if_pos (hw _ _ g2)]
      refine wp_build1 ho2 (by rw [ev_ne _ _ my.2, ev_ne _ _ my.1]; exact hy2) hrun ?_
      rw [e2]
      have hn := Fr.new W1 (.cells cs e) (fun _ => False)
      have hf2 := hf1.trans hn (fun _ _ h => h) (fun _ _ h => h)
      exact hK.out _ _ (hS _ hf2) (fun _ => last _ _ _ _ (ho1'.kept hn) (rdm W1) hf2)
    · rw [if_pos (hw _ _ g2)]
      refine wp_build1 ho2 (by rw [ev_ne _ _ my.1]; exact hy2) hrun ?_
      rw [e2]
      have hn := Fr.new (w.alloc (.cells #[] e)) (.cells cs e) (fun _ => False)
      have hf2 := hn0.trans hn (fun _ _ h => h) (fun _ _ h => h)
      refine hK.out _ _ (hS _ hf2) (fun _ => ?_)
      refine wpAnyH_ready r02 (by simp) (AllReadyH.cons h1 (fun K hK => ?_) AllReadyH.nil)
      rw [if_pos (hw _ _ g1)]
      refine app _ _ _ K hf2 ((mk0 w (Fr.refl _ _)).kept hn) (by rw [ev_ne _ _ m02]; exact ev_eq _ _ ms.1) (by rw [ev_ne _ _ mx.2, ev_ne _ _ mx.1]; exact hx1) fun v1 W1 ho1' hg1 hf1 => ?_
      refine hK.out _ _ (hS _ hf1) (fun _ => ?_)
      rw [← Act.put_comm _ _ _ (by intro d hd e; injection hd with hd; injection e with e; omega), Array.setIfInBounds_comm _ _ n12.symm]
      refine last _ _ _ _ ho1' (Rd.fr (rdm _) hg1 (fun b _ he _ hs => ?_)) hf1
      injection he with he
      have : (w.alloc (.cells #[] e)).heap.size = b := congrArg Addr.block he
      simp at this
      omega
  · rw [if_pos (hw _ _ g2)]
    refine wp_build1 ho2 hy2 hrun ?_
    rw [e2]
    refine hK.out _ _ (hS _ hn2) (fun _ => ?_)
    refine wpAnyH_ready r2 (by simp) (AllReadyH.cons h0 (fun K hK => ?_) AllReadyH.nil)
    rw [if_pos (hw _ _ g0)]
    refine wp_build0 ho0 hrun0 ?_
    rw [e0]
    have hn := Fr.new (w.alloc (.cells cs e)) (.cells #[] e) (fun _ => False)
    have hf2 := hn2.trans hn (fun _ _ h => h) (fun _ _ h => h)
    refine hK.out _ _ (hS _ hf2) (fun _ => ?_)
    rw [Array.setIfInBounds_comm _ _ n02.symm]
    refine wpAnyH_ready r02 (by simp) (AllReadyH.cons h1 (fun K hK => ?_) AllReadyH.nil)
    rw [if_pos (hw _ _ g1)]
    refine app _ _ _ K hf2 (mk0 _ hn2) (ev_eq _ _ (by rw [pt_size]; exact ms.1)) (by rw [ev_ne _ _ mx.1, ev_ne _ _ mx.2]; exact hx1) fun v1 W1 ho1' hg1 hf1 => ?_
    refine hK.out _ _ (hS _ hf1) (fun _ => ?_)
    rw [put3 _ m02 m12, Array.setIfInBounds_comm _ _ n12.symm]
    refine last _ _ _ _ ho1' (Rd.fr (Rd.fr (rdm w) hn (fun _ _ _ _ h => h)) hg1 (fun b _ he _ hs => ?_)) hf1
    injection he with he
    have : w.heap.size = b := congrArg Addr.block he
    simp at hs
    omega
/-- x = append(x, y) in a region that draws its order, all that only reads being taken -/
theorem wpAnyH_add {X : Type} {f : X → List Value} {k : Nat} {l : List X} {x : X} {fuel : Nat} {listed : Array Bool} {a : Act} {w : World} (i j : Nat) (oi oj : Oper) (hi : ops[i]? = some oi) (hj : ops[j]? = some oj)
    (r0 : Region.ready md ops listed = [i]) (r1 : Region.ready md ops (listed.setIfInBounds i true) = [j]) (gi : oi.guard = none) (gj : oj.guard = none)
    {ts e : TypeId} {yi : Operand} {sk di : Nat} (hoi : oi.op = .buildSlice ts 1 #[(0, yi)]) (hdi : oi.dst = some di) (hoj : oj.op = .call { callee := .builtin .append, args := #[.tmp sk, .tmp di], argTypes := #[ts, ts] }) (hne : sk ≠ di) (hds : di < a.tmps.size)
    (B : Nat) (v u : Value) (cs : Array Value) (hsk : a.eval (.tmp sk) = v) (hown : Own w B e k f v l) (hyi : a.eval yi = u) (hrun : ∀ w, (Instr.buildSlice ts 1 #[(0, u)]).run P w = .ok (.slice (some ⟨w.heap.size, 0, none⟩) 1 1) (w.alloc (.cells cs e)))
    (hcs : cs.toList = f x) (hone : (f x).toArray.all (·.oneCell') = true) (z : Value) (bytes : Nat) (ht : P.underlying ts = some (.slice e)) (hinf : (P.info? e).map (fun i => (i.zero, i.size, i.bytes)) = some (some z, k, bytes)) (hzs : z.cells.size = k) (hk : 0 < k) (hcz : cs.size = k)
    (hl : l.length ≤ 1000000) (hby : bytes ≤ 1000) (hB : B ≤ w.heap.size) (hS : ∀ W, Fr w W (fun g => some g = v.ownBlock) → S W)
    (h : ∀ v9 v0 W, S W → Own W B e k f v9 (l ++ [x]) → Fr w W (fun g => some g = v.ownBlock) → wpAnyH P md ops Q S fuel ((listed.setIfInBounds i true).setIfInBounds j true) ((a.put (some di) v0).put oj.dst v9) W) :
    wpAnyH P md ops Q S (fuel + 2) listed a w := by
  have hw : ∀ (o : Oper) (y : Nat → Option Bool) (hg : o.guard = none), Region.wanted o y = true := fun o y hg => by simp only [Region.wanted, hg]
  obtain ⟨j0, hj0, hz0, hz1, hz2⟩ := info_parts hinf
  have hn := Fr.new w (.cells cs e) (fun _ => False)
  have hnv : Fr w (w.alloc (.cells cs e)) (fun g => some g = v.ownBlock) := hn.mono fun _ _ h => h.elim
  have rdm : Rd (w.alloc (.cells cs e)) k (some ⟨w.heap.size, 0, none⟩) 1 (f x) := by
    have := rd_made w e cs
    rwa [hcz, hcs] at this
  have hx : ∀ y ∈ f x, y.oneCell' = true := fun y hy => by
    rw [List.all_toArray, List.all_eq_true] at hone
    exact hone y hy
  refine wpAnyH_ready r0 (by simp) (AllReadyH.cons hi (fun K hK => ?_) AllReadyH.nil)
  rw [if_pos (hw _ _ gi)]
  refine wp_build1 hoi hyi hrun ?_
  rw [hdi]
  refine hK.out _ _ (hS _ hnv) (fun _ => ?_)
  refine wpAnyH_ready r1 (by simp) (AllReadyH.cons hj (fun K2 hK2 => ?_) AllReadyH.nil)
  rw [if_pos (hw _ _ gj)]
  refine wp_append_rd _ (.tmp sk) (.tmp di) ts hoj B e j0 z k bytes ht hj0 hz0 hz1 hz2 hzs hk v l.length _ (by rw [ev_ne _ _ hne]; exact hsk) (hown.kept hn) _ 1 1 (f x) (ev_eq _ _ hds) rdm hx (by simp only [maxLen]; omega) ?_ (Nat.le_trans hB hn.size) ?_
  · have : (l.length + 1) * bytes ≤ 1000001 * 1000 := Nat.mul_le_mul (by omega) hby
    omega
  intro v9 W ho' hg _
  have ho := own_more (x := x) ho' rfl
  have hf : Fr w W (fun g => some g = v.ownBlock) := hn.trans (Fr.ofGrown hg) (fun _ _ h => h.elim) (fun _ _ h => h)
  exact hK2.out _ _ (hS _ hf) (fun hs => h v9 _ W hs ho hf)
end
end Go.Proofs.YtbkjafaijkmpfaaDoor
