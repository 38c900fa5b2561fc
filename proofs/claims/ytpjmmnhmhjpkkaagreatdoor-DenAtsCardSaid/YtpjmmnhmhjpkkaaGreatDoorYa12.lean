import Derived.Test.YtpjmmnhmhjpkkaaGreatDoorYa11
import Derived.Deep.RegionHeld3
import Derived.Test.YtpjmmnhmhjpkkaaGreatDoorProg
import Derived.Test.YtpjmmnhmhjpkkaaGreatDoorYa09
import Derived.Test.YtpjmmnhmhjpkkaaGreatDoorYa07
import Derived.BigQuiet
import Derived.Tactics2
import Derived.Laws.StructEq
import Derived.Deep.MidRow
import Derived.Great.BuildSlice
import Derived.Laws.OwnMore
namespace Go.Proofs.YtpjmmnhmhjpkkaaGreatDoor.S6
open Go.RowKit Go.Mem Go.Dfm

def dayOf (k d y m : Int) : Int := if k = 1 then Go.Civil.longI y m else d
/-- what Of answers -/
def ofD (k d q y m : Int) : Int × Int :=
  if rightB k d q = true then
    if daysE y m (dayOf k d y m) = 0 then
      (if k = 2 then daysK y m (dayOf k d y m) + (q - (daysK y m (dayOf k d y m) + 4) % 7 + 7) % 7
       else if k = 0 then daysK y m (dayOf k d y m)
       else daysK y m (dayOf k d y m) - ((daysK y m (dayOf k d y m) + 4) % 7 - q + 7) % 7, 0)
    else (0, 6)
  else (0, 1)
def OfR (n j : Int) (w : World) (e : Ending) (w' : World) : Prop := e = .returned (.tuple #[.int .i64 n, .int .i64 j]) ∧ Fr w w' (fun _ => False)
theorem daysE_is (y m d : Int) : daysE y m d = 0 ∨ daysE y m d = 6 := by unfold daysE; split <;> simp
theorem daysK_range (y m d : Int) : -4371587 ≤ daysK y m d ∧ daysK y m d ≤ 2932897 := by
  unfold daysK
  split
  · rename_i h
    have := Go.Civil.numD_range h
    omega
  · omega
theorem daysK_no {y m d : Int} (h : daysE y m d ≠ 0) : daysK y m d = 0 := by
  unfold daysE at h
  unfold daysK
  split at h
  · exact absurd rfl h
  · rename_i h'
    rw [if_neg h']
theorem of_bad (k d q y m : Int) (w : World) (h : rightB k d q = false) : Calls Tryz.prog 56 #[dayV k d q, .int .i64 y, .int .i64 m] w (OfR 0 1 w) := by
  have HT := Lib.hid (fun W => right_any k d q W)
  rw [h] at HT
  clear h
  go_enter Tryz.func56, Tryz.ntmps56
  go_wp2_with fail
  refine (HT.out _).mono ?_
  rintro e w2 ⟨rfl, hf2⟩
  have HF2 := Lib.hid (ff (Fr.new w _ _) hf2)
  clear hf2
  go_wp2_with fail
  go_ret2
  exact ⟨rfl, HF2.out⟩
theorem quiet_week (n : Int) (hn : inRange n) (W : World) (i : Nat) : Calls Tryz.prog 77 #[.int .i64 n] (W.drewN i) fun e w' => e = .returned (.int .i64 ((n + 4) % 7)) ∧ ∃ j, w' = W.drewN j :=
  Calls.quiet_of ((Week_any n (W.drewN i) hn).mono fun _ _ h => ⟨h.1, 1, h.2⟩)
theorem quiet_between (a b : Int) (ha : 0 ≤ a ∧ a < 7) (hb : 0 ≤ b ∧ b < 7) (W : World) (i : Nat) : Calls Tryz.prog 76 #[.int .i64 a, .int .i64 b] (W.drewN i) fun e w' => e = .returned (.int .i64 ((b - a + 7) % 7)) ∧ ∃ j, w' = W.drewN j :=
  (between_any a b (W.drewN i) ha hb).mono fun _ _ h => ⟨h.1, i, h.2.symm⟩
-- walks
set_option maxHeartbeats 1600000 in
theorem of_none (k d q y m : Int) (w : World) (hw : WOk w) (h : rightB k d q = true) (he : daysE y m (dayOf k d y m) = 6) : Calls Tryz.prog 56 #[dayV k d q, .int .i64 y, .int .i64 m] w (OfR 0 6 w) := by
  have HT := Lib.hid (fun W => right_any k d q W)
  rw [h] at HT
  have HB := Lib.hid (Blk.made w 42 #[.int .i64 k, .int .i64 d, .int .i64 q])
  have HG := Lib.hid (fun (W : World) (f : Fr w W (fun _ => False)) => begin_day k d q y m W (hw.fr f))
  rw [show (if k = 1 then Go.Civil.longI y m else d) = dayOf k d y m from rfl] at HG
  have HD := Lib.hid (fun (W : World) (f : Fr w W (fun _ => False)) => Days_any y m (dayOf k d y m) W (hw.fr f).lok)
  rw [he] at HD
  rw [daysK_no (by rw [he]; decide)] at HD
  clear he
  generalize dayOf k d y m = D at *
  clear h hw
  go_enter Tryz.func56, Tryz.ntmps56
  go_wp2_with fail
  refine (HT.out _).mono ?_
  rintro e w2 ⟨rfl, hf2⟩
  have hfr2 := ff (Fr.new w _ _) hf2
  have HF2 := Lib.hid hfr2
  have hb2 := hf2.blk HB.out (fun h => h)
  have c0 := cell_at hb2 0
  have c1 := cell_at hb2 1
  have c2 := cell_at hb2 2
  simp at c0 c1 c2
  have HB2 := Lib.hid hb2
  clear hf2 hb2 hfr2
  go_wp2_with fail
  refine (HG.out _ HF2.out).mono ?_
  rintro e w3 ⟨rfl, hf3⟩
  have HF3 := Lib.hid (ff HF2.out hf3)
  have HB3 := Lib.hid (hf3.blk HB2.out (fun h => h))
  clear hf3
  go_wp2_with fail
  refine (HD.out _ HF3.out).mono ?_
  rintro e w4 ⟨rfl, hf4⟩
  have HF4 := Lib.hid (ff HF3.out hf4)
  have hb4 := hf4.blk HB3.out (fun h => h)
  have c0 := cell_at hb4 0
  have c1 := cell_at hb4 1
  have c2 := cell_at hb4 2
  simp at c0 c1 c2
  clear hf4 hb4
  go_wp2_with fail
  go_ret2
  exact ⟨rfl, HF4.out⟩
set_option maxHeartbeats 1600000 in
theorem of_0 (d y m : Int) (w : World) (hw : WOk w) (h : rightB 0 d 0 = true) (he : daysE y m d = 0) : Calls Tryz.prog 56 #[dayV 0 d 0, .int .i64 y, .int .i64 m] w (OfR (daysK y m d) 0 w) := by
  have HT := Lib.hid (fun W => right_any 0 d 0 W)
  rw [h] at HT
  have HB := Lib.hid (Blk.made w 42 #[.int .i64 0, .int .i64 d, .int .i64 0])
  have HG := Lib.hid (fun (W : World) (f : Fr w W (fun _ => False)) => begin_day 0 d 0 y m W (hw.fr f))
  rw [if_neg (by decide)] at HG
  have HD := Lib.hid (fun (W : World) (f : Fr w W (fun _ => False)) => Days_any y m d W (hw.fr f).lok)
  rw [he] at HD
  clear he
  generalize daysK y m d = K at *
  clear h hw
  go_enter Tryz.func56, Tryz.ntmps56
  go_wp2_with fail
  refine (HT.out _).mono ?_
  rintro e w2 ⟨rfl, hf2⟩
  have hfr2 := ff (Fr.new w _ _) hf2
  have HF2 := Lib.hid hfr2
  have hb2 := hf2.blk HB.out (fun h => h)
  have c0 := cell_at hb2 0
  have c1 := cell_at hb2 1
  have c2 := cell_at hb2 2
  simp at c0 c1 c2
  have HB2 := Lib.hid hb2
  clear hf2 hb2 hfr2
  go_wp2_with fail
  refine (HG.out _ HF2.out).mono ?_
  rintro e w3 ⟨rfl, hf3⟩
  have HF3 := Lib.hid (ff HF2.out hf3)
  have HB3 := Lib.hid (hf3.blk HB2.out (fun h => h))
  clear hf3
  go_wp2_with fail
  refine (HD.out _ HF3.out).mono ?_
  rintro e w4 ⟨rfl, hf4⟩
  have HF4 := Lib.hid (ff HF3.out hf4)
  have hb4 := hf4.blk HB3.out (fun h => h)
  have c0 := cell_at hb4 0
  have c1 := cell_at hb4 1
  have c2 := cell_at hb4 2
  simp at c0 c1 c2
  clear hf4 hb4
  go_wp2_with fail
  go_ret2
  exact ⟨rfl, HF4.out⟩
set_option maxHeartbeats 1600000 in
theorem of_2 (d q y m : Int) (w : World) (hw : WOk w) (h : rightB 2 d q = true) (he : daysE y m d = 0) (hq : 0 ≤ q ∧ q < 7) : Calls Tryz.prog 56 #[dayV 2 d q, .int .i64 y, .int .i64 m] w (OfR (daysK y m d + (q - (daysK y m d + 4) % 7 + 7) % 7) 0 w) := by
  have HT := Lib.hid (fun W => right_any 2 d q W)
  rw [h] at HT
  have HB := Lib.hid (Blk.made w 42 #[.int .i64 2, .int .i64 d, .int .i64 q])
  have HG := Lib.hid (fun (W : World) (f : Fr w W (fun _ => False)) => begin_day 2 d q y m W (hw.fr f))
  rw [if_neg (by decide)] at HG
  have HD := Lib.hid (fun (W : World) (f : Fr w W (fun _ => False)) => Days_any y m d W (hw.fr f).lok)
  have hK := daysK_range y m d
  have HWK := Lib.hid (fun W i => quiet_week (daysK y m d) (by unfold inRange; omega) W i)
  have HBE := Lib.hid (fun W i => quiet_between ((daysK y m d + 4) % 7) q (by omega) (by omega) W i)
  rw [he] at HD
  clear he
  have hwk : 0 ≤ (daysK y m d + 4) % 7 ∧ (daysK y m d + 4) % 7 < 7 := by omega
  generalize (daysK y m d + 4) % 7 = W0 at *
  generalize daysK y m d = K at *
  have hbt : 0 ≤ (q - W0 + 7) % 7 ∧ (q - W0 + 7) % 7 < 7 := by omega
  generalize (q - W0 + 7) % 7 = V at *
  clear h hw
  go_enter Tryz.func56, Tryz.ntmps56
  go_wp2_with fail
  refine (HT.out _).mono ?_
  rintro e w2 ⟨rfl, hf2⟩
  have hfr2 := ff (Fr.new w _ _) hf2
  have HF2 := Lib.hid hfr2
  have hb2 := hf2.blk HB.out (fun h => h)
  have c0 := cell_at hb2 0
  have c1 := cell_at hb2 1
  have c2 := cell_at hb2 2
  simp at c0 c1 c2
  have HB2 := Lib.hid hb2
  clear hf2 hb2 hfr2
  go_wp2_with fail
  refine (HG.out _ HF2.out).mono ?_
  rintro e w3 ⟨rfl, hf3⟩
  have HF3 := Lib.hid (ff HF2.out hf3)
  have HB3 := Lib.hid (hf3.blk HB2.out (fun h => h))
  clear hf3
  go_wp2_with fail
  refine (HD.out _ HF3.out).mono ?_
  rintro e w4 ⟨rfl, hf4⟩
  have HF4 := Lib.hid (ff HF3.out hf4)
  have hb4 := hf4.blk HB3.out (fun h => h)
  have c0 := cell_at hb4 0
  have c1 := cell_at hb4 1
  have c2 := cell_at hb4 2
  simp at c0 c1 c2
  clear hf4 hb4
  go_wp2_with fail
  go_quiet ((first | with_reducible exact HWK.out _ _ | with_reducible exact HBE.out _ _))
  go_wp2_with fail
  go_ret2
  exact ⟨rfl, ff HF4.out (Fr.drewN _ _ _)⟩
set_option maxHeartbeats 1600000 in
theorem of_1 (q y m : Int) (w : World) (hw : WOk w) (h : rightB 1 0 q = true) (he : daysE y m (Go.Civil.longI y m) = 0) (hq : 0 ≤ q ∧ q < 7) : Calls Tryz.prog 56 #[dayV 1 0 q, .int .i64 y, .int .i64 m] w (OfR (daysK y m (Go.Civil.longI y m) - ((daysK y m (Go.Civil.longI y m) + 4) % 7 - q + 7) % 7) 0 w) := by
  have HT := Lib.hid (fun W => right_any 1 0 q W)
  rw [h] at HT
  have HB := Lib.hid (Blk.made w 42 #[.int .i64 1, .int .i64 0, .int .i64 q])
  have HG := Lib.hid (fun (W : World) (f : Fr w W (fun _ => False)) => begin_day 1 0 q y m W (hw.fr f))
  rw [if_pos rfl] at HG
  have HD := Lib.hid (fun (W : World) (f : Fr w W (fun _ => False)) => Days_any y m (Go.Civil.longI y m) W (hw.fr f).lok)
  have hK := daysK_range y m (Go.Civil.longI y m)
  have HWK := Lib.hid (fun W i => quiet_week (daysK y m (Go.Civil.longI y m)) (by unfold inRange; omega) W i)
  have HBE := Lib.hid (fun W i => quiet_between q ((daysK y m (Go.Civil.longI y m) + 4) % 7) (by omega) (by omega) W i)
  rw [he] at HD
  clear he
  have hwk : 0 ≤ (daysK y m (Go.Civil.longI y m) + 4) % 7 ∧ (daysK y m (Go.Civil.longI y m) + 4) % 7 < 7 := by omega
  generalize (daysK y m (Go.Civil.longI y m) + 4) % 7 = W0 at *
  generalize daysK y m (Go.Civil.longI y m) = K at *
  have hbt : 0 ≤ (W0 - q + 7) % 7 ∧ (W0 - q + 7) % 7 < 7 := by omega
  generalize (W0 - q + 7) % 7 = V at *
  generalize Go.Civil.longI y m = L at *
  clear h hw
  go_enter Tryz.func56, Tryz.ntmps56
  go_wp2_with fail
  refine (HT.out _).mono ?_
  rintro e w2 ⟨rfl, hf2⟩
  have hfr2 := ff (Fr.new w _ _) hf2
  have HF2 := Lib.hid hfr2
  have hb2 := hf2.blk HB.out (fun h => h)
  have c0 := cell_at hb2 0
  have c1 := cell_at hb2 1
  have c2 := cell_at hb2 2
  simp at c0 c1 c2
  have HB2 := Lib.hid hb2
  clear hf2 hb2 hfr2
  go_wp2_with fail
  refine (HG.out _ HF2.out).mono ?_
  rintro e w3 ⟨rfl, hf3⟩
  have HF3 := Lib.hid (ff HF2.out hf3)
  have HB3 := Lib.hid (hf3.blk HB2.out (fun h => h))
  clear hf3
  go_wp2_with fail
  refine (HD.out _ HF3.out).mono ?_
  rintro e w4 ⟨rfl, hf4⟩
  have HF4 := Lib.hid (ff HF3.out hf4)
  have hb4 := hf4.blk HB3.out (fun h => h)
  have c0 := cell_at hb4 0
  have c1 := cell_at hb4 1
  have c2 := cell_at hb4 2
  simp at c0 c1 c2
  clear hf4 hb4
  go_wp2_with fail
  go_quiet ((first | with_reducible exact HWK.out _ _ | with_reducible exact HBE.out _ _))
  go_wp2_with fail
  go_ret2
  exact ⟨rfl, ff HF4.out (Fr.drewN _ _ _)⟩
set_option maxHeartbeats 1600000 in
theorem of_3 (d q y m : Int) (w : World) (hw : WOk w) (h : rightB 3 d q = true) (he : daysE y m d = 0) (hq : 0 ≤ q ∧ q < 7) : Calls Tryz.prog 56 #[dayV 3 d q, .int .i64 y, .int .i64 m] w (OfR (daysK y m d - ((daysK y m d + 4) % 7 - q + 7) % 7) 0 w) := by
  have HT := Lib.hid (fun W => right_any 3 d q W)
  rw [h] at HT
  have HB := Lib.hid (Blk.made w 42 #[.int .i64 3, .int .i64 d, .int .i64 q])
  have HG := Lib.hid (fun (W : World) (f : Fr w W (fun _ => False)) => begin_day 3 d q y m W (hw.fr f))
  rw [if_neg (by decide)] at HG
  have HD := Lib.hid (fun (W : World) (f : Fr w W (fun _ => False)) => Days_any y m d W (hw.fr f).lok)
  have hK := daysK_range y m d
  have HWK := Lib.hid (fun W i => quiet_week (daysK y m d) (by unfold inRange; omega) W i)
  have HBE := Lib.hid (fun W i => quiet_between q ((daysK y m d + 4) % 7) (by omega) (by omega) W i)
  rw [he] at HD
  clear he
  have hwk : 0 ≤ (daysK y m d + 4) % 7 ∧ (daysK y m d + 4) % 7 < 7 := by omega
  generalize (daysK y m d + 4) % 7 = W0 at *
  generalize daysK y m d = K at *
  have hbt : 0 ≤ (W0 - q + 7) % 7 ∧ (W0 - q + 7) % 7 < 7 := by omega
  generalize (W0 - q + 7) % 7 = V at *
  clear h hw
  go_enter Tryz.func56, Tryz.ntmps56
  go_wp2_with fail
  refine (HT.out _).mono ?_
  rintro e w2 ⟨rfl, hf2⟩
  have hfr2 := ff (Fr.new w _ _) hf2
  have HF2 := Lib.hid hfr2
  have hb2 := hf2.blk HB.out (fun h => h)
  have c0 := cell_at hb2 0
  have c1 := cell_at hb2 1
  have c2 := cell_at hb2 2
  simp at c0 c1 c2
  have HB2 := Lib.hid hb2
  clear hf2 hb2 hfr2
  go_wp2_with fail
  refine (HG.out _ HF2.out).mono ?_
  rintro e w3 ⟨rfl, hf3⟩
  have HF3 := Lib.hid (ff HF2.out hf3)
  have HB3 := Lib.hid (hf3.blk HB2.out (fun h => h))
  clear hf3
  go_wp2_with fail
  refine (HD.out _ HF3.out).mono ?_
  rintro e w4 ⟨rfl, hf4⟩
  have HF4 := Lib.hid (ff HF3.out hf4)
  have hb4 := hf4.blk HB3.out (fun h => h)
  have c0 := cell_at hb4 0
  have c1 := cell_at hb4 1
  have c2 := cell_at hb4 2
  simp at c0 c1 c2
  clear hf4 hb4
  go_wp2_with fail
  go_quiet ((first | with_reducible exact HWK.out _ _ | with_reducible exact HBE.out _ _))
  go_wp2_with fail
  go_ret2
  exact ⟨rfl, ff HF4.out (Fr.drewN _ _ _)⟩
theorem Of_any (k d q y m : Int) (w : World) (hw : WOk w) (n j : Int) (h : ofD k d q y m = (n, j)) : Calls Tryz.prog 56 #[dayV k d q, .int .i64 y, .int .i64 m] w (OfR n j w) := by
  unfold ofD at h
  by_cases hr : rightB k d q = true
  · rw [if_pos hr] at h
    by_cases he : daysE y m (dayOf k d y m) = 0
    · rw [if_pos he] at h
      injection h with h1 h2
      subst h2
      rcases rightB_iff.1 hr with ⟨rfl, a1, a2, rfl⟩ | ⟨rfl, rfl, a1, a2⟩ | ⟨hk, a1, a2, a3, a4⟩
      · rw [if_neg (by decide), if_pos rfl] at h1
        subst h1
        exact of_0 d y m w hw hr he
      · rw [if_neg (by decide), if_neg (by decide)] at h1
        subst h1
        exact of_1 q y m w hw hr he ⟨a1, a2⟩
      · rcases hk with rfl | rfl
        · rw [if_pos rfl] at h1
          subst h1
          exact of_2 d q y m w hw hr he ⟨a3, a4⟩
        · rw [if_neg (by decide), if_neg (by decide)] at h1
          subst h1
          exact of_3 d q y m w hw hr he ⟨a3, a4⟩
    · rw [if_neg he] at h
      injection h with h1 h2
      subst h1 h2
      exact of_none k d q y m w hw hr ((daysE_is _ _ _).resolve_left he)
  · rw [if_neg hr] at h
    injection h with h1 h2
    subst h1 h2
    exact of_bad k d q y m w (by simpa using hr)
end Go.Proofs.YtpjmmnhmhjpkkaaGreatDoor.S6
namespace Go.Proofs.YtpjmmnhmhjpkkaaGreatDoor.S6
open Go.RowKit Go.Mem Go.Dfm

theorem quiet_rweek4 (n : Int) (hn : inRange n) (W : World) (i : Nat) : Calls Tryz.prog 66 #[.int .i64 n] (W.drewN i) fun e w' => e = .returned (.int .i64 ((n + 4) % 7)) ∧ ∃ j, w' = W.drewN j :=
  (rWeek_any n _ hn).mono fun _ _ h => ⟨h.1, i, h.2.symm⟩
theorem rof4_bad (k d q y m : Int) (h : rightB k d q = false) (w : World) : Calls Tryz.prog 43 #[dayV k d q, .int .i64 y, .int .i64 m] w (OfR 0 1 w) := by
  have HT := Lib.hid (fun W => rright_any k d q W)
  rw [h] at HT
  have HF := Lib.hid (Fr.new w (.cells #[.int .i64 k, .int .i64 d, .int .i64 q] 42) (fun _ => False))
  clear h
  go_enter Tryz.func43, Tryz.ntmps43
  go_wp2_with fail
  refine (HT.out _).mono ?_
  rintro e w2 ⟨rfl, hf2⟩
  have HF2 := Lib.hid (ff HF.out hf2)
  clear hf2
  go_wp2_with fail
  go_ret2
  exact ⟨rfl, HF2.out⟩
theorem rof4_out (k d q y m : Int) (h : rightB k d q = true) (hr : Go.Civil.rightB y m 1 = false) (w : World) : Calls Tryz.prog 43 #[dayV k d q, .int .i64 y, .int .i64 m] w (OfR 0 6 w) := by
  have HT := Lib.hid (fun W => rright_any k d q W)
  rw [h] at HT
  have HF := Lib.hid (Fr.new w (.cells #[.int .i64 k, .int .i64 d, .int .i64 q] 42) (fun _ => False))
  have HL := Lib.hid (fun W => rLong_any y m W)
  have HR := Lib.hid (fun W => rRight_any y m 1 W)
  rw [hr] at HR
  clear h hr
  go_enter Tryz.func43, Tryz.ntmps43
  go_wp2_with fail
  refine (HT.out _).mono ?_
  rintro e w2 ⟨rfl, hf2⟩
  have HF2 := Lib.hid (ff HF.out hf2)
  clear hf2
  go_wp2_with fail
  refine (HL.out _).mono ?_
  rintro e w3 ⟨rfl, rfl⟩
  go_wp2_with fail
  refine (HR.out _).mono ?_
  rintro e w3 ⟨rfl, rfl⟩
  go_wp2_with fail
  go_ret2
  exact ⟨rfl, HF2.out⟩
theorem rof4_far (k d q y m : Int) (h : rightB k d q = true) (hr : Go.Civil.rightB y m 1 = true) (hd : Go.Civil.longI y m < d) (w : World) : Calls Tryz.prog 43 #[dayV k d q, .int .i64 y, .int .i64 m] w (OfR 0 6 w) := by
  have HT := Lib.hid (fun W => rright_any k d q W)
  rw [h] at HT
  have hf := Fr.new w (.cells #[.int .i64 k, .int .i64 d, .int .i64 q] 42) (fun _ => False)
  have HB := Lib.hid (Blk.made w 42 #[.int .i64 k, .int .i64 d, .int .i64 q])
  have HF := Lib.hid hf
  have HL := Lib.hid (fun W => rLong_any y m W)
  have HR := Lib.hid (fun W => rRight_any y m 1 W)
  rw [hr] at HR
  generalize Go.Civil.longI y m = L at *
  clear h hr hf
  go_enter Tryz.func43, Tryz.ntmps43
  go_wp2_with fail
  refine (HT.out _).mono ?_
  rintro e w2 ⟨rfl, hf2⟩
  have HF2 := Lib.hid (ff HF.out hf2)
  have c1 := cell_at (hf2.blk HB.out (fun h => h)) 1
  simp at c1
  clear hf2
  go_wp2_with fail
  refine (HL.out _).mono ?_
  rintro e w3 ⟨rfl, rfl⟩
  go_wp2_with fail
  refine (HR.out _).mono ?_
  rintro e w3 ⟨rfl, rfl⟩
  go_wp2_with fail
  go_ret2
  exact ⟨rfl, HF2.out⟩
theorem rof4_0 (d y m : Int) (h : rightB 0 d 0 = true) (hr : Go.Civil.rightB y m 1 = true) (hd : d ≤ Go.Civil.longI y m) (w : World) : Calls Tryz.prog 43 #[dayV 0 d 0, .int .i64 y, .int .i64 m] w (OfR (daysK y m d) 0 w) := by
  have HT := Lib.hid (fun W => rright_any 0 d 0 W)
  rw [h] at HT
  have hf := Fr.new w (.cells #[.int .i64 0, .int .i64 d, .int .i64 0] 42) (fun _ => False)
  have HB := Lib.hid (Blk.made w 42 #[.int .i64 0, .int .i64 d, .int .i64 0])
  have HF := Lib.hid hf
  have HL := Lib.hid (fun W => rLong_any y m W)
  have HR := Lib.hid (fun W => rRight_any y m 1 W)
  have HD := Lib.hid (fun W => rDays_any y m d W)
  rw [hr] at HR
  generalize Go.Civil.longI y m = L at *
  generalize daysK y m d = N at *
  generalize daysE y m d = E at *
  clear h hr hf
  go_enter Tryz.func43, Tryz.ntmps43
  go_wp2_with fail
  refine (HT.out _).mono ?_
  rintro e w2 ⟨rfl, hf2⟩
  have HF2 := Lib.hid (ff HF.out hf2)
  have c0 := cell_at (hf2.blk HB.out (fun h => h)) 0
  have c1 := cell_at (hf2.blk HB.out (fun h => h)) 1
  simp at c0 c1
  clear hf2
  go_wp2_with fail
  refine (HL.out _).mono ?_
  rintro e w3 ⟨rfl, rfl⟩
  go_wp2_with fail
  refine (HR.out _).mono ?_
  rintro e w3 ⟨rfl, rfl⟩
  go_wp2_with fail
  refine (HD.out _).mono ?_
  rintro e w3 ⟨rfl, rfl⟩
  go_wp2_with fail
  go_ret2
  exact ⟨rfl, HF2.out⟩
def RofJ (N q : Int) (w : World) (p : Nat) (cs : Array Value) (g : Nat) (v10 v12 : Value) (wr : World) : Prop := ∃ (i : Nat), i + g = 7 ∧ v12 = .int .i64 (i : Int) ∧ v10 = .int .i64 (N + i) ∧ (i : Int) ≤ (q - (N + 4) % 7 + 7) % 7 ∧ Blk wr p 42 cs ∧ Fr w wr (fun _ => False)
def RofJd (N q : Int) (w : World) (p : Nat) (cs : Array Value) (g : Nat) (v10 v12 : Value) (wr : World) : Prop := ∃ (i : Nat), i + g = 7 ∧ v12 = .int .i64 (i : Int) ∧ v10 = .int .i64 (N - i) ∧ (i : Int) ≤ ((N + 4) % 7 - q + 7) % 7 ∧ Blk wr p 42 cs ∧ Fr w wr (fun _ => False)
set_option maxHeartbeats 1600000 in
theorem rof4_1 (q y m : Int) (h : rightB 1 0 q = true) (hr : Go.Civil.rightB y m 1 = true) (hd : 0 ≤ Go.Civil.longI y m) (hq7 : 0 ≤ q ∧ q < 7) (w : World) : Calls Tryz.prog 43 #[dayV 1 0 q, .int .i64 y, .int .i64 m] w (OfR (daysK y m (Go.Civil.longI y m) - ((daysK y m (Go.Civil.longI y m) + 4) % 7 - q + 7) % 7) 0 w) := by
  have HT := Lib.hid (fun W => rright_any 1 0 q W)
  rw [h] at HT
  have hf := Fr.new w (.cells #[.int .i64 1, .int .i64 0, .int .i64 q] 42) (fun _ => False)
  have HB := Lib.hid (Blk.made w 42 #[.int .i64 1, .int .i64 0, .int .i64 q])
  have HF := Lib.hid hf
  have HL := Lib.hid (fun W => rLong_any y m W)
  have HR := Lib.hid (fun W => rRight_any y m 1 W)
  have HD := Lib.hid (fun W => rDays_any y m (Go.Civil.longI y m) W)
  have hn := daysK_range y m (Go.Civil.longI y m)
  rw [hr] at HR
  generalize daysK y m (Go.Civil.longI y m) = N at *
  generalize daysE y m (Go.Civil.longI y m) = E at *
  generalize Go.Civil.longI y m = L at *
  clear h hr hf
  go_enter Tryz.func43, Tryz.ntmps43
  go_wp2_with fail
  refine (HT.out _).mono ?_
  rintro e w2 ⟨rfl, hf2⟩
  have hb2 := hf2.blk HB.out (fun h => h)
  have c0 := cell_at hb2 0
  have c1 := cell_at hb2 1
  simp at c0 c1
  have HF2 := Lib.hid (ff HF.out hf2)
  have HB2 := Lib.hid hb2
  clear hf2 hb2
  go_wp2_with fail
  refine (HL.out _).mono ?_
  rintro e w3 ⟨rfl, rfl⟩
  go_wp2_with fail
  refine (HR.out _).mono ?_
  rintro e w3 ⟨rfl, rfl⟩
  go_wp2_with fail
  refine (HD.out _).mono ?_
  rintro e w3 ⟨rfl, rfl⟩
  go_wp2_with fail
  clear c0 c1
  go_loopg [10, 12] 7 (fun g v10 v12 wr => RofJd N q w w.heap.size #[.int .i64 1, .int .i64 0, .int .i64 q] g v10 v12 wr)
  case atStart => exact ⟨0, rfl, rfl, by simp, by omega, HB2.out, HF2.out⟩
  case round =>
    obtain ⟨i, hi, rfl, rfl, h1, hb, hf⟩ := hrel
    obtain ⟨n, hnv⟩ : ∃ n : Int, N - i = n := ⟨_, rfl⟩
    rw [hnv]
    have HBr := Lib.hid hb
    have HFr := Lib.hid hf
    have h7 := Int.emod_lt_of_pos ((N + 4) % 7 - q + 7) (show (0 : Int) < 7 by decide)
    by_cases hlt : i < 7
    · have i7 : (i : Int) < 7 := by omega
      have c0 := cell_at hb 0
      have c2 := cell_at hb 2
      simp at c0 c2
      have HWK := Lib.hid (fun W j => quiet_rweek4 n (by unfold inRange; omega) W j)
      have hn1 : -9000000 ≤ n ∧ n ≤ 9000000 := by omega
      obtain ⟨v, hv⟩ : ∃ v, (n + 4) % 7 = v := ⟨_, rfl⟩
      rw [hv] at HWK
      clear hb hf
      by_cases hq : v = q
      · subst hq
        have hN : n = N - ((N + 4) % 7 - v + 7) % 7 := by omega
        have HN := Lib.hid hN
        clear hnv hv h1 h7 hN
        go_wp2_with fail
        go_quiet (with_reducible exact HWK.out _ _)
        go_wp2_with fail
        go_ret2
        refine ⟨?_, ff HFr.out (Fr.drewN _ _ _)⟩
        rw [← HN.out]
        rfl
      · have hq2 : (v != q) = true := by simpa using hq
        have hi2 : (i : Int) + 1 ≤ ((N + 4) % 7 - q + 7) % 7 := by omega
        clear hq
        go_wp2_with fail
        go_quiet (with_reducible exact HWK.out _ _)
        go_wp2_with fail
        go_roundg (7 - (i + 1))
        case measure => omega
        case rel => exact ⟨i + 1, by omega, by go_num, (by subst hnv; go_num), by omega, (Fr.drewN _ _ (fun _ => False)).blk HBr.out (fun h => h), ff HFr.out (Fr.drewN _ _ _)⟩
    · exact absurd h1 (by omega)
set_option maxHeartbeats 1600000 in
theorem rof4_2 (d q y m : Int) (h : rightB 2 d q = true) (hr : Go.Civil.rightB y m 1 = true) (hd : d ≤ Go.Civil.longI y m) (hq7 : 0 ≤ q ∧ q < 7) (w : World) : Calls Tryz.prog 43 #[dayV 2 d q, .int .i64 y, .int .i64 m] w (OfR (daysK y m d + (q - (daysK y m d + 4) % 7 + 7) % 7) 0 w) := by
  have HT := Lib.hid (fun W => rright_any 2 d q W)
  rw [h] at HT
  have hf := Fr.new w (.cells #[.int .i64 2, .int .i64 d, .int .i64 q] 42) (fun _ => False)
  have HB := Lib.hid (Blk.made w 42 #[.int .i64 2, .int .i64 d, .int .i64 q])
  have HF := Lib.hid hf
  have HL := Lib.hid (fun W => rLong_any y m W)
  have HR := Lib.hid (fun W => rRight_any y m 1 W)
  have HD := Lib.hid (fun W => rDays_any y m (d) W)
  have hn := daysK_range y m (d)
  rw [hr] at HR
  generalize daysK y m (d) = N at *
  generalize daysE y m (d) = E at *
  generalize Go.Civil.longI y m = L at *
  clear h hr hf
  go_enter Tryz.func43, Tryz.ntmps43
  go_wp2_with fail
  refine (HT.out _).mono ?_
  rintro e w2 ⟨rfl, hf2⟩
  have hb2 := hf2.blk HB.out (fun h => h)
  have c0 := cell_at hb2 0
  have c1 := cell_at hb2 1
  simp at c0 c1
  have HF2 := Lib.hid (ff HF.out hf2)
  have HB2 := Lib.hid hb2
  clear hf2 hb2
  go_wp2_with fail
  refine (HL.out _).mono ?_
  rintro e w3 ⟨rfl, rfl⟩
  go_wp2_with fail
  refine (HR.out _).mono ?_
  rintro e w3 ⟨rfl, rfl⟩
  go_wp2_with fail
  refine (HD.out _).mono ?_
  rintro e w3 ⟨rfl, rfl⟩
  go_wp2_with fail
  clear c0 c1
  go_loopg [10, 12] 7 (fun g v10 v12 wr => RofJ N q w w.heap.size #[.int .i64 2, .int .i64 d, .int .i64 q] g v10 v12 wr)
  case atStart => exact ⟨0, rfl, rfl, by simp, by omega, HB2.out, HF2.out⟩
  case round =>
    obtain ⟨i, hi, rfl, rfl, h1, hb, hf⟩ := hrel
    obtain ⟨n, hnv⟩ : ∃ n : Int, N + i = n := ⟨_, rfl⟩
    rw [hnv]
    have HBr := Lib.hid hb
    have HFr := Lib.hid hf
    have h7 := Int.emod_lt_of_pos (q - (N + 4) % 7 + 7) (show (0 : Int) < 7 by decide)
    by_cases hlt : i < 7
    · have i7 : (i : Int) < 7 := by omega
      have c0 := cell_at hb 0
      have c2 := cell_at hb 2
      simp at c0 c2
      have HWK := Lib.hid (fun W j => quiet_rweek4 n (by unfold inRange; omega) W j)
      have hn1 : -9000000 ≤ n ∧ n ≤ 9000000 := by omega
      obtain ⟨v, hv⟩ : ∃ v, (n + 4) % 7 = v := ⟨_, rfl⟩
      rw [hv] at HWK
      clear hb hf
      by_cases hq : v = q
      · subst hq
        have hN : n = N + (v - (N + 4) % 7 + 7) % 7 := by omega
        have HN := Lib.hid hN
        clear hnv hv h1 h7 hN
        go_wp2_with fail
        go_quiet (with_reducible exact HWK.out _ _)
        go_wp2_with fail
        go_ret2
        refine ⟨?_, ff HFr.out (Fr.drewN _ _ _)⟩
        rw [← HN.out]
        rfl
      · have hq2 : (v != q) = true := by simpa using hq
        have hi2 : (i : Int) + 1 ≤ (q - (N + 4) % 7 + 7) % 7 := by omega
        clear hq
        go_wp2_with fail
        go_quiet (with_reducible exact HWK.out _ _)
        go_wp2_with fail
        go_roundg (7 - (i + 1))
        case measure => omega
        case rel => exact ⟨i + 1, by omega, by go_num, (by subst hnv; go_num), by omega, (Fr.drewN _ _ (fun _ => False)).blk HBr.out (fun h => h), ff HFr.out (Fr.drewN _ _ _)⟩
    · exact absurd h1 (by omega)
set_option maxHeartbeats 1600000 in
theorem rof4_3 (d q y m : Int) (h : rightB 3 d q = true) (hr : Go.Civil.rightB y m 1 = true) (hd : d ≤ Go.Civil.longI y m) (hq7 : 0 ≤ q ∧ q < 7) (w : World) : Calls Tryz.prog 43 #[dayV 3 d q, .int .i64 y, .int .i64 m] w (OfR (daysK y m d - ((daysK y m d + 4) % 7 - q + 7) % 7) 0 w) := by
  have HT := Lib.hid (fun W => rright_any 3 d q W)
  rw [h] at HT
  have hf := Fr.new w (.cells #[.int .i64 3, .int .i64 d, .int .i64 q] 42) (fun _ => False)
  have HB := Lib.hid (Blk.made w 42 #[.int .i64 3, .int .i64 d, .int .i64 q])
  have HF := Lib.hid hf
  have HL := Lib.hid (fun W => rLong_any y m W)
  have HR := Lib.hid (fun W => rRight_any y m 1 W)
  have HD := Lib.hid (fun W => rDays_any y m (d) W)
  have hn := daysK_range y m (d)
  rw [hr] at HR
  generalize daysK y m (d) = N at *
  generalize daysE y m (d) = E at *
  generalize Go.Civil.longI y m = L at *
  clear h hr hf
  go_enter Tryz.func43, Tryz.ntmps43
  go_wp2_with fail
  refine (HT.out _).mono ?_
  rintro e w2 ⟨rfl, hf2⟩
  have hb2 := hf2.blk HB.out (fun h => h)
  have c0 := cell_at hb2 0
  have c1 := cell_at hb2 1
  simp at c0 c1
  have HF2 := Lib.hid (ff HF.out hf2)
  have HB2 := Lib.hid hb2
  clear hf2 hb2
  go_wp2_with fail
  refine (HL.out _).mono ?_
  rintro e w3 ⟨rfl, rfl⟩
  go_wp2_with fail
  refine (HR.out _).mono ?_
  rintro e w3 ⟨rfl, rfl⟩
  go_wp2_with fail
  refine (HD.out _).mono ?_
  rintro e w3 ⟨rfl, rfl⟩
  go_wp2_with fail
  clear c0 c1
  go_loopg [10, 12] 7 (fun g v10 v12 wr => RofJd N q w w.heap.size #[.int .i64 3, .int .i64 d, .int .i64 q] g v10 v12 wr)
  case atStart => exact ⟨0, rfl, rfl, by simp, by omega, HB2.out, HF2.out⟩
  case round =>
    obtain ⟨i, hi, rfl, rfl, h1, hb, hf⟩ := hrel
    obtain ⟨n, hnv⟩ : ∃ n : Int, N - i = n := ⟨_, rfl⟩
    rw [hnv]
    have HBr := Lib.hid hb
    have HFr := Lib.hid hf
    have h7 := Int.emod_lt_of_pos ((N + 4) % 7 - q + 7) (show (0 : Int) < 7 by decide)
    by_cases hlt : i < 7
    · have i7 : (i : Int) < 7 := by omega
      have c0 := cell_at hb 0
      have c2 := cell_at hb 2
      simp at c0 c2
      have HWK := Lib.hid (fun W j => quiet_rweek4 n (by unfold inRange; omega) W j)
      have hn1 : -9000000 ≤ n ∧ n ≤ 9000000 := by omega
      obtain ⟨v, hv⟩ : ∃ v, (n + 4) % 7 = v := ⟨_, rfl⟩
      rw [hv] at HWK
      clear hb hf
      by_cases hq : v = q
      · subst hq
        have hN : n = N - ((N + 4) % 7 - v + 7) % 7 := by omega
        have HN := Lib.hid hN
        clear hnv hv h1 h7 hN
        go_wp2_with fail
        go_quiet (with_reducible exact HWK.out _ _)
        go_wp2_with fail
        go_ret2
        refine ⟨?_, ff HFr.out (Fr.drewN _ _ _)⟩
        rw [← HN.out]
        rfl
      · have hq2 : (v != q) = true := by simpa using hq
        have hi2 : (i : Int) + 1 ≤ ((N + 4) % 7 - q + 7) % 7 := by omega
        clear hq
        go_wp2_with fail
        go_quiet (with_reducible exact HWK.out _ _)
        go_wp2_with fail
        go_roundg (7 - (i + 1))
        case measure => omega
        case rel => exact ⟨i + 1, by omega, by go_num, (by subst hnv; go_num), by omega, (Fr.drewN _ _ (fun _ => False)).blk HBr.out (fun h => h), ff HFr.out (Fr.drewN _ _ _)⟩
    · exact absurd h1 (by omega)
theorem daysE4_far {y m d : Int} (h : Go.Civil.longI y m < d) : daysE y m d = 6 := by
  unfold daysE
  rw [if_neg]
  rw [Go.Civil.rightB_iff]
  omega
theorem daysE4_out {y m d : Int} (h : Go.Civil.rightB y m 1 = false) : daysE y m d = 6 := by
  unfold daysE
  rw [if_neg]
  rw [Go.Civil.rightB_iff]
  rw [Go.Civil.rightB_no] at h
  rintro ⟨h1, h2, h3, h4, h5, h6⟩
  exact h ⟨h1, h2, h3, h4, by omega, by omega⟩
theorem daysE4_in {y m d : Int} (h : Go.Civil.rightB y m 1 = true) (h1 : 1 ≤ d) (h2 : d ≤ Go.Civil.longI y m) : daysE y m d = 0 := by
  unfold daysE
  rw [if_pos]
  rw [Go.Civil.rightB_iff] at h ⊢
  omega
theorem rOf4_any (k d q y m : Int) (w : World) (n j : Int) (h : ofD k d q y m = (n, j)) : Calls Tryz.prog 43 #[dayV k d q, .int .i64 y, .int .i64 m] w (OfR n j w) := by
  cases hb : rightB k d q with
  | false =>
    have e : ofD k d q y m = (0, 1) := if_neg (by rw [hb]; decide)
    rw [e] at h
    cases h
    exact rof4_bad k d q y m hb w
  | true =>
    have hp := rightB_iff.1 hb
    have e : ofD k d q y m = if daysE y m (dayOf k d y m) = 0 then
      (if k = 2 then daysK y m (dayOf k d y m) + (q - (daysK y m (dayOf k d y m) + 4) % 7 + 7) % 7
       else if k = 0 then daysK y m (dayOf k d y m)
       else daysK y m (dayOf k d y m) - ((daysK y m (dayOf k d y m) + 4) % 7 - q + 7) % 7, 0)
      else (0, 6) := if_pos hb
    rw [e] at h
    cases hr : Go.Civil.rightB y m 1 with
    | false =>
      rw [daysE4_out hr, if_neg (by decide)] at h
      cases h
      exact rof4_out k d q y m hb hr w
    | true =>
      have hc := Go.Civil.rightB_iff.1 hr
      unfold rightP at hp
      rcases hp with ⟨rfl, h1, h2, rfl⟩ | ⟨rfl, rfl, h1, h2⟩ | ⟨hk, h1, h2, h3, h4⟩
      · rw [show dayOf 0 d y m = d from rfl] at h
        by_cases hd : d ≤ Go.Civil.longI y m
        · rw [daysE4_in hr h1 hd, if_pos rfl, if_neg (by decide), if_pos rfl] at h
          cases h
          exact rof4_0 d y m hb hr hd w
        · rw [daysE4_far (by omega), if_neg (by decide)] at h
          cases h
          exact rof4_far _ _ _ _ _ hb hr (by omega) w
      · rw [show dayOf 1 0 y m = Go.Civil.longI y m from rfl, daysE4_in hr (by omega) (Int.le_refl _), if_pos rfl, if_neg (by decide), if_neg (by decide)] at h
        cases h
        exact rof4_1 q y m hb hr (by omega) ⟨h1, h2⟩ w
      · have e : dayOf k d y m = d := by unfold dayOf; rw [if_neg (by omega)]
        rw [e] at h
        by_cases hd : d ≤ Go.Civil.longI y m
        · rw [daysE4_in hr h1 hd, if_pos rfl] at h
          rcases hk with rfl | rfl
          · rw [if_pos rfl] at h
            cases h
            exact rof4_2 d q y m hb hr hd ⟨h3, h4⟩ w
          · rw [if_neg (by decide), if_neg (by decide)] at h
            cases h
            exact rof4_3 d q y m hb hr hd ⟨h3, h4⟩ w
        · rw [daysE4_far (by omega), if_neg (by decide)] at h
          cases h
          exact rof4_far _ _ _ _ _ hb hr (by omega) w
end Go.Proofs.YtpjmmnhmhjpkkaaGreatDoor.S6
namespace Go.Proofs.YtpjmmnhmhjpkkaaGreatDoor
open Go.RowKit Go.Mem Go.Lin

abbrev strV (l : Bs) : Value := .string ⟨l.toArray⟩
abbrev intV (n : Int) : Value := .int .i64 n
abbrev dayV (d : DayL) : Value := .agg #[intV d.k, intV d.d, intV d.w]
def ruleC (r : RuleL) : Array Value := #[strV r.name, intV r.fr, intV r.to, intV r.month, intV r.on.k, intV r.on.d, intV r.on.w, intV r.at_.s, intV r.at_.k, intV r.save, strV r.letter]
abbrev ruleV (r : RuleL) : Value := .agg (ruleC r)
def tilC (u : UntilL) : Array Value := #[.bool u.has, intV u.year, intV u.month, intV u.on.k, intV u.on.d, intV u.on.w, intV u.at_.s, intV u.at_.k]
def eraC (e : EraL) : Array Value := #[intV e.off, intV e.kind, intV e.save, strV e.rules, strV e.format, .bool e.til.has, intV e.til.year, intV e.til.month, intV e.til.on.k, intV e.til.on.d, intV e.til.on.w, intV e.til.at_.s, intV e.til.at_.k]
def lineC (l : LineL) : Array Value := #[intV l.kind, strV l.rule.name, intV l.rule.fr, intV l.rule.to, intV l.rule.month, intV l.rule.on.k, intV l.rule.on.d, intV l.rule.on.w, intV l.rule.at_.s, intV l.rule.at_.k, intV l.rule.save, strV l.rule.letter,
  strV l.name, strV l.target, intV l.era.off, intV l.era.kind, intV l.era.save, strV l.era.rules, strV l.era.format, .bool l.era.til.has, intV l.era.til.year, intV l.era.til.month, intV l.era.til.on.k, intV l.era.til.on.d, intV l.era.til.on.w,
  intV l.era.til.at_.s, intV l.era.til.at_.k, intV l.err, intV l.col]
theorem eqF_cons {P : Program} {d : Nat} {xs ys : Array Value} {f : Field} {fs : List Field} {w : World} {x y : Value} {b c : Bool} (hn : (f.name ≠ "_")) (hx : (part f.type xs f.offset).run P w = .ok x w) (hy : (part f.type ys f.offset).run P w = .ok y w)
    (he : (Op.equalIn d f.type x y).run P w = .ok b w) (hr : (Op.eqFields d xs ys fs).run P w = .ok c w) : (Op.eqFields d xs ys (f :: fs)).run P w = .ok (b && c) w := by
  rw [Op.eqFields, if_pos hn]
  simp only [Sem.run_bind, hx, hy, he, Result.andThen_ok]
  cases b with
  | true => simpa using hr
  | false => simp
theorem eqF_nil {P : Program} {d : Nat} {xs ys : Array Value} {w : World} : (Op.eqFields d xs ys []).run P w = .ok true w := rfl
theorem eqI (d : Nat) (a b : Int) (w : World) : (Op.equalIn (d + 1) 3 (intV a) (intV b)).run Tryz.prog w = .ok (decide (a = b)) w := run_equalIn_int w d 3 .i64 .i64 a b Tryz.underlying3
theorem eqS (d : Nat) (a b : Bs) (w : World) : (Op.equalIn (d + 1) 9 (strV a) (strV b)).run Tryz.prog w = .ok (decide (a = b)) w := by
  rw [run_equalIn_string w d 9 _ _ Tryz.underlying9, ByteArray.toList_eq, ByteArray.toList_eq]
  congr 1
  show (a.toArray.toList == b.toArray.toList) = _
  by_cases h : a = b <;> simp [h]
end Go.Proofs.YtpjmmnhmhjpkkaaGreatDoor
namespace Go.Mem
/-- cells of a row, from a place on, turned into others -/
def setMany : Array Value → Nat → List Value → Array Value
  | cs, _, [] => cs
  | cs, o, v :: vs => setMany (cs.setIfInBounds o v) (o + 1) vs
theorem Blk.many {g : Nat} {t : TypeId} : ∀ (vs : List Value) (o : Nat) (cs : Array Value) (w : World), Blk w g t cs → Blk (w.setCells g o vs) g t (setMany cs o vs)
  | [], _, _, _, h => h
  | v :: vs, o, _, _, h => Blk.many vs (o + 1) _ _ (h.put o v)
theorem Fr.many {g : Nat} : ∀ (vs : List Value) (o : Nat) (w : World), Fr w (w.setCells g o vs) (fun i => i = g)
  | [], _, _ => Fr.refl _ _
  | v :: vs, o, _ => (Fr.set (S := fun i => i = g) (a := ⟨g, o, none⟩) (v := v) rfl).trans (Fr.many vs (o + 1) _) (fun _ _ h => h) (fun _ _ h => h)
section
variable {P : Program} {ops : Array Oper} {rest : List Oper} {o : Oper} {a : Act} {w : World} {Q : Exit → Act → World → Prop}
theorem run_loadVar_blk (w : World) (g off : Nat) (ty t : TypeId) (old cs : Array Value) (d : TypeDesc) (hg : Blk w g t old) (hu : P.underlying ty = some d) (hd : d.isRow = true) (hi : (P.info? ty).map (·.size) = some cs.size)
    (hc : ∀ j, j < cs.size → old[off + j]? = cs[j]?) : (loadVar ty ⟨g, off, none⟩).run P w = .ok (.agg cs) w := by
  have := run_loadVar_mid (P := P) w g off ty cs.toList d (fun j v hv => by
    have hj : j < cs.size := by have := (List.getElem?_eq_some_iff.1 hv).1; simpa using this
    rw [cell_at hg, hc j hj]
    simpa using hv) hu hd (by rw [hi]; simp)
  simpa using this
/-- a struct is loaded out of a row -/
theorem wpList_load_blk (ty : TypeId) (x : Operand) (g off : Nat) (t : TypeId) (old cs : Array Value) (d : TypeDesc) (hgd : Region.wanted o (yielded ops a.tmps) = true) (ho : o.op = .load ty x) (hx : a.eval x = .pointer (some ⟨g, off, none⟩)) (hg : Blk w g t old)
    (hu : P.underlying ty = some d) (hd : d.isRow = true) (hi : (P.info? ty).map (·.size) = some cs.size) (hc : ∀ j, j < cs.size → old[off + j]? = cs[j]?)
    (h : wpList P ops Q rest (a.put o.dst (.agg cs)) w) : wpList P ops Q (o :: rest) a w :=
  wpList_step fun _ hK => by
    rw [if_pos hgd]
    unfold Oper.wp execOp
    simp only [ho, hx, Instr.loadAt, Instr.sureAddr, Sem.run_bind, Sem.run_pure, Result.andThen_ok, run_loadVar_blk w g off ty t old cs d hg hu hd hi hc]
    exact hK _ _ h
/-- .. in a region that draws its order -/
theorem yields_blk {S : World → Prop} (ty : TypeId) (x : Operand) (g off : Nat) (t : TypeId) (old cs : Array Value) (d : TypeDesc) (hgd : Region.wanted o (yielded ops a.tmps) = true) (ho : o.op = .load ty x) (hx : a.eval x = .pointer (some ⟨g, off, none⟩)) (hg : ∀ w, S w → Blk w g t old)
    (hu : P.underlying ty = some d) (hd : d.isRow = true) (hi : (P.info? ty).map (·.size) = some cs.size) (hc : ∀ j, j < cs.size → old[off + j]? = cs[j]?) : YieldsIf P ops S o (.agg cs) a :=
  .inl ⟨hgd, fun w hw' => by
    unfold execOp
    simp only [ho, hx, Instr.loadAt, Instr.sureAddr, Sem.run_bind, Sem.run_pure, Result.andThen_ok, run_loadVar_blk w g off ty t old cs d (hg w hw') hu hd hi hc]⟩
/-- a struct is stored into a row: the world behind it is opaque -/
theorem wpList_store_blk (ty : TypeId) (x y : Operand) (g off : Nat) (t : TypeId) (old cells new : Array Value) (hgd : Region.wanted o (yielded ops a.tmps) = true) (ho : o.op = .store ty x y) (hd : o.dst = none) (hx : a.eval x = .pointer (some ⟨g, off, none⟩)) (hy : a.eval y = .agg cells)
    (hg : Blk w g t old) (hi : (P.info? ty).map (·.size) = some cells.size) (h1 : cells.all (·.oneCell') = true) (hfit : off + cells.size ≤ old.size) (hnew : setMany old off cells.toList = new)
    (h : ∀ W, Fr w W (fun i => i = g) → Blk W g t new → wpList P ops Q rest a W) : wpList P ops Q (o :: rest) a w :=
  wpList_step fun _ hK => by
    rw [if_pos hgd]
    have ht : w.there g off cells.size := fun j hj => ⟨by rw [cell_at hg, Array.getElem?_eq_getElem (by omega)]; rfl, free_at hg _⟩
    unfold Oper.wp execOp
    simp only [ho, hx, hy, run_storeAt_mid w g off ty cells ht hi h1, Sem.run_bind, Sem.run_pure, Result.andThen_ok]
    have := hK a _ (h _ (Fr.many cells.toList off w) (by have := Blk.many cells.toList off old w hg; rw [hnew] at this; exact this))
    simpa only [Oper.upon, hd, Act.put] using this
theorem run_storeVar_cell (w : World) (g off : Nat) (t ty : TypeId) (old : Array Value) (v : Value) (hg : Blk w g t old) (hi : (P.info? ty).map (·.size) = some 1) (h1 : v.oneCell' = true) (hfit : off < old.size) : (storeVar ty ⟨g, off, none⟩ v).run P w = .ok () (w.setCell ⟨g, off, none⟩ v) := by
  have hc : v.cells = #[v] := by cases v <;> first | rfl | cases h1
  have hst : (storeCells ⟨g, off, none⟩ [v] 0).run P w = .ok () (w.setCells g (off + 0) [v]) := run_storeCells_cells (P := P) g off [v] 0 w (fun j hj => by
    have : j = 0 := by simpa using hj
    subst this
    rw [cell_at hg, Array.getElem?_eq_getElem (by omega)]; rfl) (fun j _ => free_at hg _) (fun x hx => by simp at hx; subst hx; exact h1)
  cases hq : P.info? ty with
  | none => simp [hq] at hi
  | some i =>
    have hs : i.size = 1 := by simpa [hq] using hi
    simp [storeVar, sizeOf, typeInfo, hq, hc, hs, hst, World.setCells]
/-- a value of one cell is stored into a row: the world behind it is opaque -/
theorem wpList_store_cell (ty : TypeId) (x y : Operand) (g off : Nat) (t : TypeId) (old new : Array Value) (v : Value) (hgd : Region.wanted o (yielded ops a.tmps) = true) (ho : o.op = .store ty x y) (hd : o.dst = none) (hx : a.eval x = .pointer (some ⟨g, off, none⟩)) (hy : a.eval y = v)
    (hg : Blk w g t old) (hi : (P.info? ty).map (·.size) = some 1) (h1 : v.oneCell' = true) (hfit : off < old.size) (hnew : old.setIfInBounds off v = new)
    (h : ∀ W, Fr w W (fun i => i = g) → Blk W g t new → wpList P ops Q rest a W) : wpList P ops Q (o :: rest) a w :=
  wpList_step fun _ hK => by
    rw [if_pos hgd]
    unfold Oper.wp execOp
    simp only [ho, hx, hy, Instr.storeAt, Instr.sureAddr, Sem.run_bind, Sem.run_pure, Result.andThen_ok, run_storeVar_cell w g off t ty old v hg hi h1 hfit]
    have := hK a _ (h _ (Fr.set (S := fun i => i = g) rfl) (hg.put' off v hnew))
    simpa only [Oper.upon, hd, Act.put] using this
end
end Go.Mem
namespace Go.Proofs.YtpjmmnhmhjpkkaaGreatDoor
open Go.RowKit Go.Mem Go.Lin

/- a line's parts in its cells -/
theorem ruleC_one (r : RuleL) : (ruleC r).all (·.oneCell') = true := by simp [ruleC, Value.oneCell']
theorem eraC_one (e : EraL) : (eraC e).all (·.oneCell') = true := by simp [eraC, Value.oneCell']
theorem infoR (r : RuleL) : (Tryz.prog.info? 50).map (·.size) = some (ruleC r).size := show _ = some 11 by kernel_rfl
theorem infoE (e : EraL) : (Tryz.prog.info? 48).map (·.size) = some (eraC e).size := show _ = some 13 by kernel_rfl
theorem many_list : ∀ (vs : List Value) (o : Nat) (cs : Array Value), o + vs.length ≤ cs.size → (setMany cs o vs).toList = cs.toList.take o ++ (vs ++ cs.toList.drop (o + vs.length))
  | [], o, cs, _ => by simp [setMany]
  | v :: vs, o, cs, h => by
    have h : o + (vs.length + 1) ≤ cs.size := h
    rw [setMany, many_list vs (o + 1) _ (by simp; omega)]
    simp only [Array.toList_setIfInBounds, List.length_cons]
    have e1 : (cs.toList.set o v).take (o + 1) = cs.toList.take o ++ [v] := by
      rw [List.take_set, List.take_succ_eq_append_getElem (by simp; omega), List.set_append_right _ _ (by simp; omega)]
      simp
      rw [Nat.min_eq_left (by omega)]
      simp
    have e2 : (cs.toList.set o v).drop (o + 1 + vs.length) = cs.toList.drop (o + (vs.length + 1)) := by
      rw [List.drop_set_of_lt (by omega)]
      congr 1
      omega
    rw [e1, e2, List.append_assoc]
    rfl
theorem many_eq {vs : List Value} {o : Nat} {cs new : Array Value} (h : o + vs.length ≤ cs.size) (hn : cs.toList.take o ++ (vs ++ cs.toList.drop (o + vs.length)) = new.toList) : setMany cs o vs = new :=
  Array.toList_inj.1 ((many_list vs o cs h).trans hn)
/- a rule's, an until's, an era's parts in their cells -/
theorem zero_part (cs : Array Value) : ∀ j, j < cs.size → cs[0 + j]? = cs[j]? := fun j _ => by rw [Nat.zero_add]
theorem put_all {cs ds : Array Value} (h : cs.size = ds.size) : setMany cs 0 ds.toList = ds := many_eq (by simp [h]) (by simp [h])
theorem put_ra (r s : RuleL) : setMany (ruleC r) 0 (ruleC s).toList = ruleC s := put_all rfl
end Go.Proofs.YtpjmmnhmhjpkkaaGreatDoor
namespace Go.Mem
/- rows of structs -/
theorem flat_get {X : Type} (f : X → List Value) (k : Nat) (hf : ∀ x, (f x).length = k) : ∀ {l : List X} {i : Nat} {x : X}, l[i]? = some x → ∀ j, j < k → (l.flatMap f)[i * k + j]? = (f x)[j]?
  | [], i, x, h, _, _ => by simp at h
  | y :: l, 0, x, h, j, hj => by
    have h : y = x := by simpa using h
    subst h
    rw [List.flatMap_cons, Nat.zero_mul, Nat.zero_add, List.getElem?_append_left (by rw [hf]; exact hj)]
  | y :: l, i + 1, x, h, j, hj => by
    have ih := flat_get f k hf (l := l) (i := i) (x := x) (by simpa using h) j hj
    rw [List.flatMap_cons, show (i + 1) * k + j = (f y).length + (i * k + j) by rw [hf, Nat.add_mul]; omega, List.getElem?_append_right (by omega), Nat.add_sub_cancel_left]
    exact ih
theorem flat_len {X : Type} (f : X → List Value) (k : Nat) (hf : ∀ x, (f x).length = k) : ∀ l : List X, (l.flatMap f).length = l.length * k
  | [] => by simp
  | y :: l => by rw [List.flatMap_cons, List.length_append, flat_len f k hf l, hf, List.length_cons, Nat.add_mul]; omega
/-- an element of a slice of structs -/
theorem rows_at {X : Type} {f : X → List Value} {k : Nat} (hf : ∀ x, (f x).length = k) {w : World} {A : Option Addr} {l : List X} (h : Rd w k A l.length (l.flatMap f)) {i : Nat} {x : X} (hx : l[i]? = some x) :
    ∃ b off, A = some ⟨b, off, none⟩ ∧ ∀ j, j < k → w.cell? ⟨b, off + i * k + j, none⟩ = (f x)[j]? := by
  have hi := (List.getElem?_eq_some_iff.1 hx).1
  obtain ⟨b, off, e, hc⟩ := h.2 (by omega)
  refine ⟨b, off, e, fun j hj => ?_⟩
  have hg := flat_get f k hf hx j hj
  have hj' : j < (f x).length := by rw [hf]; exact hj
  rw [List.getElem?_eq_getElem hj'] at hg ⊢
  have := hc _ _ hg
  rw [← Nat.add_assoc] at this
  exact this
section
variable {P : Program} {ops : Array Oper} {rest : List Oper} {o : Oper} {a : Act} {w : World} {Q : Exit → Act → World → Prop}
theorem run_loadVar_at (w : World) (g off : Nat) (ty : TypeId) (cs : Array Value) (d : TypeDesc) (hc : ∀ j, j < cs.size → w.cell? ⟨g, off + j, none⟩ = cs[j]?) (hu : P.underlying ty = some d) (hd : d.isRow = true) (hi : (P.info? ty).map (·.size) = some cs.size) :
    (loadVar ty ⟨g, off, none⟩).run P w = .ok (.agg cs) w := by
  have := run_loadVar_mid (P := P) w g off ty cs.toList d (fun j v hv => by
    have hj : j < cs.size := by have := (List.getElem?_eq_some_iff.1 hv).1; simpa using this
    rw [hc j hj]
    simpa using hv) hu hd (by rw [hi]; simp)
  simpa using this
/-- a struct is loaded out of a slice -/
theorem wpList_load_at (ty : TypeId) (x : Operand) (g off : Nat) (cs : Array Value) (d : TypeDesc) (hgd : Region.wanted o (yielded ops a.tmps) = true) (ho : o.op = .load ty x) (hx : a.eval x = .pointer (some ⟨g, off, none⟩)) (hc : ∀ j, j < cs.size → w.cell? ⟨g, off + j, none⟩ = cs[j]?)
    (hu : P.underlying ty = some d) (hd : d.isRow = true) (hi : (P.info? ty).map (·.size) = some cs.size)
    (h : wpList P ops Q rest (a.put o.dst (.agg cs)) w) : wpList P ops Q (o :: rest) a w :=
  wpList_step fun _ hK => by
    rw [if_pos hgd]
    unfold Oper.wp execOp
    simp only [ho, hx, Instr.loadAt, Instr.sureAddr, Sem.run_bind, Sem.run_pure, Result.andThen_ok, run_loadVar_at w g off ty cs d hc hu hd hi]
    exact hK _ _ h
theorem yields_at {S : World → Prop} (ty : TypeId) (x : Operand) (g off : Nat) (cs : Array Value) (d : TypeDesc) (hgd : Region.wanted o (yielded ops a.tmps) = true) (ho : o.op = .load ty x) (hx : a.eval x = .pointer (some ⟨g, off, none⟩)) (hc : ∀ w, S w → ∀ j, j < cs.size → w.cell? ⟨g, off + j, none⟩ = cs[j]?)
    (hu : P.underlying ty = some d) (hd : d.isRow = true) (hi : (P.info? ty).map (·.size) = some cs.size) : YieldsIf P ops S o (.agg cs) a :=
  .inl ⟨hgd, fun w hw' => by
    unfold execOp
    simp only [ho, hx, Instr.loadAt, Instr.sureAddr, Sem.run_bind, Sem.run_pure, Result.andThen_ok, run_loadVar_at w g off ty cs d (hc w hw') hu hd hi]⟩
end
theorem blkc {w : World} {g : Nat} {t : TypeId} {cs : Array Value} (h : Blk w g t cs) (i : Nat) (v : Value) (hv : cs[i]? = some v) : w.cell? ⟨g, i, none⟩ = some v := (cell_at h i).trans hv
theorem cell_far {w W : World} {S : Nat → Prop} (hf : Fr w W S) {b i : Nat} {v : Value} (h : w.cell? ⟨b, i, none⟩ = some v) (hs : ¬ S b) : W.cell? ⟨b, i, none⟩ = some v := by
  rw [World.cell?_of_block (w := w) (hf.block b (World.block_lt_of_cell? w _ h) hs)]
  exact h
theorem cells_far {w W : World} {S : Nat → Prop} (hf : Fr w W S) {b : Nat} {off k : Nat} {cs : Array Value} (h : ∀ j, j < k → w.cell? ⟨b, off + j, none⟩ = cs[j]?) (hk : k ≤ cs.size) (hs : ¬ S b) : ∀ j, j < k → W.cell? ⟨b, off + j, none⟩ = cs[j]? := by
  intro j hj
  have := h j hj
  rw [Array.getElem?_eq_getElem (by omega)] at this ⊢
  exact cell_far hf this hs
end Go.Mem
namespace Go.Proofs.YtpjmmnhmhjpkkaaGreatDoor
open Go.RowKit Go.Mem Go.Lin Go.Dcm

/- a document's parts in their cells -/
def lineL (x : LineL) : List Value := (lineC x).toList
def eraL (e : EraL) : List Value := (eraC e).toList
def intL (n : Int) : List Value := [intV n]
/-- a zone, its eras and its lines -/
abbrev ZV := ZoneL × Value × Value
theorem lineL_len (x : LineL) : (lineL x).length = 29 := rfl
/-- v owns a row of structs -/
def Own {X : Type} (w : World) (base : Nat) (e : TypeId) (k : Nat) (f : X → List Value) (v : Value) (l : List X) : Prop := w.ownsRow base e k v l.length (l.flatMap f)
theorem Own.fr {X : Type} {w w' : World} {S : Nat → Prop} {base : Nat} {e : TypeId} {k : Nat} {f : X → List Value} {v : Value} {l : List X} (h : Own w base e k f v l) (hf : Fr w w' S) (hg : ∀ g, v.ownBlock = some g → ¬ S g) : Own w' base e k f v l := hf.own h hg
theorem Own.kept {X : Type} {w w' : World} {base : Nat} {e : TypeId} {k : Nat} {f : X → List Value} {v : Value} {l : List X} (h : Own w base e k f v l) (hf : Fr w w' (fun _ => False)) : Own w' base e k f v l := hf.own h (fun _ _ h => h)
theorem Own.slice {X : Type} {w : World} {base : Nat} {e : TypeId} {k : Nat} {f : X → List Value} {v : Value} {l : List X} (h : Own w base e k f v l) : ∃ A c, v = .slice A l.length c := own_slice h
theorem Own.rd {X : Type} {w : World} {base : Nat} {e : TypeId} {k : Nat} {f : X → List Value} {v : Value} {l : List X} (h : Own w base e k f v l) : ∃ A c, v = .slice A l.length c ∧ l.length ≤ c ∧ c ≤ maxLen ∧ Rd w k A l.length (l.flatMap f) := by
  obtain ⟨A, c, h1, h2, h3, h4, -⟩ := own_rd h
  exact ⟨A, c, h1, h2, h3, h4⟩
/-- the rows of a zone -/
structure ZAt (w : World) (base : Nat) (z : ZV) : Prop where
  e : Own w base 48 13 eraL z.2.1 z.1.eras
  l : Own w base 3 1 intL z.2.2 z.1.lines
theorem ZAt.kept {w w' : World} {base : Nat} {z : ZV} (h : ZAt w base z) (hf : Fr w w' (fun _ => False)) : ZAt w' base z := ⟨h.e.kept hf, h.l.kept hf⟩
end Go.Proofs.YtpjmmnhmhjpkkaaGreatDoor
