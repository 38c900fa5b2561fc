import Derived.Test.YtofabgllfjmaaaaDoorShf
namespace Go.Proofs.YtofabgllfjmaaaaDoor
open Go.RowKit Go.Mem Go.Dfm

def dayOf (k d y m : Int) : Int := if k = 1 then Go.Civil.longI y m else d
/-- what Of answers -/
def ofD (k d q y m : Int) : Int × Int :=
  if rightB k d q = true then
    if daysE y m (dayOf k d y m) = 0 then
      (if k = 2 then daysK y m (dayOf k d y m) + (q - (daysK y m (dayOf k d y m) + 4) % 7 + 7) % 7
       else if k = 0 then daysK y m (dayOf k d y m)
       else daysK y m (dayOf k d y m) - ((daysK y m (dayOf k d y m) + 4) % 7 - q + 7) % 7, 0)
    else (0, 6)
  else (0, 1)
def OfR (n j : Int) (w : World) (e : Ending) (w' : World) : Prop := e = .returned (.tuple #[.int .i64 n, .int .i64 j]) ∧ Fr w w' (fun _ => False)
theorem daysE_is (y m d : Int) : daysE y m d = 0 ∨ daysE y m d = 6 := by unfold daysE; split <;> simp
theorem daysK_range (y m d : Int) : -4371587 ≤ daysK y m d ∧ daysK y m d ≤ 2932897 := by
  unfold daysK
  split
  · rename_i h
    have := Go.Civil.numD_range h
    omega
  · omega
theorem daysK_no {y m d : Int} (h : daysE y m d ≠ 0) : daysK y m d = 0 := by
  unfold daysE at h
  unfold daysK
  split at h
  · exact absurd rfl h
  · rename_i h'
    rw [if_neg h']
theorem of_bad (k d q y m : Int) (w : World) (h : rightB k d q = false) : Calls Tryd.prog 12 #[dayV k d q, .int .i64 y, .int .i64 m] w (OfR 0 1 w) := by
  have HT := Lib.hid (fun W => right_any k d q W)
  rw [h] at HT
  clear h
  go_enter Tryd.func12, Tryd.ntmps12
  go_wp2_with fail
  refine (HT.out _).mono ?_
  rintro e w2 ⟨rfl, hf2⟩
  have HF2 := Lib.hid (ff (Fr.new w _ _) hf2)
  clear hf2
  go_wp2_with fail
  go_ret2
  exact ⟨rfl, HF2.out⟩
theorem quiet_week (n : Int) (hn : inRange n) (W : World) (i : Nat) : Calls Tryd.prog 15 #[.int .i64 n] (W.drewN i) fun e w' => e = .returned (.int .i64 ((n + 4) % 7)) ∧ ∃ j, w' = W.drewN j :=
  Calls.quiet_of ((Week_any n (W.drewN i) hn).mono fun _ _ h => ⟨h.1, 1, h.2⟩)
theorem quiet_between (a b : Int) (ha : 0 ≤ a ∧ a < 7) (hb : 0 ≤ b ∧ b < 7) (W : World) (i : Nat) : Calls Tryd.prog 26 #[.int .i64 a, .int .i64 b] (W.drewN i) fun e w' => e = .returned (.int .i64 ((b - a + 7) % 7)) ∧ ∃ j, w' = W.drewN j :=
  (between_any a b (W.drewN i) ha hb).mono fun _ _ h => ⟨h.1, i, h.2.symm⟩
-- walks
set_option maxHeartbeats 1600000 in
theorem of_none (k d q y m : Int) (w : World) (hw : WOk w) (h : rightB k d q = true) (he : daysE y m (dayOf k d y m) = 6) : Calls Tryd.prog 12 #[dayV k d q, .int .i64 y, .int .i64 m] w (OfR 0 6 w) := by
  have HT := Lib.hid (fun W => right_any k d q W)
  rw [h] at HT
  have HB := Lib.hid (Blk.made w 23 #[.int .i64 k, .int .i64 d, .int .i64 q])
  have HG := Lib.hid (fun (W : World) (f : Fr w W (fun _ => False)) => begin_day k d q y m W (hw.fr f))
  rw [show (if k = 1 then Go.Civil.longI y m else d) = dayOf k d y m from rfl] at HG
  have HD := Lib.hid (fun (W : World) (f : Fr w W (fun _ => False)) => Days_any y m (dayOf k d y m) W (hw.fr f).lok)
  rw [he] at HD
  rw [daysK_no (by rw [he]; decide)] at HD
  clear he
  generalize dayOf k d y m = D at *
  clear h hw
  go_enter Tryd.func12, Tryd.ntmps12
  go_wp2_with fail
  refine (HT.out _).mono ?_
  rintro e w2 ⟨rfl, hf2⟩
  have hfr2 := ff (Fr.new w _ _) hf2
  have HF2 := Lib.hid hfr2
  have hb2 := hf2.blk HB.out (fun h => h)
  have c0 := cell_at hb2 0
  have c1 := cell_at hb2 1
  have c2 := cell_at hb2 2
  simp at c0 c1 c2
  have HB2 := Lib.hid hb2
  clear hf2 hb2 hfr2
  go_wp2_with fail
  refine (HG.out _ HF2.out).mono ?_
  rintro e w3 ⟨rfl, hf3⟩
  have HF3 := Lib.hid (ff HF2.out hf3)
  have HB3 := Lib.hid (hf3.blk HB2.out (fun h => h))
  clear hf3
  go_wp2_with fail
  refine (HD.out _ HF3.out).mono ?_
  rintro e w4 ⟨rfl, hf4⟩
  have HF4 := Lib.hid (ff HF3.out hf4)
  have hb4 := hf4.blk HB3.out (fun h => h)
  have c0 := cell_at hb4 0
  have c1 := cell_at hb4 1
  have c2 := cell_at hb4 2
  simp at c0 c1 c2
  clear hf4 hb4
  go_wp2_with fail
  go_ret2
  exact ⟨rfl, HF4.out⟩
set_option maxHeartbeats 1600000 in
theorem of_0 (d y m : Int) (w : World) (hw : WOk w) (h : rightB 0 d 0 = true) (he : daysE y m d = 0) : Calls Tryd.prog 12 #[dayV 0 d 0, .int .i64 y, .int .i64 m] w (OfR (daysK y m d) 0 w) := by
  have HT := Lib.hid (fun W => right_any 0 d 0 W)
  rw [h] at HT
  have HB := Lib.hid (Blk.made w 23 #[.int .i64 0, .int .i64 d, .int .i64 0])
  have HG := Lib.hid (fun (W : World) (f : Fr w W (fun _ => False)) => begin_day 0 d 0 y m W (hw.fr f))
  rw [if_neg (by decide)] at HG
  have HD := Lib.hid (fun (W : World) (f : Fr w W (fun _ => False)) => Days_any y m d W (hw.fr f).lok)
  rw [he] at HD
  clear he
  generalize daysK y m d = K at *
  clear h hw
  go_enter Tryd.func12, Tryd.ntmps12
  go_wp2_with fail
  refine (HT.out _).mono ?_
  rintro e w2 ⟨rfl, hf2⟩
  have hfr2 := ff (Fr.new w _ _) hf2
  have HF2 := Lib.hid hfr2
  have hb2 := hf2.blk HB.out (fun h => h)
  have c0 := cell_at hb2 0
  have c1 := cell_at hb2 1
  have c2 := cell_at hb2 2
  simp at c0 c1 c2
  have HB2 := Lib.hid hb2
  clear hf2 hb2 hfr2
  go_wp2_with fail
  refine (HG.out _ HF2.out).mono ?_
  rintro e w3 ⟨rfl, hf3⟩
  have HF3 := Lib.hid (ff HF2.out hf3)
  have HB3 := Lib.hid (hf3.blk HB2.out (fun h => h))
  clear hf3
  go_wp2_with fail
  refine (HD.out _ HF3.out).mono ?_
  rintro e w4 ⟨rfl, hf4⟩
  have HF4 := Lib.hid (ff HF3.out hf4)
  have hb4 := hf4.blk HB3.out (fun h => h)
  have c0 := cell_at hb4 0
  have c1 := cell_at hb4 1
  have c2 := cell_at hb4 2
  simp at c0 c1 c2
  clear hf4 hb4
  go_wp2_with fail
  go_ret2
  exact ⟨rfl, HF4.out⟩
set_option maxHeartbeats 1600000 in
theorem of_2 (d q y m : Int) (w : World) (hw : WOk w) (h : rightB 2 d q = true) (he : daysE y m d = 0) (hq : 0 ≤ q ∧ q < 7) : Calls Tryd.prog 12 #[dayV 2 d q, .int .i64 y, .int .i64 m] w (OfR (daysK y m d + (q - (daysK y m d + 4) % 7 + 7) % 7) 0 w) := by
  have HT := Lib.hid (fun W => right_any 2 d q W)
  rw [h] at HT
  have HB := Lib.hid (Blk.made w 23 #[.int .i64 2, .int .i64 d, .int .i64 q])
  have HG := Lib.hid (fun (W : World) (f : Fr w W (fun _ => False)) => begin_day 2 d q y m W (hw.fr f))
  rw [if_neg (by decide)] at HG
  have HD := Lib.hid (fun (W : World) (f : Fr w W (fun _ => False)) => Days_any y m d W (hw.fr f).lok)
  have hK := daysK_range y m d
  have HWK := Lib.hid (fun W i => quiet_week (daysK y m d) (by unfold inRange; omega) W i)
  have HBE := Lib.hid (fun W i => quiet_between ((daysK y m d + 4) % 7) q (by omega) (by omega) W i)
  rw [he] at HD
  clear he
  have hwk : 0 ≤ (daysK y m d + 4) % 7 ∧ (daysK y m d + 4) % 7 < 7 := by omega
  generalize (daysK y m d + 4) % 7 = W0 at *
  generalize daysK y m d = K at *
  have hbt : 0 ≤ (q - W0 + 7) % 7 ∧ (q - W0 + 7) % 7 < 7 := by omega
  generalize (q - W0 + 7) % 7 = V at *
  clear h hw
  go_enter Tryd.func12, Tryd.ntmps12
  go_wp2_with fail
  refine (HT.out _).mono ?_
  rintro e w2 ⟨rfl, hf2⟩
  have hfr2 := ff (Fr.new w _ _) hf2
  have HF2 := Lib.hid hfr2
  have hb2 := hf2.blk HB.out (fun h => h)
  have c0 := cell_at hb2 0
  have c1 := cell_at hb2 1
  have c2 := cell_at hb2 2
  simp at c0 c1 c2
  have HB2 := Lib.hid hb2
  clear hf2 hb2 hfr2
  go_wp2_with fail
  refine (HG.out _ HF2.out).mono ?_
  rintro e w3 ⟨rfl, hf3⟩
  have HF3 := Lib.hid (ff HF2.out hf3)
  have HB3 := Lib.hid (hf3.blk HB2.out (fun h => h))
  clear hf3
  go_wp2_with fail
  refine (HD.out _ HF3.out).mono ?_
  rintro e w4 ⟨rfl, hf4⟩
  have HF4 := Lib.hid (ff HF3.out hf4)
  have hb4 := hf4.blk HB3.out (fun h => h)
  have c0 := cell_at hb4 0
  have c1 := cell_at hb4 1
  have c2 := cell_at hb4 2
  simp at c0 c1 c2
  clear hf4 hb4
  go_wp2_with fail
  go_quiet ((first | with_reducible exact HWK.out _ _ | with_reducible exact HBE.out _ _))
  go_wp2_with fail
  go_ret2
  exact ⟨rfl, ff HF4.out (Fr.drewN _ _ _)⟩
set_option maxHeartbeats 1600000 in
theorem of_1 (q y m : Int) (w : World) (hw : WOk w) (h : rightB 1 0 q = true) (he : daysE y m (Go.Civil.longI y m) = 0) (hq : 0 ≤ q ∧ q < 7) : Calls Tryd.prog 12 #[dayV 1 0 q, .int .i64 y, .int .i64 m] w (OfR (daysK y m (Go.Civil.longI y m) - ((daysK y m (Go.Civil.longI y m) + 4) % 7 - q + 7) % 7) 0 w) := by
  have HT := Lib.hid (fun W => right_any 1 0 q W)
  rw [h] at HT
  have HB := Lib.hid (Blk.made w 23 #[.int .i64 1, .int .i64 0, .int .i64 q])
  have HG := Lib.hid (fun (W : World) (f : Fr w W (fun _ => False)) => begin_day 1 0 q y m W (hw.fr f))
  rw [if_pos rfl] at HG
  have HD := Lib.hid (fun (W : World) (f : Fr w W (fun _ => False)) => Days_any y m (Go.Civil.longI y m) W (hw.fr f).lok)
  have hK := daysK_range y m (Go.Civil.longI y m)
  have HWK := Lib.hid (fun W i => quiet_week (daysK y m (Go.Civil.longI y m)) (by unfold inRange; omega) W i)
  have HBE := Lib.hid (fun W i => quiet_between q ((daysK y m (Go.Civil.longI y m) + 4) % 7) (by omega) (by omega) W i)
  rw [he] at HD
  clear he
  have hwk : 0 ≤ (daysK y m (Go.Civil.longI y m) + 4) % 7 ∧ (daysK y m (Go.Civil.longI y m) + 4) % 7 < 7 := by omega
  generalize (daysK y m (Go.Civil.longI y m) + 4) % 7 = W0 at *
  generalize daysK y m (Go.Civil.longI y m) = K at *
  have hbt : 0 ≤ (W0 - q + 7) % 7 ∧ (W0 - q + 7) % 7 < 7 := by omega
  generalize (W0 - q + 7) % 7 = V at *
  generalize Go.Civil.longI y m = L at *
  clear h hw
  go_enter Tryd.func12, Tryd.ntmps12
  go_wp2_with fail
  refine (HT.out _).mono ?_
  rintro e w2 ⟨rfl, hf2⟩
  have hfr2 := ff (Fr.new w _ _) hf2
  have HF2 := Lib.hid hfr2
  have hb2 := hf2.blk HB.out (fun h => h)
  have c0 := cell_at hb2 0
  have c1 := cell_at hb2 1
  have c2 := cell_at hb2 2
  simp at c0 c1 c2
  have HB2 := Lib.hid hb2
  clear hf2 hb2 hfr2
  go_wp2_with fail
  refine (HG.out _ HF2.out).mono ?_
  rintro e w3 ⟨rfl, hf3⟩
  have HF3 := Lib.hid (ff HF2.out hf3)
  have HB3 := Lib.hid (hf3.blk HB2.out (fun h => h))
  clear hf3
  go_wp2_with fail
  refine (HD.out _ HF3.out).mono ?_
  rintro e w4 ⟨rfl, hf4⟩
  have HF4 := Lib.hid (ff HF3.out hf4)
  have hb4 := hf4.blk HB3.out (fun h => h)
  have c0 := cell_at hb4 0
  have c1 := cell_at hb4 1
  have c2 := cell_at hb4 2
  simp at c0 c1 c2
  clear hf4 hb4
  go_wp2_with fail
  go_quiet ((first | with_reducible exact HWK.out _ _ | with_reducible exact HBE.out _ _))
  go_wp2_with fail
  go_ret2
  exact ⟨rfl, ff HF4.out (Fr.drewN _ _ _)⟩
set_option maxHeartbeats 1600000 in
theorem of_3 (d q y m : Int) (w : World) (hw : WOk w) (h : rightB 3 d q = true) (he : daysE y m d = 0) (hq : 0 ≤ q ∧ q < 7) : Calls Tryd.prog 12 #[dayV 3 d q, .int .i64 y, .int .i64 m] w (OfR (daysK y m d - ((daysK y m d + 4) % 7 - q + 7) % 7) 0 w) := by
  have HT := Lib.hid (fun W => right_any 3 d q W)
  rw [h] at HT
  have HB := Lib.hid (Blk.made w 23 #[.int .i64 3, .int .i64 d, .int .i64 q])
  have HG := Lib.hid (fun (W : World) (f : Fr w W (fun _ => False)) => begin_day 3 d q y m W (hw.fr f))
  rw [if_neg (by decide)] at HG
  have HD := Lib.hid (fun (W : World) (f : Fr w W (fun _ => False)) => Days_any y m d W (hw.fr f).lok)
  have hK := daysK_range y m d
  have HWK := Lib.hid (fun W i => quiet_week (daysK y m d) (by unfold inRange; omega) W i)
  have HBE := Lib.hid (fun W i => quiet_between q ((daysK y m d + 4) % 7) (by omega) (by omega) W i)
  rw [he] at HD
  clear he
  have hwk : 0 ≤ (daysK y m d + 4) % 7 ∧ (daysK y m d + 4) % 7 < 7 := by omega
  generalize (daysK y m d + 4) % 7 = W0 at *
  generalize daysK y m d = K at *
  have hbt : 0 ≤ (W0 - q + 7) % 7 ∧ (W0 - q + 7) % 7 < 7 := by omega
  generalize (W0 - q + 7) % 7 = V at *
  clear h hw
  go_enter Tryd.func12, Tryd.ntmps12
  go_wp2_with fail
  refine (HT.out _).mono ?_
  rintro e w2 ⟨rfl, hf2⟩
  have hfr2 := ff (Fr.new w _ _) hf2
  have HF2 := Lib.hid hfr2
  have hb2 := hf2.blk HB.out (fun h => h)
  have c0 := cell_at hb2 0
  have c1 := cell_at hb2 1
  have c2 := cell_at hb2 2
  simp at c0 c1 c2
  have HB2 := Lib.hid hb2
  clear hf2 hb2 hfr2
  go_wp2_with fail
  refine (HG.out _ HF2.out).mono ?_
  rintro e w3 ⟨rfl, hf3⟩
  have HF3 := Lib.hid (ff HF2.out hf3)
  have HB3 := Lib.hid (hf3.blk HB2.out (fun h => h))
  clear hf3
  go_wp2_with fail
  refine (HD.out _ HF3.out).mono ?_
  rintro e w4 ⟨rfl, hf4⟩
  have HF4 := Lib.hid (ff HF3.out hf4)
  have hb4 := hf4.blk HB3.out (fun h => h)
  have c0 := cell_at hb4 0
  have c1 := cell_at hb4 1
  have c2 := cell_at hb4 2
  simp at c0 c1 c2
  clear hf4 hb4
  go_wp2_with fail
  go_quiet ((first | with_reducible exact HWK.out _ _ | with_reducible exact HBE.out _ _))
  go_wp2_with fail
  go_ret2
  exact ⟨rfl, ff HF4.out (Fr.drewN _ _ _)⟩
theorem Of_any (k d q y m : Int) (w : World) (hw : WOk w) (n j : Int) (h : ofD k d q y m = (n, j)) : Calls Tryd.prog 12 #[dayV k d q, .int .i64 y, .int .i64 m] w (OfR n j w) := by
  unfold ofD at h
  by_cases hr : rightB k d q = true
  · rw [if_pos hr] at h
    by_cases he : daysE y m (dayOf k d y m) = 0
    · rw [if_pos he] at h
      injection h with h1 h2
      subst h2
      rcases rightB_iff.1 hr with ⟨rfl, a1, a2, rfl⟩ | ⟨rfl, rfl, a1, a2⟩ | ⟨hk, a1, a2, a3, a4⟩
      · rw [if_neg (by decide), if_pos rfl] at h1
        subst h1
        exact of_0 d y m w hw hr he
      · rw [if_neg (by decide), if_neg (by decide)] at h1
        subst h1
        exact of_1 q y m w hw hr he ⟨a1, a2⟩
      · rcases hk with rfl | rfl
        · rw [if_pos rfl] at h1
          subst h1
          exact of_2 d q y m w hw hr he ⟨a3, a4⟩
        · rw [if_neg (by decide), if_neg (by decide)] at h1
          subst h1
          exact of_3 d q y m w hw hr he ⟨a3, a4⟩
    · rw [if_neg he] at h
      injection h with h1 h2
      subst h1 h2
      exact of_none k d q y m w hw hr ((daysE_is _ _ _).resolve_left he)
  · rw [if_neg hr] at h
    injection h with h1 h2
    subst h1 h2
    exact of_bad k d q y m w (by simpa using hr)
end Go.Proofs.YtofabgllfjmaaaaDoor
