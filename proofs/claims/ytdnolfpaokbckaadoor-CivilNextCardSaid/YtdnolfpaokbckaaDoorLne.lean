import Derived.Test.YtdnolfpaokbckaaDoorLba
namespace Go.Proofs.YtdnolfpaokbckaaDoor
open Go.RowKit Go.Mem Go.Civil

set_option maxHeartbeats 1000000 in
theorem next_walk (y m d : Int) (w : World) (hy : inRange y) (hg : LOk w) : Calls Tryd.prog 8 #[.int .i64 y, .int .i64 m, .int .i64 d] w fun e w' => e = .returned (.bool true) ∧ Fr w w' (fun _ => False) := by
  have H1 := Lib.hid (Days_any y m d w hg)
  have H7 := Lib.hid (fun w' (hf : Fr w w' (fun _ => False)) => alive_any w' (hg.fr hf))
  by_cases h : rightB y m d = true
  · have hr := numD_range h
    have hb := rightB_iff.1 h
    have H2 := Lib.hid (fun w' (hf : Fr w w' (fun _ => False)) => Long_any y m w' (hg.fr hf))
    have H3 := Lib.hid (fun y' m' d' w' (hf : Fr w w' (fun _ => False)) => Days_any y' m' d' w' (hg.fr hf))
    rw [daysK_yes h, daysE_yes h] at H1
    have hL := longI_le y m
    have hL2 := longI_ge (y := y) (m := m) (by omega)
    have HW0 := Lib.hid (fun w => Week_any (numD y m d) w (by unfold inRange; omega))
    have HW1 := Lib.hid (fun w => Week_any (numD y m d + 1) w (by unfold inRange; omega))
    have hw : (((numD y m d + 1 + 4) % 7) == (((numD y m d + 4) % 7) + 1) % 7) = true := by simp; omega
    have hwr : 0 ≤ (numD y m d + 4) % 7 ∧ (numD y m d + 4) % 7 ≤ 6 := by omega
    have ha : (numD y m d + 1 == numD y m d + 1) = true := by simp
    clear hg
    by_cases hd : d < longI y m
    · have hx : rightB y m (d + 1) = true := rightB_iff.2 (by omega)
      have HX := Lib.hid (H3.out y m (d + 1))
      rw [daysK_yes hx, daysE_yes hx, numD_day] at HX
      clear H3 hx h
      generalize numD y m d = a at *
      generalize (a + 1 + 4) % 7 = W1 at *
      generalize (a + 4) % 7 = W0 at *
      generalize longI y m = L at *
      go_enter Tryd.func8, Tryd.ntmps8
      go_wp2_with fail
      refine H1.out.mono ?_
      rintro e w2 ⟨rfl, hf⟩
      have HF := Lib.hid hf
      clear hf
      go_wp2_with fail
      refine (H2.out _ HF.out).mono ?_
      rintro e w3 ⟨rfl, rfl⟩
      go_wp2_with fail
      refine (HX.out _ HF.out).mono ?_
      rintro e w3 ⟨rfl, hf⟩
      have HG := Lib.hid (gg HF.out hf)
      clear hf
      go_wp2_with fail
      refine (HW1.out _).mono ?_
      rintro e w4 ⟨rfl, rfl⟩
      go_wp2_with fail
      refine (HW0.out _).mono ?_
      rintro e w4 ⟨rfl, rfl⟩
      go_wp2_with fail
      refine (H7.out _ (gd (gd HG.out))).mono ?_
      rintro e w6 ⟨rfl, hf⟩
      have HJ := Lib.hid (gg (gd (gd HG.out)) hf)
      clear hf
      go_wp2_with fail
      go_ret
      exact ⟨rfl, HJ.out⟩
    · obtain rfl : d = longI y m := by omega
      by_cases hm : m < 12
      · have hx : rightB y (m + 1) 1 = true := rightB_iff.2 (by have := longI_ge (y := y) (m := m + 1) (by omega); omega)
        have HX := Lib.hid (H3.out y (m + 1) 1)
        rw [daysK_yes hx, daysE_yes hx, numD_month (by omega)] at HX
        clear H3 hx h
        generalize numD y m (longI y m) = a at *
        generalize (a + 1 + 4) % 7 = W1 at *
        generalize (a + 4) % 7 = W0 at *
        generalize longI y m = L at *
        go_enter Tryd.func8, Tryd.ntmps8
        go_wp2_with fail
        refine H1.out.mono ?_
        rintro e w2 ⟨rfl, hf⟩
        have HF := Lib.hid hf
        clear hf
        go_wp2_with fail
        refine (H2.out _ HF.out).mono ?_
        rintro e w3 ⟨rfl, rfl⟩
        go_wp2_with fail
        refine (HX.out _ HF.out).mono ?_
        rintro e w3 ⟨rfl, hf⟩
        have HG := Lib.hid (gg HF.out hf)
        clear hf
        go_wp2_with fail
        refine (HW1.out _).mono ?_
        rintro e w4 ⟨rfl, rfl⟩
        go_wp2_with fail
        refine (HW0.out _).mono ?_
        rintro e w4 ⟨rfl, rfl⟩
        go_wp2_with fail
        refine (H7.out _ (gd (gd HG.out))).mono ?_
        rintro e w6 ⟨rfl, hf⟩
        have HJ := Lib.hid (gg (gd (gd HG.out)) hf)
        clear hf
        go_wp2_with fail
        go_ret
        exact ⟨rfl, HJ.out⟩
      · obtain rfl : m = 12 := by omega
        by_cases hy9 : y < 9999
        · have hx : rightB (y + 1) 1 1 = true := rightB_iff.2 (by have := longI_ge (y := y + 1) (m := 1) (by omega); omega)
          have HX := Lib.hid (H3.out (y + 1) 1 1)
          rw [daysK_yes hx, daysE_yes hx, numD_year] at HX
          clear H3 hx h
          generalize numD y 12 (longI y 12) = a at *
          generalize (a + 1 + 4) % 7 = W1 at *
          generalize (a + 4) % 7 = W0 at *
          generalize longI y 12 = L at *
          go_enter Tryd.func8, Tryd.ntmps8
          go_wp2_with fail
          refine H1.out.mono ?_
          rintro e w2 ⟨rfl, hf⟩
          have HF := Lib.hid hf
          clear hf
          go_wp2_with fail
          refine (H2.out _ HF.out).mono ?_
          rintro e w3 ⟨rfl, rfl⟩
          go_wp2_with fail
          refine (HX.out _ HF.out).mono ?_
          rintro e w3 ⟨rfl, hf⟩
          have HG := Lib.hid (gg HF.out hf)
          clear hf
          go_wp2_with fail
          refine (HW1.out _).mono ?_
          rintro e w4 ⟨rfl, rfl⟩
          go_wp2_with fail
          refine (HW0.out _).mono ?_
          rintro e w4 ⟨rfl, rfl⟩
          go_wp2_with fail
          refine (H7.out _ (gd (gd HG.out))).mono ?_
          rintro e w6 ⟨rfl, hf⟩
          have HJ := Lib.hid (gg (gd (gd HG.out)) hf)
          clear hf
          go_wp2_with fail
          go_ret
          exact ⟨rfl, HJ.out⟩
        · obtain rfl : y = 9999 := by omega
          have hx : rightB (9999 + 1) 1 1 = false := by decide
          have HX := Lib.hid (H3.out (9999 + 1) 1 1)
          rw [daysK_no hx, daysE_no hx] at HX
          rw [show (9999 : Int) + 1 = 10000 from rfl] at HX
          clear H3 hx h
          generalize numD 9999 12 (longI 9999 12) = a at *
          generalize (a + 1 + 4) % 7 = W1 at *
          generalize (a + 4) % 7 = W0 at *
          generalize longI 9999 12 = L at *
          go_enter Tryd.func8, Tryd.ntmps8
          go_wp2_with fail
          refine H1.out.mono ?_
          rintro e w2 ⟨rfl, hf⟩
          have HF := Lib.hid hf
          clear hf
          go_wp2_with fail
          refine (H2.out _ HF.out).mono ?_
          rintro e w3 ⟨rfl, rfl⟩
          go_wp2_with fail
          refine (HX.out _ HF.out).mono ?_
          rintro e w3 ⟨rfl, hf⟩
          have HG := Lib.hid (gg HF.out hf)
          clear hf
          go_wp2_with fail
          refine (H7.out _ HG.out).mono ?_
          rintro e w6 ⟨rfl, hf⟩
          have HJ := Lib.hid (gg HG.out hf)
          clear hf
          go_wp2_with fail
          go_ret
          exact ⟨rfl, HJ.out⟩
  · simp only [Bool.not_eq_true] at h
    rw [daysK_no h, daysE_no h] at H1
    clear hg h
    go_enter Tryd.func8, Tryd.ntmps8
    go_wp2_with fail
    refine H1.out.mono ?_
    rintro e w2 ⟨rfl, hf⟩
    have HF := Lib.hid hf
    clear hf
    go_wp2_with fail
    refine (H7.out _ HF.out).mono ?_
    rintro e w6 ⟨rfl, hf⟩
    have HJ := Lib.hid (gg HF.out hf)
    clear hf
    go_wp2_with fail
    go_ret
    exact ⟨rfl, HJ.out⟩
end Go.Proofs.YtdnolfpaokbckaaDoor
