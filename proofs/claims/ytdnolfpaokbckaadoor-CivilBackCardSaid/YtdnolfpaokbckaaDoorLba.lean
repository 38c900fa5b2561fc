import Derived.Test.YtdnolfpaokbckaaDoorRfd
namespace Go.Proofs.YtdnolfpaokbckaaDoor
open Go.RowKit Go.Mem Go.Civil

theorem DateR.of {y m d : Int} (h : rightB y m d = true) : DateR (numD y m d) y m d 0 := by
  have := numD_range h
  exact Or.inl ⟨this.1, this.2, h, rfl, rfl⟩
theorem daysK_yes {y m d : Int} (h : rightB y m d = true) : daysK y m d = numD y m d := if_pos h
theorem daysE_yes {y m d : Int} (h : rightB y m d = true) : daysE y m d = 0 := if_pos h
theorem daysK_no {y m d : Int} (h : rightB y m d = false) : daysK y m d = 0 := by unfold daysK; rw [h]; rfl
theorem daysE_no {y m d : Int} (h : rightB y m d = false) : daysE y m d = 6 := by unfold daysE; rw [h]; rfl
theorem back_walk (y m d n : Int) (w : World) (hn : inRange n) (hg : LOk w) : Calls Tryd.prog 7 #[.int .i64 y, .int .i64 m, .int .i64 d, .int .i64 n] w fun e w' => e = .returned (.bool true) ∧ Fr w w' (fun _ => False) := by
  have H1 := Lib.hid (Days_any y m d w hg)
  have H2 := Lib.hid (fun w' (hf : Fr w w' (fun _ => False)) => Right_any y m d w' (hg.fr hf))
  have H7 := Lib.hid (fun w' (hf : Fr w w' (fun _ => False)) => alive_any w' (hg.fr hf))
  obtain ⟨p, q, r, j, hd⟩ := date_of n
  have H4 := Lib.hid (fun w' (hf : Fr w w' (fun _ => False)) => Date_any n p q r j w' hn (hg.fr hf) hd)
  have H5 : Hid (j = 0 → ∀ w', Fr w w' (fun _ => False) → Calls Tryd.prog 16 #[.int .i64 p, .int .i64 q, .int .i64 r] w' fun e w'' => e = .returned (.tuple #[.int .i64 n, .int .i64 0]) ∧ Fr w' w'' (fun _ => False)) := Lib.hid (by
    rintro rfl w' hf
    have := Days_any p q r w' (hg.fr hf)
    rcases hd with ⟨-, -, a, b, -⟩ | ⟨-, -, -, -, a⟩
    · rw [daysK_yes a, daysE_yes a, b] at this
      exact this
    · exact absurd a (by decide))
  have H6 : Hid (j = 0 ∨ (j = 2 ∧ p = 0 ∧ q = 0 ∧ r = 0)) := Lib.hid (by
    rcases hd with ⟨-, -, -, -, a⟩ | ⟨-, a, b, c, e⟩
    · exact Or.inl a
    · exact Or.inr ⟨e, a, b, c⟩)
  have e5 : (n == n) = true := by simp
  clear hd
  by_cases h : rightB y m d = true
  · have hr := numD_range h
    have H3 := Lib.hid (fun w' (hf : Fr w w' (fun _ => False)) => Date_any (numD y m d) y m d 0 w' (by unfold inRange; omega) (hg.fr hf) (DateR.of h))
    rw [daysK_yes h, daysE_yes h] at H1
    rw [h] at H2
    generalize numD y m d = a at *
    clear hg h hn
    go_enter Tryd.func7, Tryd.ntmps7
    go_wp2_with fail
    refine H1.out.mono ?_
    rintro e w2 ⟨rfl, hf⟩
    have HF := Lib.hid hf
    clear hf
    go_wp2_with fail
    refine (H2.out _ HF.out).mono ?_
    rintro e w3 ⟨rfl, rfl⟩
    go_wp2_with fail
    refine (H3.out _ HF.out).mono ?_
    rintro e w3 ⟨rfl, hf⟩
    have HG := Lib.hid (gg HF.out hf)
    clear hf
    go_wp2_with fail
    refine (H4.out _ HG.out).mono ?_
    rintro e w4 ⟨rfl, hf⟩
    have HH := Lib.hid (gg HG.out hf)
    clear hf
    rcases H6.out with rfl | ⟨rfl, rfl, rfl, rfl⟩
    · have H8 := Lib.hid (H5.out rfl)
      go_wp2_with fail
      refine (H8.out _ HH.out).mono ?_
      rintro e w5 ⟨rfl, hf⟩
      have HI := Lib.hid (gg HH.out hf)
      clear hf
      go_wp2_with fail
      refine (H7.out _ HI.out).mono ?_
      rintro e w6 ⟨rfl, hf⟩
      have HJ := Lib.hid (gg HI.out hf)
      clear hf
      go_wp2_with fail
      go_ret
      exact ⟨rfl, HJ.out⟩
    · clear H5
      go_wp2_with fail
      refine (H7.out _ HH.out).mono ?_
      rintro e w6 ⟨rfl, hf⟩
      have HJ := Lib.hid (gg HH.out hf)
      clear hf
      go_wp2_with fail
      go_ret
      exact ⟨rfl, HJ.out⟩
  · simp only [Bool.not_eq_true] at h
    rw [daysK_no h, daysE_no h] at H1
    rw [h] at H2
    clear hg h hn
    go_enter Tryd.func7, Tryd.ntmps7
    go_wp2_with fail
    refine H1.out.mono ?_
    rintro e w2 ⟨rfl, hf⟩
    have HF := Lib.hid hf
    clear hf
    go_wp2_with fail
    refine (H2.out _ HF.out).mono ?_
    rintro e w3 ⟨rfl, rfl⟩
    go_wp2_with fail
    refine (H4.out _ HF.out).mono ?_
    rintro e w4 ⟨rfl, hf⟩
    have HH := Lib.hid (gg HF.out hf)
    clear hf
    rcases H6.out with rfl | ⟨rfl, rfl, rfl, rfl⟩
    · have H8 := Lib.hid (H5.out rfl)
      go_wp2_with fail
      refine (H8.out _ HH.out).mono ?_
      rintro e w5 ⟨rfl, hf⟩
      have HI := Lib.hid (gg HH.out hf)
      clear hf
      go_wp2_with fail
      refine (H7.out _ HI.out).mono ?_
      rintro e w6 ⟨rfl, hf⟩
      have HJ := Lib.hid (gg HI.out hf)
      clear hf
      go_wp2_with fail
      go_ret
      exact ⟨rfl, HJ.out⟩
    · clear H5
      go_wp2_with fail
      refine (H7.out _ HH.out).mono ?_
      rintro e w6 ⟨rfl, hf⟩
      have HJ := Lib.hid (gg HH.out hf)
      clear hf
      go_wp2_with fail
      go_ret
      exact ⟨rfl, HJ.out⟩
end Go.Proofs.YtdnolfpaokbckaaDoor
