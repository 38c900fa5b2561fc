import Derived.Test.YtdnolfpaokbckabDoorAli
namespace Go.Proofs.YtdnolfpaokbckabDoor
open Go.RowKit Go.Mem Go.Civil

theorem daysK_yes {y m d : Int} (h : rightB y m d = true) : daysK y m d = numD y m d := if_pos h
theorem daysE_yes {y m d : Int} (h : rightB y m d = true) : daysE y m d = 0 := if_pos h
theorem first_num (y : Int) : numD y 1 1 = begD y := by
  unfold numD
  rw [show ((1 : Int) - 1).toNat = 0 from rfl]
  simp [sumM]
theorem last_num (y : Int) : numD y 12 31 = begD y + 364 + leapI y := by
  have h := sumM_all y
  have e : sumM y 12 = sumM y 11 + longI y 12 := rfl
  rw [show longI y 12 = 31 from rfl] at e
  unfold numD
  rw [show ((12 : Int) - 1).toNat = 11 from rfl]
  omega
theorem years_walk (y : Int) (w : World) (hg : LOk w) : Calls Tryd.prog 3 #[.int .i64 y] w fun e w' => e = .returned (.bool true) ∧ Fr w w' (fun _ => False) := by
  have H7 := Lib.hid (fun w' (hf : Fr w w' (fun _ => False)) => alive_any w' (hg.fr hf))
  by_cases h : y < -9999 ∨ y > 9599
  · clear hg
    rcases h with h | h
    · go_enter Tryd.func3, Tryd.ntmps3
      go_wp2_with fail
      refine (H7.out _ (Fr.refl _ _)).mono ?_
      rintro e w6 ⟨rfl, hf⟩
      have HJ := Lib.hid hf
      clear hf
      go_wp2_with fail
      go_ret
      exact ⟨rfl, HJ.out⟩
    · have h2 : ¬ y < -9999 := by omega
      go_enter Tryd.func3, Tryd.ntmps3
      go_wp2_with fail
      refine (H7.out _ (Fr.refl _ _)).mono ?_
      rintro e w6 ⟨rfl, hf⟩
      have HJ := Lib.hid hf
      clear hf
      go_wp2_with fail
      go_ret
      exact ⟨rfl, HJ.out⟩
  · have h1 : -9999 ≤ y := by omega
    have h2 : y ≤ 9599 := by omega
    have ra : rightB y 1 1 = true := rightB_iff.2 (by have := longI_ge (y := y) (m := 1) (by omega); omega)
    have rb : rightB y 12 31 = true := rightB_iff.2 (by have : longI y 12 = 31 := rfl; omega)
    have rc : rightB (y + 400) 1 1 = true := rightB_iff.2 (by have := longI_ge (y := y + 400) (m := 1) (by omega); omega)
    have HA := Lib.hid (Days_any y 1 1 w hg)
    have HB := Lib.hid (fun w' (hf : Fr w w' (fun _ => False)) => Days_any y 12 31 w' (hg.fr hf))
    have HC := Lib.hid (fun w' (hf : Fr w w' (fun _ => False)) => Days_any (y + 400) 1 1 w' (hg.fr hf))
    rw [daysK_yes ra, daysE_yes ra, first_num] at HA
    rw [daysK_yes rb, daysE_yes rb, last_num] at HB
    rw [daysK_yes rc, daysE_yes rc, first_num, begD_add] at HC
    have hr := begD_range (y := y) (by omega)
    have HL := Lib.hid (fun i w' (hf : Fr w w' (fun _ => False)) => Long_any y i w' (hg.fr hf))
    have HP := Lib.hid (Leap_any y)
    have hl : (leapB y = true ∧ leapI y = 1) ∨ (leapB y = false ∧ leapI y = 0) := by
      unfold leapI
      cases leapB y
      · right; simp
      · left; simp
    have HN : Hid (∀ k : Nat, k ≤ 12 → 0 ≤ sumM y k ∧ sumM y k ≤ 366) := Lib.hid (sumM_le y)
    have HS := Lib.hid (sumM_all y)
    generalize begD y = a at *
    clear hg ra rb rc h
    rcases hl with ⟨e1, e2⟩ | ⟨e1, e2⟩
    · rw [e2] at HB HS
      rw [e1] at HP
      clear e1 e2
      go_enter Tryd.func3, Tryd.ntmps3
      go_wp2_with fail
      refine HA.out.mono ?_
      rintro e w2 ⟨rfl, hf⟩
      have HF := Lib.hid hf
      clear hf
      go_wp2_with fail
      refine (HB.out _ HF.out).mono ?_
      rintro e w3 ⟨rfl, hf⟩
      have HG := Lib.hid (gg HF.out hf)
      clear hf
      go_wp2_with fail
      refine (HC.out _ HG.out).mono ?_
      rintro e w4 ⟨rfl, hf⟩
      have HI := Lib.hid (gg HG.out hf)
      clear hf
      go_wp2_with fail
      refine (HP.out _).mono ?_
      rintro e w5 ⟨rfl, rfl⟩
      go_wp2_with fail
      go_loop [10, 11] (fun v10 v11 => ∃ k : Nat, k ≤ 12 ∧ v10 = .int .i64 (sumM y k) ∧ v11 = .int .i64 ((k : Int) + 1)) (fun _ v11 => 13 - (intOf v11).toNat)
      case atStart => exact ⟨0, by omega, rfl, rfl⟩
      case round =>
        obtain ⟨k, hk, rfl, rfl⟩ := hrel
        have hs := HN.out k hk
        by_cases hlt : k < 12
        · have hst := sumM_step y k
          have HT := Lib.hid hst
          have h3 : (k : Int) + 1 ≤ 12 := by omega
          have hle := longI_le y ((k : Int) + 1)
          have HC := Lib.hid (HL.out ((k : Int) + 1) _ HI.out)
          clear hst
          go_wp2_with fail
          refine HC.out.mono ?_
          rintro e w' ⟨rfl, rfl⟩
          go_wp2_with fail
          go_round
          case rel => exact ⟨k + 1, by omega, by rw [HT.out], by go_num⟩
          case measure => simp [intOf]; omega
        · obtain rfl : k = 12 := by omega
          rw [HS.out]
          clear hs hk hlt
          go_wp2_with fail
          refine (H7.out _ HI.out).mono ?_
          rintro e w6 ⟨rfl, hf⟩
          have HJ := Lib.hid (gg HI.out hf)
          clear hf
          go_wp2_with fail
          go_ret
          exact ⟨rfl, HJ.out⟩
    · rw [e2] at HB HS
      rw [e1] at HP
      clear e1 e2
      go_enter Tryd.func3, Tryd.ntmps3
      go_wp2_with fail
      refine HA.out.mono ?_
      rintro e w2 ⟨rfl, hf⟩
      have HF := Lib.hid hf
      clear hf
      go_wp2_with fail
      refine (HB.out _ HF.out).mono ?_
      rintro e w3 ⟨rfl, hf⟩
      have HG := Lib.hid (gg HF.out hf)
      clear hf
      go_wp2_with fail
      refine (HC.out _ HG.out).mono ?_
      rintro e w4 ⟨rfl, hf⟩
      have HI := Lib.hid (gg HG.out hf)
      clear hf
      go_wp2_with fail
      refine (HP.out _).mono ?_
      rintro e w5 ⟨rfl, rfl⟩
      go_wp2_with fail
      go_loop [10, 11] (fun v10 v11 => ∃ k : Nat, k ≤ 12 ∧ v10 = .int .i64 (sumM y k) ∧ v11 = .int .i64 ((k : Int) + 1)) (fun _ v11 => 13 - (intOf v11).toNat)
      case atStart => exact ⟨0, by omega, rfl, rfl⟩
      case round =>
        obtain ⟨k, hk, rfl, rfl⟩ := hrel
        have hs := HN.out k hk
        by_cases hlt : k < 12
        · have hst := sumM_step y k
          have HT := Lib.hid hst
          have h3 : (k : Int) + 1 ≤ 12 := by omega
          have hle := longI_le y ((k : Int) + 1)
          have HC := Lib.hid (HL.out ((k : Int) + 1) _ HI.out)
          clear hst
          go_wp2_with fail
          refine HC.out.mono ?_
          rintro e w' ⟨rfl, rfl⟩
          go_wp2_with fail
          go_round
          case rel => exact ⟨k + 1, by omega, by rw [HT.out], by go_num⟩
          case measure => simp [intOf]; omega
        · obtain rfl : k = 12 := by omega
          rw [HS.out]
          clear hs hk hlt
          go_wp2_with fail
          refine (H7.out _ HI.out).mono ?_
          rintro e w6 ⟨rfl, hf⟩
          have HJ := Lib.hid (gg HI.out hf)
          clear hf
          go_wp2_with fail
          go_ret
          exact ⟨rfl, HJ.out⟩
end Go.Proofs.YtdnolfpaokbckabDoor
