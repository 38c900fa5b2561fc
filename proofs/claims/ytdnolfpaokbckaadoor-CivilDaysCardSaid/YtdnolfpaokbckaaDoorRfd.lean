import Derived.Test.YtdnolfpaokbckaaDoorDat
namespace Go.Proofs.YtdnolfpaokbckaaDoor
open Go.RowKit Go.Mem Go.Civil

theorem tmod_gt {n c : Int} (h : n < 0) (hc : 0 < c) : -c < n.tmod c := by
  have e1 : n.tmod c = -((-n) % c) := by
    have := Int.neg_tmod (-n) c
    rw [Int.neg_neg, Int.tmod_eq_emod_of_nonneg (a := -n) (by omega)] at this
    exact this
  have b2 := Int.emod_lt_of_pos (-n) hc
  omega
theorem rWeek_any (n : Int) (w : World) (hn : inRange n) : Calls Tryd.prog 23 #[.int .i64 n] w fun e w' => e = .returned (.int .i64 ((n + 4) % 7)) ∧ w = w' := by
  unfold inRange at hn
  by_cases h : n < 0
  · have hp := neg_parts h (show (0 : Int) < 7 by omega)
    have hg := tmod_gt h (show (0 : Int) < 7 by omega)
    have b : -7 < n.tmod 7 ∧ n.tmod 7 ≤ 0 := by omega
    have HE := Lib.hid (show (n.tmod 7 + 11) % 7 = (n + 4) % 7 by omega)
    have b2 : 0 ≤ n.tmod 7 + 11 := by omega
    clear hp hg
    go_enter Tryd.func23, Tryd.ntmps23
    go_wp2_with fail
    go_ret
    exact ret_int HE.out
  · have HE := Lib.hid (show (n + 11) % 7 = (n + 4) % 7 by omega)
    go_enter Tryd.func23, Tryd.ntmps23
    go_wp2_with fail
    go_ret
    exact ret_int HE.out
theorem rClock_any (t : Int) (w : World) (hn : inRange t) : Calls Tryd.prog 21 #[.int .i64 t] w fun e w' => e = .returned (.tuple #[.int .i64 (t / 86400), .int .i64 (t % 86400)]) ∧ w = w' := by
  by_cases h : t < 0
  · have hp := neg_parts h (show (0 : Int) < 86400 by omega)
    have hh := neg_half h hn (c := 86400) (by omega)
    unfold inRange at hn
    rcases hp with ⟨h1, h2, h3⟩ | ⟨h1, h2, h3⟩
    · rw [h2]
      go_enter Tryd.func21, Tryd.ntmps21
      go_wp2_with fail
      all_goals
        go_ret2
        exact ⟨rfl, rfl⟩
    · have b : -86400 < t.tmod 86400 := tmod_gt h (by omega)
      rw [h2, h3]
      go_enter Tryd.func21, Tryd.ntmps21
      go_wp2_with fail
      all_goals
        go_ret2
        exact ⟨rfl, rfl⟩
  · unfold inRange at hn
    go_enter Tryd.func21, Tryd.ntmps21
    go_wp2_with fail
    all_goals
      go_ret2
      exact ⟨rfl, rfl⟩
theorem rDays_any (y m d : Int) (w : World) :
    Calls Tryd.prog 17 #[.int .i64 y, .int .i64 m, .int .i64 d] w fun e w' => e = .returned (.tuple #[.int .i64 (daysK y m d), .int .i64 (daysE y m d)]) ∧ w = w' := by
  have HR := Lib.hid (rRight_any y m d w)
  unfold daysK daysE
  by_cases h : rightB y m d = true
  · rw [h] at HR
    rw [if_pos h, if_pos h]
    have hb := rightB_iff.1 h
    have hnum : numD y m d = begD y + sumM y (m - 1).toNat + (d - 1) := rfl
    have HB := Lib.hid (rYear_any y w (by omega))
    have hbr := begD_range (y := y) (by omega)
    have hle := longI_le y m
    obtain ⟨j, rfl⟩ : ∃ j : Nat, m = (j : Int) + 1 := ⟨(m - 1).toNat, by omega⟩
    rw [show ((j : Int) + 1 - 1).toNat = j by omega] at hnum
    have hb1 : 1 ≤ d ∧ d ≤ 31 ∧ (j : Int) ≤ 11 := by omega
    rw [hnum]
    have HL := Lib.hid (fun i => rLong_any y i w)
    have HN : Hid (∀ k : Nat, k ≤ 12 → 0 ≤ sumM y k ∧ sumM y k ≤ 366) := Lib.hid (sumM_le y)
    generalize begD y = B at *
    clear h hb hnum hle
    go_enter Tryd.func17, Tryd.ntmps17
    go_wp2_with fail
    refine HR.out.mono ?_
    rintro e w' ⟨rfl, rfl⟩
    go_wp2_with fail
    refine HB.out.mono ?_
    rintro e w' ⟨rfl, rfl⟩
    go_wp2_with fail
    go_loop [8, 9] (fun v8 v9 => ∃ k : Nat, k ≤ j ∧ v8 = .int .i64 (B + sumM y k) ∧ v9 = .int .i64 ((k : Int) + 1)) (fun _ v9 => j + 1 - (intOf v9).toNat)
    case atStart => exact ⟨0, Nat.zero_le _, by simp [sumM], rfl⟩
    case round =>
      obtain ⟨k, hk, rfl, rfl⟩ := hrel
      by_cases hlt : k < j
      · have hs := HN.out k (by omega)
        have hs2 := HN.out (k + 1) (by omega)
        have hst := sumM_step y k
        have HS := Lib.hid hst
        have HC := Lib.hid (HL.out ((k : Int) + 1))
        have h1 : (k : Int) < (j : Int) := by omega
        have h2 : (k : Int) + 1 < (j : Int) + 1 := by omega
        have hle := longI_le y ((k : Int) + 1)
        generalize longI y ((k : Int) + 1) = L at *
        generalize sumM y k = S at *
        clear hst
        go_wp2_with fail
        refine HC.out.mono ?_
        rintro e w' ⟨rfl, rfl⟩
        go_wp2_with fail
        go_round
        case rel => exact ⟨k + 1, by omega, by rw [HS.out]; congr 1; omega, by go_num⟩
        case measure => simp [intOf]; omega
      · obtain rfl : k = j := by omega
        have hs := HN.out k (by omega)
        go_wp2_with fail
        go_ret2
        exact ret_two (P := fun w' => w = w') (by omega) rfl rfl
  · rw [if_neg h, if_neg h]
    simp only [Bool.not_eq_true] at h
    rw [h] at HR
    clear h
    go_enter Tryd.func17, Tryd.ntmps17
    go_wp2_with fail
    refine HR.out.mono ?_
    rintro e w' ⟨rfl, rfl⟩
    go_wp2_with fail
    go_ret2
    exact ⟨rfl, rfl⟩
theorem rDate_any (n y m d k : Int) (w : World) (hn : inRange n) (h : DateR n y m d k) :
    Calls Tryd.prog 19 #[.int .i64 n] w fun e w' => e = .returned (.tuple #[.int .i64 y, .int .i64 m, .int .i64 d, .int .i64 k]) ∧ w = w' := by
  have HB1 := Lib.hid (rYear_any (-9999) w (by omega))
  have HB2 := Lib.hid (rYear_any 10000 w (by omega))
  rw [begD_first] at HB1
  rw [begD_end] at HB2
  unfold inRange at hn
  rcases h with ⟨h1, h2, h3, h4, rfl⟩ | ⟨h1, rfl, rfl, rfl, rfl⟩
  · obtain ⟨b1, b2, b3, b4⟩ := numD_in h3
    have hnum : numD y m d = begD y + sumM y (m - 1).toNat + (d - 1) := rfl
    have hb := rightB_iff.1 h3
    rw [h4] at b1 b2 b3 b4
    have hle := longI_le y m
    obtain ⟨j, rfl⟩ : ∃ j : Nat, m = (j : Int) + 1 := ⟨(m - 1).toNat, by omega⟩
    rw [show ((j : Int) + 1 - 1).toNat = j by omega] at b3 b4 hnum
    obtain ⟨r, hr⟩ : ∃ r, n - begD y = r := ⟨_, rfl⟩
    rw [hr] at b3 b4
    have hr0 : 0 ≤ r ∧ r ≤ 366 := by have := begD_succ y; have := leapI_le y; omega
    have hdv : d = r - sumM y j + 1 := by omega
    have HL := Lib.hid (fun i => rLong_any y i w)
    have HN : Hid (∀ k : Nat, k ≤ 12 → 0 ≤ sumM y k ∧ sumM y k ≤ 366) := Lib.hid (sumM_le y)
    have hj : j ≤ 11 := by omega
    have B3 := Lib.hid b3
    have B4 := Lib.hid b4
    have hy' : -9999 ≤ y ∧ y ≤ 9999 := by omega
    have hz0 : -9999 + (n + 4371587) / 366 ≤ y := by
      by_cases h : -9999 + (n + 4371587) / 366 ≤ y
      · exact h
      · have e1 := begD_mono (show y < -9999 + (n + 4371587) / 366 by omega)
        have e2 := (begD_far (y := -9999) (z := -9999 + (n + 4371587) / 366) (by omega)).2
        rw [begD_first] at e2
        omega
    have hz1 : 0 ≤ (n + 4371587) / 366 ∧ (n + 4371587) / 366 ≤ 30000 := by omega
    have HYl : Hid (∀ z, z < y → begD (z + 1) ≤ n) := Lib.hid (fun z hz => by have := begD_mono hz; omega)
    have BY := Lib.hid b2
    have HYr := Lib.hid (fun z (hz : -9999 ≤ z ∧ z ≤ 10000) => rYear_any z w hz)
    have HR := Lib.hid hr
    have h0 : 0 ≤ n + 4371587 := by omega
    subst hdv
    clear hb hnum hle h3 h4 hr b1 b2 b3 b4
    go_enter Tryd.func19, Tryd.ntmps19
    go_wp2_with fail
    refine HB1.out.mono ?_
    rintro e w' ⟨rfl, rfl⟩
    go_wp2_with fail
    refine HB2.out.mono ?_
    rintro e w' ⟨rfl, rfl⟩
    go_wp2_with fail
    refine HB1.out.mono ?_
    rintro e w' ⟨rfl, rfl⟩
    go_wp2_with fail
    go_loop [6] (fun v6 => ∃ z : Int, -9999 ≤ z ∧ z ≤ y ∧ v6 = .int .i64 z) (fun v6 => (y - intOf v6).toNat)
    case atStart => exact ⟨_, by omega, hz0, rfl⟩
    case round =>
      obtain ⟨z, hz2, hz3, rfl⟩ := hrel
      clear hz0 hz1
      by_cases hlt : z < y
      · have hle := HYl.out z hlt
        have HC := Lib.hid (HYr.out (z + 1) (by omega))
        go_wp2_with fail
        refine HC.out.mono ?_
        rintro e w' ⟨rfl, rfl⟩
        go_wp2_with fail
        go_round
        case rel => exact ⟨z + 1, by omega, by omega, rfl⟩
        case measure => simp [intOf]; omega
      · obtain rfl : z = y := by omega
        have hby := BY.out
        have hr := HR.out
        have HC := Lib.hid (HYr.out (z + 1) (by omega))
        have HC2 := Lib.hid (HYr.out z (by omega))
        clear hlt HYl HYr
        go_wp2_with fail
        refine HC.out.mono ?_
        rintro e w' ⟨rfl, rfl⟩
        go_wp2_with fail
        refine HC2.out.mono ?_
        rintro e w' ⟨rfl, rfl⟩
        go_wp2_with fail
        go_loop [0, 7] (fun v0 v7 => ∃ k : Nat, k ≤ j ∧ v7 = .int .i64 ((k : Int) + 1) ∧ v0 = .int .i64 (r - sumM z k)) (fun _ v7 => j + 1 - (intOf v7).toNat)
        case atStart => exact ⟨0, Nat.zero_le _, rfl, by rw [← hr]; simp [sumM]⟩
        case round =>
          obtain ⟨k, hk, rfl, rfl⟩ := hrel
          have hs := HN.out k (by omega)
          have hle := longI_le z ((k : Int) + 1)
          have HC := Lib.hid (HL.out ((k : Int) + 1))
          clear hby hr
          by_cases hlt : k < j
          · have hmo := sumM_mono (y := z) (show k + 1 ≤ j by omega)
            have hst := sumM_step z k
            have hb3 := B3.out
            have hge : longI z ((k : Int) + 1) ≤ r - sumM z k := by omega
            have HS := Lib.hid hst
            clear hst hmo hb3
            have h1 : (k : Int) < (j : Int) := by omega
            go_wp2_with fail
            refine HC.out.mono ?_
            rintro e w' ⟨rfl, rfl⟩
            go_wp2_with fail
            refine HC.out.mono ?_
            rintro e w' ⟨rfl, rfl⟩
            go_wp2_with fail
            go_round
            case rel => exact ⟨k + 1, by omega, by go_num, by rw [HS.out]; congr 1; omega⟩
            case measure => simp [intOf]; omega
          · obtain rfl : k = j := by omega
            have hb4 := B4.out
            rw [sumM_step] at hb4
            have hge : r - sumM z k < longI z ((k : Int) + 1) := by omega
            have hb3 := B3.out
            clear hb4
            go_wp2_with fail
            refine HC.out.mono ?_
            rintro e w' ⟨rfl, rfl⟩
            go_wp2_with fail
            (try simp only [Exit.inBlock, Exit.then])
            refine bodyPost_ret (results_tmp4 rfl _ _ _) rfl ?_
            exact ⟨rfl, rfl⟩
  · by_cases ha : n < -4371587
    · clear HB2
      go_enter Tryd.func19, Tryd.ntmps19
      go_wp2_with fail
      refine HB1.out.mono ?_
      rintro e w' ⟨rfl, rfl⟩
      go_wp2_with fail
      (try simp only [Exit.inBlock, Exit.then])
      refine bodyPost_ret (results_tmp4 rfl _ _ _) rfl ?_
      exact ⟨rfl, rfl⟩
    · have hb : 2932897 ≤ n := by omega
      clear h1
      go_enter Tryd.func19, Tryd.ntmps19
      go_wp2_with fail
      refine HB1.out.mono ?_
      rintro e w' ⟨rfl, rfl⟩
      go_wp2_with fail
      refine HB2.out.mono ?_
      rintro e w' ⟨rfl, rfl⟩
      go_wp2_with fail
      (try simp only [Exit.inBlock, Exit.then])
      refine bodyPost_ret (results_tmp4 rfl _ _ _) rfl ?_
      exact ⟨rfl, rfl⟩
end Go.Proofs.YtdnolfpaokbckaaDoor
