import Derived.Test.YtdnolfpaokbckaaDoorYof
namespace Go.Proofs.YtdnolfpaokbckaaDoor
open Go.RowKit Go.Mem Go.Civil

/-- what Date answers: the date that has the number, or Range -/
def DateR (n y m d k : Int) : Prop :=
  (-4371587 ≤ n ∧ n < 2932897 ∧ rightB y m d = true ∧ numD y m d = n ∧ k = 0) ∨ ((n < -4371587 ∨ 2932897 ≤ n) ∧ y = 0 ∧ m = 0 ∧ d = 0 ∧ k = 2)
theorem month_of {y r : Int} (h0 : 0 ≤ r) : ∀ K : Nat, r < sumM y K → ∃ k, k < K ∧ sumM y k ≤ r ∧ r < sumM y (k + 1) := by
  intro K
  induction K with
  | zero => intro h; simp [sumM] at h; omega
  | succ K ih =>
    intro h
    by_cases h' : r < sumM y K
    · obtain ⟨k, hk, h1, h2⟩ := ih h'
      exact ⟨k, by omega, h1, h2⟩
    · exact ⟨K, by omega, by omega, h⟩
theorem date_of (n : Int) : ∃ y m d k, DateR n y m d k := by
  by_cases hn : -4371587 ≤ n ∧ n < 2932897
  · obtain ⟨q, hq⟩ : ∃ q, (n + 719528) / 146097 = q := ⟨_, rfl⟩
    obtain ⟨a, ha⟩ : ∃ a, (n + 719528) % 146097 = a := ⟨_, rfl⟩
    have hd : 0 ≤ a ∧ a < 146097 := by omega
    obtain ⟨r, hr⟩ : ∃ r, r = if a < toY (a / 365) then a / 365 - 1 else a / 365 := ⟨_, rfl⟩
    have hy := era_year hd hr
    have e1 := begD_era q r ⟨hy.1, hy.2.1⟩
    have e2 := begD_era_next q r ⟨hy.1, hy.2.1⟩
    generalize q * 400 + r = y at *
    have b1 : begD y ≤ n := by omega
    have b2 : n < begD (y + 1) := by omega
    clear e1 e2 hy hr hd ha hq
    have r1 : -9999 ≤ y := by
      by_cases h : y < -9999
      · have := begD_mono h
        rw [begD_first] at this
        omega
      · omega
    have r2 : y ≤ 9999 := by
      by_cases h : 9999 < y
      · have := begD_mono h
        rw [show (9999 : Int) + 1 = 10000 from rfl, begD_end] at this
        omega
      · omega
    rw [← sumM_13] at b2
    obtain ⟨k, hk, h1, h2⟩ := month_of (y := y) (r := n - begD y) (by omega) 12 (by omega)
    rw [sumM_step] at h2
    refine ⟨y, k + 1, n - begD y - sumM y k + 1, 0, Or.inl ⟨hn.1, hn.2, ?_, ?_, rfl⟩⟩
    · rw [rightB_iff]
      omega
    · unfold numD
      rw [show ((k : Int) + 1 - 1).toNat = k by omega]
      omega
  · exact ⟨0, 0, 0, 2, Or.inr ⟨by omega, rfl, rfl, rfl, rfl⟩⟩
theorem DateR.one {n y m d k y' m' d' k' : Int} (h : DateR n y m d k) (h' : DateR n y' m' d' k') : y = y' ∧ m = m' ∧ d = d' ∧ k = k' := by
  rcases h with ⟨a, b, c, e, f⟩ | ⟨a, b, c, e, f⟩ <;> rcases h' with ⟨a', b', c', e', f'⟩ | ⟨a', b', c', e', f'⟩
  · have := numD_one c c' (by omega)
    omega
  · omega
  · omega
  · omega

theorem results_tmp4 {fn : Func} {t u v x : Tmp} (h : fn.results = #[.tmp t, .tmp u, .tmp v, .tmp x]) (tmps : Array Value) (P : Program) (w : World) :
    (results fn tmps).run P w = .ok (.tuple #[tmps.getD t undef, tmps.getD u undef, tmps.getD v undef, tmps.getD x undef]) w := by
  simp [results, h]
theorem ret_four {a b c d a' b' c' d' : Int} {P : World → Prop} {w : World} (h : a = a') (h2 : b = b') (h3 : c = c') (h4 : d = d') (hp : P w) : Ending.returned (.tuple #[.int .i64 a, .int .i64 b, .int .i64 c, .int .i64 d]) = .returned (.tuple #[.int .i64 a', .int .i64 b', .int .i64 c', .int .i64 d']) ∧ P w := ⟨by rw [h, h2, h3, h4], hp⟩

theorem Date_any (n y m d k : Int) (w : World) (hn : inRange n) (hg : LOk w) (h : DateR n y m d k) :
    Calls Tryd.prog 18 #[.int .i64 n] w fun e w' => e = .returned (.tuple #[.int .i64 y, .int .i64 m, .int .i64 d, .int .i64 k]) ∧ Fr w w' (fun _ => False) := by
  have HB1 := Lib.hid (begin_any (-9999) w (by omega))
  have HB2 := Lib.hid (begin_any 10000 w.drew (by omega))
  rw [begD_first] at HB1
  rw [begD_end] at HB2
  unfold inRange at hn
  rcases h with ⟨h1, h2, h3, h4, rfl⟩ | ⟨h1, rfl, rfl, rfl, rfl⟩
  · obtain ⟨b1, b2, b3, b4⟩ := numD_in h3
    have hnum : numD y m d = begD y + sumM y (m - 1).toNat + (d - 1) := rfl
    have hb := rightB_iff.1 h3
    rw [h4] at b1 b2 b3 b4
    have HY := Lib.hid (yearOf_any n y w.drew.drew ⟨h1, h2⟩ ⟨b1, b2⟩)
    have hle := longI_le y m
    obtain ⟨j, rfl⟩ : ∃ j : Nat, m = (j : Int) + 1 := ⟨(m - 1).toNat, by omega⟩
    rw [show ((j : Int) + 1 - 1).toNat = j by omega] at b3 b4 hnum
    obtain ⟨r, hr⟩ : ∃ r, n - begD y = r := ⟨_, rfl⟩
    rw [hr] at b3 b4 HY
    have hr0 : 0 ≤ r ∧ r ≤ 366 := by have := begD_succ y; have := leapI_le y; omega
    have hdv : d = r - sumM y j + 1 := by omega
    have HL := Lib.hid (fun i => Long_any y i w.drew.drew.drew (hg.fr (((Fr.drew _ _).trans (Fr.drew _ (fun _ => False)) (fun _ _ h => h) (fun _ _ h => h)).trans (Fr.drew _ _) (fun _ _ h => h) (fun _ _ h => h))))
    have HN : Hid (∀ k : Nat, k ≤ 12 → 0 ≤ sumM y k ∧ sumM y k ≤ 366) := Lib.hid (sumM_le y)
    have hj : j ≤ 11 := by omega
    have B3 := Lib.hid b3
    have B4 := Lib.hid b4
    have hy' : -9999 ≤ y ∧ y ≤ 9999 := by omega
    subst hdv
    clear hb hnum hle hg h3 h4 hr b1 b2 b3 b4
    go_enter Tryd.func18, Tryd.ntmps18
    go_wp2_with fail
    refine HB1.out.mono ?_
    rintro e w' ⟨rfl, rfl⟩
    go_wp2_with fail
    refine HB2.out.mono ?_
    rintro e w' ⟨rfl, rfl⟩
    go_wp2_with fail
    refine HY.out.mono ?_
    rintro e w' ⟨rfl, rfl⟩
    go_wp2_with fail
    go_loop [3, 6] (fun v3 v6 => ∃ k : Nat, k ≤ j ∧ v3 = .int .i64 ((k : Int) + 1) ∧ v6 = .int .i64 (r - sumM y k)) (fun v3 _ => j + 1 - (intOf v3).toNat)
    case atStart => exact ⟨0, Nat.zero_le _, rfl, by simp [sumM]⟩
    case round =>
      obtain ⟨k, hk, rfl, rfl⟩ := hrel
      have hs := HN.out k (by omega)
      have hle := longI_le y ((k : Int) + 1)
      have HC := Lib.hid (HL.out ((k : Int) + 1))
      by_cases hlt : k < j
      · have hmo := sumM_mono (y := y) (show k + 1 ≤ j by omega)
        have hst := sumM_step y k
        have hb3 := B3.out
        have hge : longI y ((k : Int) + 1) ≤ r - sumM y k := by omega
        have HS := Lib.hid hst
        clear hst hmo hb3
        have h1 : (k : Int) < (j : Int) := by omega
        go_wp2_with fail
        refine HC.out.mono ?_
        rintro e w' ⟨rfl, rfl⟩
        go_wp2_with fail
        refine HC.out.mono ?_
        rintro e w' ⟨rfl, rfl⟩
        go_wp2_with fail
        go_round
        case rel => exact ⟨k + 1, by omega, by go_num, by rw [HS.out]; congr 1; omega⟩
        case measure => simp [intOf]; omega
      · obtain rfl : k = j := by omega
        have hb4 := B4.out
        rw [sumM_step] at hb4
        have hge : r - sumM y k < longI y ((k : Int) + 1) := by omega
        have hb3 := B3.out
        clear hb4
        go_wp2_with fail
        refine HC.out.mono ?_
        rintro e w' ⟨rfl, rfl⟩
        go_wp2_with fail
        (try simp only [Exit.inBlock, Exit.then])
        refine bodyPost_ret (results_tmp4 rfl _ _ _) rfl ?_
        exact ⟨rfl, (((Fr.drew _ _).trans (Fr.drew _ (fun _ => False)) (fun _ _ h => h) (fun _ _ h => h)).trans (Fr.drew _ _) (fun _ _ h => h) (fun _ _ h => h))⟩
  · by_cases ha : n < -4371587
    · clear HB2 hg
      go_enter Tryd.func18, Tryd.ntmps18
      go_wp2_with fail
      refine HB1.out.mono ?_
      rintro e w' ⟨rfl, rfl⟩
      go_wp2_with fail
      (try simp only [Exit.inBlock, Exit.then])
      refine bodyPost_ret (results_tmp4 rfl _ _ _) rfl ?_
      exact ⟨rfl, Fr.drew _ _⟩
    · have hb : 2932897 ≤ n := by omega
      clear hg h1
      go_enter Tryd.func18, Tryd.ntmps18
      go_wp2_with fail
      refine HB1.out.mono ?_
      rintro e w' ⟨rfl, rfl⟩
      go_wp2_with fail
      refine HB2.out.mono ?_
      rintro e w' ⟨rfl, rfl⟩
      go_wp2_with fail
      (try simp only [Exit.inBlock, Exit.then])
      refine bodyPost_ret (results_tmp4 rfl _ _ _) rfl ?_
      exact ⟨rfl, (Fr.drew _ _).trans (Fr.drew _ (fun _ => False)) (fun _ _ h => h) (fun _ _ h => h)⟩
end Go.Proofs.YtdnolfpaokbckaaDoor
