import Derived.Test.YtdnolfpaokbckaaDoorRef
import Derived.Deep.RegionHeld3
namespace Go.Proofs.YtdnolfpaokbckaaDoor
open Go.RowKit Go.Mem Go.Civil

theorem Clock_any (t : Int) (w : World) (hn : inRange t) : Calls Tryd.prog 20 #[.int .i64 t] w fun e w' => e = .returned (.tuple #[.int .i64 (t / 86400), .int .i64 (t % 86400)]) ∧ w' = w.drew := by
  have HP := Lib.hid (part_any t 86400 w (by omega) hn)
  have hr : 0 ≤ t % 86400 ∧ t % 86400 < 86400 := by omega
  clear hn
  generalize t % 86400 = r at *
  generalize t / 86400 = q at *
  go_enter Tryd.func20, Tryd.ntmps20
  go_wp2_with fail
  refine HP.out.mono ?_
  rintro e w' ⟨rfl, rfl⟩
  go_wp2_with fail
  go_ret2
  exact ⟨rfl, rfl⟩
theorem year_of {n : Int} {y : Int} (hy : begD y ≤ n ∧ n < begD (y + 1)) :
    ∃ r, r = (if (n + 719528) % 146097 < toY ((n + 719528) % 146097 / 365) then (n + 719528) % 146097 / 365 - 1 else (n + 719528) % 146097 / 365) ∧
      0 ≤ r ∧ r < 400 ∧ 0 ≤ (n + 719528) % 146097 / 365 ∧ (n + 719528) % 146097 / 365 ≤ 400 ∧ y = (n + 719528) / 146097 * 400 + r ∧ n - begD y = (n + 719528) % 146097 - toY r ∧ 0 ≤ toY r ∧ toY r ≤ (n + 719528) % 146097 := by
  have hd : 0 ≤ (n + 719528) % 146097 ∧ (n + 719528) % 146097 < 146097 := by omega
  have hnn : n = (n + 719528) / 146097 * 146097 + (n + 719528) % 146097 - 719528 := by omega
  have h := era_year hd rfl
  refine ⟨_, rfl, h.1, h.2.1, by omega, h.2.2.2.2, ?_⟩
  generalize (if (n + 719528) % 146097 < toY ((n + 719528) % 146097 / 365) then (n + 719528) % 146097 / 365 - 1 else (n + 719528) % 146097 / 365) = r at *
  have h1 := begD_era ((n + 719528) / 146097) r ⟨h.1, h.2.1⟩
  have h2 := begD_era_next ((n + 719528) / 146097) r ⟨h.1, h.2.1⟩
  have hy2 : y = (n + 719528) / 146097 * 400 + r := begD_one hy.1 hy.2 (by omega) (by omega)
  have := toY_le (r := r) (by omega)
  refine ⟨hy2, ?_, this.1, h.2.2.1⟩
  rw [hy2, h1]
  omega
theorem yearOf_any (n y : Int) (w : World) (hn : -4371587 ≤ n ∧ n < 2932897) (hy : begD y ≤ n ∧ n < begD (y + 1)) :
    Calls Tryd.prog 26 #[.int .i64 n] w fun e w' => e = .returned (.tuple #[.int .i64 y, .int .i64 (n - begD y)]) ∧ w' = w.drew := by
  obtain ⟨r, hr, b0, b1, b2, b3, hy2, hy3, hy4, hy5⟩ := year_of hy
  have hd : 0 ≤ (n + 719528) % 146097 ∧ (n + 719528) % 146097 < 146097 := by omega
  have hq : -30 ≤ (n + 719528) / 146097 ∧ (n + 719528) / 146097 ≤ 30 := by omega
  have HP := Lib.hid (part_any (n + 719528) 146097 w (by omega) (by unfold inRange; omega))
  have HD := Lib.hid (fun w => daysTo_any ((n + 719528) % 146097 / 365) w (by omega) (by omega))
  have HE := Lib.hid (fun w => daysTo_any r w (by omega) (by omega))
  rw [hy3, hy2]
  have hto := toY_le (r := (n + 719528) % 146097 / 365) (by omega)
  clear hy hy2 hy3
  generalize (n + 719528) / 146097 = q at *
  generalize (n + 719528) % 146097 = d at *
  by_cases hlt : d < toY (d / 365)
  · rw [if_pos hlt] at hr
    subst hr
    go_enter Tryd.func26, Tryd.ntmps26
    go_wp2_with fail
    refine HP.out.mono ?_
    rintro e w' ⟨rfl, rfl⟩
    go_wp2_with fail
    refine (HD.out _).mono ?_
    rintro e w' ⟨rfl, rfl⟩
    go_wp2_with fail
    refine (HE.out _).mono ?_
    rintro e w' ⟨rfl, rfl⟩
    go_wp2_with fail
    go_ret2
    exact ⟨rfl, rfl⟩
  · rw [if_neg hlt] at hr
    subst hr
    go_enter Tryd.func26, Tryd.ntmps26
    go_wp2_with fail
    refine HP.out.mono ?_
    rintro e w' ⟨rfl, rfl⟩
    go_wp2_with fail
    refine (HD.out _).mono ?_
    rintro e w' ⟨rfl, rfl⟩
    go_wp2_with fail
    refine (HE.out _).mono ?_
    rintro e w' ⟨rfl, rfl⟩
    go_wp2_with fail
    go_ret2
    exact ⟨rfl, rfl⟩
end Go.Proofs.YtdnolfpaokbckaaDoor
