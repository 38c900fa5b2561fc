import Derived.Test.YtdnolfpaokbckaaDoorAli
namespace Go.Proofs.YtdnolfpaokbckaaDoor
open Go.RowKit Go.Mem Go.Civil

theorem rLeap_any (y : Int) (w : World) : Calls Tryd.prog 10 #[.int .i64 y] w fun e w' => e = .returned (.bool (leapB y)) ∧ w = w' := by
  go_enter Tryd.func10, Tryd.ntmps10
  go_wp2_with fail
  all_goals
    go_ret
    refine leap_ret ?_
    simp_all [leapB, tmod_zero, tests]
    try (rw [Bool.eq_iff_iff]; simp; omega)
theorem rLong_any (y m : Int) (w : World) : Calls Tryd.prog 12 #[.int .i64 y, .int .i64 m] w fun e w' => e = .returned (.int .i64 (longI y m)) ∧ w = w' := by
  obtain ⟨x, hx⟩ : ∃ x, longI y m = x := ⟨_, rfl⟩
  rw [hx]
  have HL := Lib.hid (rLeap_any y)
  by_cases h2 : m = 2
  · subst h2
    by_cases hl : leapB y = true
    · have e : x = 29 := by rw [← hx]; unfold longI leapI; rw [if_pos rfl, if_pos hl]; rfl
      subst e
      rw [hl] at HL
      clear hx
      go_enter Tryd.func12, Tryd.ntmps12
      go_wp2_with fail
      refine (HL.out _).mono ?_
      rintro e w' ⟨rfl, rfl⟩
      go_wp2_with fail
      go_ret
      exact ⟨rfl, rfl⟩
    · simp only [Bool.not_eq_true] at hl
      have e : x = 28 := by rw [← hx]; unfold longI leapI; rw [if_pos rfl, hl]; rfl
      subst e
      rw [hl] at HL
      clear hx
      go_enter Tryd.func12, Tryd.ntmps12
      go_wp2_with fail
      refine (HL.out _).mono ?_
      rintro e w' ⟨rfl, rfl⟩
      go_wp2_with fail
      go_ret
      exact ⟨rfl, rfl⟩
  · have HX := Lib.hid hx
    clear HL hx
    go_enter Tryd.func12, Tryd.ntmps12
    go_wp2_with fail
    all_goals
      go_ret
      refine ret_int ?_
      have hx := HX.out
      unfold longI at hx
      simp only [beq_iff_eq, beq_eq_false_iff_ne, ne_eq] at *
      omega
theorem rRight_any (y m d : Int) (w : World) : Calls Tryd.prog 14 #[.int .i64 y, .int .i64 m, .int .i64 d] w fun e w' => e = .returned (.bool (rightB y m d)) ∧ w = w' := by
  have HL := Lib.hid (rLong_any y m w)
  have HB := Lib.hid (rightB_iff (y := y) (m := m) (d := d))
  generalize rightB y m d = b at HB ⊢
  generalize longI y m = L at HB HL
  go_enter Tryd.func14, Tryd.ntmps14
  go_wp2_with fail
  all_goals first
    | (refine HL.out.mono ?_
       rintro e w' ⟨rfl, rfl⟩
       go_wp2_with fail
       all_goals
         go_ret
         refine ret_bool ?_
         have hb := HB.out
         rw [Bool.eq_iff_iff, hb]
         simp
         omega)
    | (go_ret
       refine ret_bool ?_
       have hb := HB.out
       rw [Bool.eq_iff_iff, hb]
       simp
       try omega)
end Go.Proofs.YtdnolfpaokbckaaDoor
