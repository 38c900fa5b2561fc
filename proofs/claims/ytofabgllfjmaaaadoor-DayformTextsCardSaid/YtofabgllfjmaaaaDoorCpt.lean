import Derived.Test.YtofabgllfjmaaaaDoorCnm
namespace Go.Proofs.YtofabgllfjmaaaaDoor
open Go.RowKit Go.Mem Go.Civil

theorem neg_parts {n c : Int} (h : n < 0) (hc : 0 < c) : (n.tmod c = 0 ∧ n % c = 0 ∧ n.tdiv c = n / c) ∨ (n.tmod c < 0 ∧ n % c = n.tmod c + c ∧ n / c = n.tdiv c - 1) := by
  have e1 : n.tmod c = -((-n) % c) := by
    have := Int.neg_tmod (-n) c
    rw [Int.neg_neg, Int.tmod_eq_emod_of_nonneg (a := -n) (by omega)] at this
    exact this
  have e2 : n.tdiv c = -((-n) / c) := by
    have := Int.neg_tdiv (a := -n) (b := c)
    rw [Int.neg_neg, Int.tdiv_eq_ediv_of_nonneg (a := -n) (by omega)] at this
    exact this
  have a1 := Int.emod_nonneg n (show c ≠ 0 by omega)
  have a2 := Int.emod_lt_of_pos n hc
  have b1 := Int.emod_nonneg (-n) (show c ≠ 0 by omega)
  have b2 := Int.emod_lt_of_pos (-n) hc
  have a3 := Int.mul_ediv_add_emod n c
  have b3 := Int.mul_ediv_add_emod (-n) c
  rw [e1, e2]
  generalize n % c = r at *
  generalize (-n) % c = s at *
  generalize n / c = q at *
  generalize (-n) / c = p at *
  have key : c * (q + p) + (r + s) = 0 := by rw [Int.mul_add]; omega
  have hq : q + p = 0 ∨ q + p = -1 := by
    rcases Int.lt_trichotomy (q + p) (-1) with h1 | h1 | h1
    · have := Int.mul_le_mul_of_nonneg_left (show q + p ≤ -2 by omega) (show 0 ≤ c by omega)
      omega
    · exact Or.inr h1
    · rcases Int.lt_trichotomy (q + p) 0 with h2 | h2 | h2
      · omega
      · exact Or.inl h2
      · have := Int.mul_le_mul_of_nonneg_left (show 1 ≤ q + p by omega) (show 0 ≤ c by omega)
        omega
  rcases hq with hq | hq
  · rw [hq] at key
    left
    omega
  · rw [hq] at key
    right
    omega

theorem neg_half {n c : Int} (h : n < 0) (hn : inRange n) (hc : 2 ≤ c) : -4611686018427387904 ≤ n.tdiv c ∧ n.tdiv c ≤ 0 := by
  have e2 : n.tdiv c = -((-n) / c) := by
    have := Int.neg_tdiv (a := -n) (b := c)
    rw [Int.neg_neg, Int.tdiv_eq_ediv_of_nonneg (a := -n) (by omega)] at this
    exact this
  have b1 := Int.emod_nonneg (-n) (show c ≠ 0 by omega)
  have b3 := Int.mul_ediv_add_emod (-n) c
  have b4 := Int.ediv_nonneg (show 0 ≤ -n by omega) (show 0 ≤ c by omega)
  rw [e2]
  generalize (-n) % c = s at *
  generalize (-n) / c = p at *
  have := Int.mul_le_mul_of_nonneg_right hc b4
  unfold inRange at hn
  omega
theorem ret_two {a b a' b' : Int} {P : World → Prop} {w : World} (h : a = a') (h' : b = b') (hp : P w) : Ending.returned (.tuple #[.int .i64 a, .int .i64 b]) = .returned (.tuple #[.int .i64 a', .int .i64 b']) ∧ P w := ⟨by rw [h, h'], hp⟩

theorem part_any (n c : Int) (w : World) (hc : 2 ≤ c ∧ c ≤ 1000000) (hn : inRange n) : Calls Tryd.prog 29 #[.int .i64 n, .int .i64 c] w fun e w' => e = .returned (.tuple #[.int .i64 (n / c), .int .i64 (n % c)]) ∧ w' = w.drew := by
  by_cases h : n < 0
  · have hp := neg_parts h (show 0 < c by omega)
    have c0 : (c == 0) = false := by simp; omega
    have c1 : (c == -1) = false := by simp; omega
    have a1 := Int.emod_nonneg n (show c ≠ 0 by omega)
    have a2 := Int.emod_lt_of_pos n (show 0 < c by omega)
    have a3 := neg_half h hn hc.1
    unfold inRange at hn
    rcases hp with ⟨h1, h2, h3⟩ | ⟨h1, h2, h3⟩
    · rw [h2]
      go_enter Tryd.func29, Tryd.ntmps29
      go_wp2_with fail
      go_region
      go_wp2_with fail
      go_ret2
      exact ⟨rfl, rfl⟩
    · rw [h3, h2]
      go_enter Tryd.func29, Tryd.ntmps29
      go_wp2_with fail
      go_region
      go_wp2_with fail
      go_ret2
      exact ⟨rfl, rfl⟩
  · have a1 := Int.emod_nonneg n (show c ≠ 0 by omega)
    unfold inRange at hn
    go_enter Tryd.func29, Tryd.ntmps29
    go_wp2_with fail
    go_region
    go_wp2_with fail
    go_ret2
    exact ⟨rfl, rfl⟩

theorem daysTo_any (r : Int) (w : World) (hr : -1000 ≤ r ∧ r ≤ 1000) (h0 : 0 ≤ r) : Calls Tryd.prog 37 #[.int .i64 r] w fun e w' => e = .returned (.int .i64 (toY r)) ∧ w = w' := by
  unfold toY
  have b1 : 0 ≤ (r + 3) / 4 ∧ (r + 3) / 4 ≤ 1000 := by omega
  have b2 : 0 ≤ (r + 99) / 100 ∧ (r + 99) / 100 ≤ 1000 := by omega
  have b3 : 0 ≤ (r + 399) / 400 ∧ (r + 399) / 400 ≤ 1000 := by omega
  go_enter Tryd.func37, Tryd.ntmps37
  go_wp2_with fail
  go_ret
  exact ⟨rfl, rfl⟩
theorem toY_le {r : Int} (h : 0 ≤ r ∧ r ≤ 400) : 0 ≤ toY r ∧ toY r ≤ 146097 := by unfold toY; omega
theorem begin_any (y : Int) (w : World) (hy : -9999 ≤ y ∧ y ≤ 10000) : Calls Tryd.prog 28 #[.int .i64 y] w fun e w' => e = .returned (.int .i64 (begD y)) ∧ w' = w.drew := by
  have HP := Lib.hid (part_any y 400 w (by omega) (by unfold inRange; omega))
  have HD := Lib.hid (daysTo_any (y % 400) w.drew (by omega) (by omega))
  have ht := toY_le (r := y % 400) (by omega)
  have hq : -25 ≤ y / 400 ∧ y / 400 ≤ 25 := by omega
  unfold begD
  generalize toY (y % 400) = T at *
  generalize y / 400 = q at *
  generalize y % 400 = r at *
  go_enter Tryd.func28, Tryd.ntmps28
  go_wp2_with fail
  refine HP.out.mono ?_
  rintro e w' ⟨rfl, rfl⟩
  go_wp2_with fail
  refine HD.out.mono ?_
  rintro e w' ⟨rfl, rfl⟩
  go_wp2_with fail
  go_ret
  exact ⟨rfl, rfl⟩
theorem Week_any (n : Int) (w : World) (hn : inRange n) : Calls Tryd.prog 15 #[.int .i64 n] w fun e w' => e = .returned (.int .i64 ((n + 4) % 7)) ∧ w' = w.drew := by
  have HP := Lib.hid (part_any n 7 w (by omega) hn)
  have hr : 0 ≤ n % 7 ∧ n % 7 < 7 := by omega
  have e : (n + 4) % 7 = (n % 7 + 4) % 7 := by omega
  rw [e]
  clear hn e
  generalize n % 7 = r at *
  generalize n / 7 = q at *
  go_enter Tryd.func15, Tryd.ntmps15
  go_wp2_with fail
  refine HP.out.mono ?_
  rintro e w' ⟨rfl, rfl⟩
  go_wp2_with fail
  go_ret
  exact ⟨rfl, rfl⟩
end Go.Proofs.YtofabgllfjmaaaaDoor
