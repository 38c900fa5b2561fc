import Derived.Test.YtgcheollgnhdlaaGreatDoorProg
import Derived.Test.YtgcheollgnhdlaaGreatDoorMem
import Derived.Test.YtgcheollgnhdlaaGreatDoorS6Cpl
import Derived.Lib.Hide
import Derived.IntWalk
import Derived.LoopTactic
import Derived.Deep.LoopGhost
namespace Go.Proofs.YtgcheollgnhdlaaGreatDoor.S6
open Go.RowKit Go.Mem Go.Civil

def lenTab : List Int := [31, 28, 31, 30, 31, 30, 31, 31, 30, 31, 30, 31]
/-- the months' lengths stand where the program's text lays them -/
def LOk (w : World) : Prop := ∀ i, i < 12 → w.cell? ⟨6, i, none⟩ = some (.int .i64 (lenTab.getD i 0))
theorem LOk.fr {w w' : World} (h : LOk w) (f : Fr w w' (fun _ => False)) : LOk w' := by
  intro i hi
  have h0 := h i hi
  have hlt : 6 < w.heap.size := by
    rcases Nat.lt_or_ge 6 w.heap.size with h' | h'
    · exact h'
    · simp [World.cell?, Array.getElem?_eq_none h'] at h0
  rw [← h0]
  unfold World.cell?
  rw [f.block _ hlt (fun h => h)]
theorem lenTab_long {y : Int} {k : Nat} (h : 1 ≤ k ∧ k ≤ 12) : lenTab.getD (k - 1) 0 = longI y k - (if k = 2 then leapI y else 0) := by
  have : k = 1 ∨ k = 2 ∨ k = 3 ∨ k = 4 ∨ k = 5 ∨ k = 6 ∨ k = 7 ∨ k = 8 ∨ k = 9 ∨ k = 10 ∨ k = 11 ∨ k = 12 := by omega
  rcases this with rfl | rfl | rfl | rfl | rfl | rfl | rfl | rfl | rfl | rfl | rfl | rfl <;> simp [lenTab, longI] <;> omega
def inRange (n : Int) : Prop := -9223372036854775808 ≤ n ∧ n ≤ 9223372036854775807
theorem tmod_zero {y c : Int} : y.tmod c = 0 ↔ y % c = 0 := by
  rw [← Int.dvd_iff_tmod_eq_zero, Int.dvd_iff_emod_eq_zero]
theorem tests (y c : Int) : (y.tmod c == 0) = (y % c == 0) := by
  rw [Bool.eq_iff_iff]; simp [tmod_zero]

theorem leap_ret {y : Int} {b : Bool} {w : World} (h : b = leapB y) : Ending.returned (.bool b) = .returned (.bool (leapB y)) ∧ w = w := ⟨by rw [h], rfl⟩
theorem Leap_any (y : Int) (w : World) : Calls Tryz.prog 177 #[.int .i64 y] w fun e w' => e = .returned (.bool (leapB y)) ∧ w = w' := by
  go_enter Tryz.func177, Tryz.ntmps177
  go_wp2_with fail
  all_goals
    go_ret
    refine leap_ret ?_
    simp_all [leapB, tmod_zero, tests]
theorem Long_any (y m : Int) (w : World) (hg : LOk w) : Calls Tryz.prog 156 #[.int .i64 y, .int .i64 m] w fun e w' => e = .returned (.int .i64 (longI y m)) ∧ w = w' := by
  by_cases h : 1 ≤ m ∧ m ≤ 12
  · obtain ⟨k, rfl⟩ : ∃ k : Nat, m = (k : Int) := ⟨m.toNat, by omega⟩
    obtain ⟨j, rfl⟩ : ∃ j : Nat, k = j + 1 := ⟨k - 1, by omega⟩
    have hc := hg j (by omega)
    have ht := lenTab_long (y := y) (k := j + 1) (by omega)
    rw [show j + 1 - 1 = j from rfl] at ht
    rw [ht] at hc
    have hle := longI_le y ((j + 1 : Nat) : Int)
    clear hg ht
    push_cast at *
    obtain ⟨x, hx⟩ : ∃ x, longI y ((j : Int) + 1) = x := ⟨_, rfl⟩
    rw [hx] at hc hle ⊢
    by_cases h2 : j + 1 = 2
    · obtain rfl : j = 1 := by omega
      have HL := Lib.hid (Leap_any y)
      by_cases hl : leapB y = true
      · have e : leapI y = 1 := by unfold leapI; rw [if_pos hl]
        rw [hl] at HL
        rw [if_pos rfl, e] at hc
        clear hx
        go_enter Tryz.func156, Tryz.ntmps156
        go_wp2_with fail
        refine (HL.out _).mono ?_
        rintro e w' ⟨rfl, rfl⟩
        go_wp2_with fail
        go_ret
        exact ⟨by congr <;> omega, rfl⟩
      · simp only [Bool.not_eq_true] at hl
        have e : leapI y = 0 := by unfold leapI; rw [hl]; rfl
        rw [hl] at HL
        rw [if_pos rfl, e] at hc
        clear hx
        go_enter Tryz.func156, Tryz.ntmps156
        go_wp2_with fail
        refine (HL.out _).mono ?_
        rintro e w' ⟨rfl, rfl⟩
        go_wp2_with fail
        go_ret
        exact ⟨by congr <;> omega, rfl⟩
    · rw [if_neg (by omega)] at hc
      have n2 : (((j : Int) + 1) == 2) = false := by simp; omega
      clear hx
      go_enter Tryz.func156, Tryz.ntmps156
      go_wp2_with fail
      go_ret
      exact ⟨by congr <;> omega, rfl⟩
  · have e : longI y m = 0 := by
      unfold longI
      rw [if_neg (by omega), if_neg (by omega), if_neg h]
    rw [e]
    clear hg e
    by_cases h1 : m < 1
    · go_enter Tryz.func156, Tryz.ntmps156
      go_wp2_with fail
      go_ret
      exact ⟨rfl, rfl⟩
    · have h2 : m > 12 := by omega
      clear h
      go_enter Tryz.func156, Tryz.ntmps156
      go_wp2_with fail
      go_ret
      exact ⟨rfl, rfl⟩
end Go.Proofs.YtgcheollgnhdlaaGreatDoor.S6
namespace Go.Proofs.YtgcheollgnhdlaaGreatDoor.S6
open Go.RowKit Go.Mem Go.Civil

theorem ret_int {a b : Int} {w : World} (h : a = b) : Ending.returned (.int .i64 a) = .returned (.int .i64 b) ∧ w = w := ⟨by rw [h], rfl⟩
theorem ret_bool {a b : Bool} {w : World} (h : a = b) : Ending.returned (.bool a) = .returned (.bool b) ∧ w = w := ⟨by rw [h], rfl⟩
theorem longI_out {y m : Int} (h : ¬ (1 ≤ m ∧ m ≤ 12)) : longI y m = 0 := by
  unfold longI
  rw [if_neg (by omega), if_neg (by omega), if_neg h]
theorem Right_any (y m d : Int) (w : World) (hg : LOk w) : Calls Tryz.prog 154 #[.int .i64 y, .int .i64 m, .int .i64 d] w fun e w' => e = .returned (.bool (rightB y m d)) ∧ w = w' := by
  have HL := Lib.hid (Long_any y m w hg)
  have HB := Lib.hid (rightB_iff (y := y) (m := m) (d := d))
  have HM := Lib.hid (longI_out (y := y) (m := m))
  generalize rightB y m d = b at HB ⊢
  generalize longI y m = L at HB HL HM
  clear hg
  go_enter Tryz.func154, Tryz.ntmps154
  go_wp2_with fail
  all_goals first
    | (refine HL.out.mono ?_
       rintro e w' ⟨rfl, rfl⟩
       go_wp2_with fail
       all_goals
         go_ret
         refine ret_bool ?_
         have hb := HB.out
         have hm := HM.out
         rw [Bool.eq_iff_iff, hb]
         simp
         omega)
    | (go_ret
       refine ret_bool ?_
       have hb := HB.out
       have hm := HM.out
       rw [Bool.eq_iff_iff, hb]
       simp
       try omega)
end Go.Proofs.YtgcheollgnhdlaaGreatDoor.S6
namespace Go.Proofs.YtgcheollgnhdlaaGreatDoor.S6
open Go.RowKit Go.Mem Go.Civil

theorem neg_parts {n c : Int} (h : n < 0) (hc : 0 < c) : (n.tmod c = 0 ∧ n % c = 0 ∧ n.tdiv c = n / c) ∨ (n.tmod c < 0 ∧ n % c = n.tmod c + c ∧ n / c = n.tdiv c - 1) := by
  have e1 : n.tmod c = -((-n) % c) := by
    have := Int.neg_tmod (-n) c
    rw [Int.neg_neg, Int.tmod_eq_emod_of_nonneg (a := -n) (by omega)] at this
    exact this
  have e2 : n.tdiv c = -((-n) / c) := by
    have := Int.neg_tdiv (a := -n) (b := c)
    rw [Int.neg_neg, Int.tdiv_eq_ediv_of_nonneg (a := -n) (by omega)] at this
    exact this
  have a1 := Int.emod_nonneg n (show c ≠ 0 by omega)
  have a2 := Int.emod_lt_of_pos n hc
  have b1 := Int.emod_nonneg (-n) (show c ≠ 0 by omega)
  have b2 := Int.emod_lt_of_pos (-n) hc
  have a3 := Int.mul_ediv_add_emod n c
  have b3 := Int.mul_ediv_add_emod (-n) c
  rw [e1, e2]
  generalize n % c = r at *
  generalize (-n) % c = s at *
  generalize n / c = q at *
  generalize (-n) / c = p at *
  have key : c * (q + p) + (r + s) = 0 := by rw [Int.mul_add]; omega
  have hq : q + p = 0 ∨ q + p = -1 := by
    rcases Int.lt_trichotomy (q + p) (-1) with h1 | h1 | h1
    · have := Int.mul_le_mul_of_nonneg_left (show q + p ≤ -2 by omega) (show 0 ≤ c by omega)
      omega
    · exact Or.inr h1
    · rcases Int.lt_trichotomy (q + p) 0 with h2 | h2 | h2
      · omega
      · exact Or.inl h2
      · have := Int.mul_le_mul_of_nonneg_left (show 1 ≤ q + p by omega) (show 0 ≤ c by omega)
        omega
  rcases hq with hq | hq
  · rw [hq] at key
    left
    omega
  · rw [hq] at key
    right
    omega

theorem neg_half {n c : Int} (h : n < 0) (hn : inRange n) (hc : 2 ≤ c) : -4611686018427387904 ≤ n.tdiv c ∧ n.tdiv c ≤ 0 := by
  have e2 : n.tdiv c = -((-n) / c) := by
    have := Int.neg_tdiv (a := -n) (b := c)
    rw [Int.neg_neg, Int.tdiv_eq_ediv_of_nonneg (a := -n) (by omega)] at this
    exact this
  have b1 := Int.emod_nonneg (-n) (show c ≠ 0 by omega)
  have b3 := Int.mul_ediv_add_emod (-n) c
  have b4 := Int.ediv_nonneg (show 0 ≤ -n by omega) (show 0 ≤ c by omega)
  rw [e2]
  generalize (-n) % c = s at *
  generalize (-n) / c = p at *
  have := Int.mul_le_mul_of_nonneg_right hc b4
  unfold inRange at hn
  omega
theorem ret_two {a b a' b' : Int} {P : World → Prop} {w : World} (h : a = a') (h' : b = b') (hp : P w) : Ending.returned (.tuple #[.int .i64 a, .int .i64 b]) = .returned (.tuple #[.int .i64 a', .int .i64 b']) ∧ P w := ⟨by rw [h, h'], hp⟩

theorem part_any (n c : Int) (w : World) (hc : 2 ≤ c ∧ c ≤ 1000000) (hn : inRange n) : Calls Tryz.prog 157 #[.int .i64 n, .int .i64 c] w fun e w' => e = .returned (.tuple #[.int .i64 (n / c), .int .i64 (n % c)]) ∧ w' = w.drew := by
  by_cases h : n < 0
  · have hp := neg_parts h (show 0 < c by omega)
    have c0 : (c == 0) = false := by simp; omega
    have c1 : (c == -1) = false := by simp; omega
    have a1 := Int.emod_nonneg n (show c ≠ 0 by omega)
    have a2 := Int.emod_lt_of_pos n (show 0 < c by omega)
    have a3 := neg_half h hn hc.1
    unfold inRange at hn
    rcases hp with ⟨h1, h2, h3⟩ | ⟨h1, h2, h3⟩
    · rw [h2]
      go_enter Tryz.func157, Tryz.ntmps157
      go_wp2_with fail
      go_region
      go_wp2_with fail
      go_ret2
      exact ⟨rfl, rfl⟩
    · rw [h3, h2]
      go_enter Tryz.func157, Tryz.ntmps157
      go_wp2_with fail
      go_region
      go_wp2_with fail
      go_ret2
      exact ⟨rfl, rfl⟩
  · have a1 := Int.emod_nonneg n (show c ≠ 0 by omega)
    unfold inRange at hn
    go_enter Tryz.func157, Tryz.ntmps157
    go_wp2_with fail
    go_region
    go_wp2_with fail
    go_ret2
    exact ⟨rfl, rfl⟩

theorem daysTo_any (r : Int) (w : World) (hr : -1000 ≤ r ∧ r ≤ 1000) (h0 : 0 ≤ r) : Calls Tryz.prog 176 #[.int .i64 r] w fun e w' => e = .returned (.int .i64 (toY r)) ∧ w = w' := by
  unfold toY
  have b1 : 0 ≤ (r + 3) / 4 ∧ (r + 3) / 4 ≤ 1000 := by omega
  have b2 : 0 ≤ (r + 99) / 100 ∧ (r + 99) / 100 ≤ 1000 := by omega
  have b3 : 0 ≤ (r + 399) / 400 ∧ (r + 399) / 400 ≤ 1000 := by omega
  go_enter Tryz.func176, Tryz.ntmps176
  go_wp2_with fail
  go_ret
  exact ⟨rfl, rfl⟩
theorem toY_le {r : Int} (h : 0 ≤ r ∧ r ≤ 400) : 0 ≤ toY r ∧ toY r ≤ 146097 := by unfold toY; omega
theorem begin_any (y : Int) (w : World) (hy : -9999 ≤ y ∧ y ≤ 10000) : Calls Tryz.prog 155 #[.int .i64 y] w fun e w' => e = .returned (.int .i64 (begD y)) ∧ w' = w.drew := by
  have HP := Lib.hid (part_any y 400 w (by omega) (by unfold inRange; omega))
  have HD := Lib.hid (daysTo_any (y % 400) w.drew (by omega) (by omega))
  have ht := toY_le (r := y % 400) (by omega)
  have hq : -25 ≤ y / 400 ∧ y / 400 ≤ 25 := by omega
  unfold begD
  generalize toY (y % 400) = T at *
  generalize y / 400 = q at *
  generalize y % 400 = r at *
  go_enter Tryz.func155, Tryz.ntmps155
  go_wp2_with fail
  refine HP.out.mono ?_
  rintro e w' ⟨rfl, rfl⟩
  go_wp2_with fail
  refine HD.out.mono ?_
  rintro e w' ⟨rfl, rfl⟩
  go_wp2_with fail
  go_ret
  exact ⟨rfl, rfl⟩
theorem Week_any (n : Int) (w : World) (hn : inRange n) : Calls Tryz.prog 132 #[.int .i64 n] w fun e w' => e = .returned (.int .i64 ((n + 4) % 7)) ∧ w' = w.drew := by
  have HP := Lib.hid (part_any n 7 w (by omega) hn)
  have hr : 0 ≤ n % 7 ∧ n % 7 < 7 := by omega
  have e : (n + 4) % 7 = (n % 7 + 4) % 7 := by omega
  rw [e]
  clear hn e
  generalize n % 7 = r at *
  generalize n / 7 = q at *
  go_enter Tryz.func132, Tryz.ntmps132
  go_wp2_with fail
  refine HP.out.mono ?_
  rintro e w' ⟨rfl, rfl⟩
  go_wp2_with fail
  go_ret
  exact ⟨rfl, rfl⟩
end Go.Proofs.YtgcheollgnhdlaaGreatDoor.S6
namespace Go.Proofs.YtgcheollgnhdlaaGreatDoor.S6
open Go.RowKit Go.Mem Go.Civil

def daysK (y m d : Int) : Int := if rightB y m d then numD y m d else 0
def daysE (y m d : Int) : Int := if rightB y m d then 0 else 6
theorem sumM_step (y : Int) (k : Nat) : sumM y (k + 1) = sumM y k + longI y ((k : Int) + 1) := rfl
theorem sumM_le (y : Int) (k : Nat) (h : k ≤ 12) : 0 ≤ sumM y k ∧ sumM y k ≤ 366 := by
  have h1 := sumM_pos (y := y) k
  have h2 := sumM_mono (y := y) h
  rw [sumM_all] at h2
  have := leapI_le y
  omega
theorem Days_any (y m d : Int) (w : World) (hg : LOk w) :
    Calls Tryz.prog 129 #[.int .i64 y, .int .i64 m, .int .i64 d] w fun e w' => e = .returned (.tuple #[.int .i64 (daysK y m d), .int .i64 (daysE y m d)]) ∧ Fr w w' (fun _ => False) := by
  have HR := Lib.hid (Right_any y m d w hg)
  unfold daysK daysE
  by_cases h : rightB y m d = true
  · rw [h] at HR
    rw [if_pos h, if_pos h]
    have hb := rightB_iff.1 h
    have hnum : numD y m d = begD y + sumM y (m - 1).toNat + (d - 1) := rfl
    have HB := Lib.hid (begin_any y w (by omega))
    have hbr := begD_range (y := y) (by omega)
    have hle := longI_le y m
    obtain ⟨j, rfl⟩ : ∃ j : Nat, m = (j : Int) + 1 := ⟨(m - 1).toNat, by omega⟩
    rw [show ((j : Int) + 1 - 1).toNat = j by omega] at hnum
    have hb1 : 1 ≤ d ∧ d ≤ 31 ∧ (j : Int) ≤ 11 := by omega
    rw [hnum]
    have HL := Lib.hid (fun i => Long_any y i w.drew (hg.fr (Fr.drew _ _)))
    have HN : Hid (∀ k : Nat, k ≤ 12 → 0 ≤ sumM y k ∧ sumM y k ≤ 366) := Lib.hid (sumM_le y)
    generalize begD y = B at *
    clear h hb hnum hle hg
    go_enter Tryz.func129, Tryz.ntmps129
    go_wp2_with fail
    refine HR.out.mono ?_
    rintro e w' ⟨rfl, rfl⟩
    go_wp2_with fail
    refine HB.out.mono ?_
    rintro e w' ⟨rfl, rfl⟩
    go_wp2_with fail
    go_loop [8, 9] (fun v8 v9 => ∃ k : Nat, k ≤ j ∧ v8 = .int .i64 (B + (d - 1) + sumM y k) ∧ v9 = .int .i64 ((k : Int) + 1)) (fun _ v9 => j + 1 - (intOf v9).toNat)
    case atStart => exact ⟨0, Nat.zero_le _, by simp [sumM], rfl⟩
    case round =>
      obtain ⟨k, hk, rfl, rfl⟩ := hrel
      by_cases hlt : k < j
      · have hs := HN.out k (by omega)
        have hs2 := HN.out (k + 1) (by omega)
        have hst := sumM_step y k
        have HS := Lib.hid hst
        have HC := Lib.hid (HL.out ((k : Int) + 1))
        have h1 : (k : Int) < (j : Int) := by omega
        have h2 : (k : Int) + 1 < (j : Int) + 1 := by omega
        have hle := longI_le y ((k : Int) + 1)
        generalize longI y ((k : Int) + 1) = L at *
        generalize sumM y k = S at *
        clear hst
        go_wp2_with fail
        refine HC.out.mono ?_
        rintro e w' ⟨rfl, rfl⟩
        go_wp2_with fail
        go_round
        case rel => exact ⟨k + 1, by omega, by rw [HS.out]; congr 1; omega, by go_num⟩
        case measure => simp [intOf]; omega
      · obtain rfl : k = j := by omega
        have hs := HN.out k (by omega)
        go_wp2_with fail
        go_ret2
        exact ret_two (P := fun w' => Fr w w' (fun _ => False)) (by omega) rfl (Fr.drew _ _)
  · rw [if_neg h, if_neg h]
    simp only [Bool.not_eq_true] at h
    rw [h] at HR
    clear h hg
    go_enter Tryz.func129, Tryz.ntmps129
    go_wp2_with fail
    refine HR.out.mono ?_
    rintro e w' ⟨rfl, rfl⟩
    go_wp2_with fail
    go_ret2
    exact ⟨rfl, Fr.refl _ _⟩
end Go.Proofs.YtgcheollgnhdlaaGreatDoor.S6
