import Derived.Test.YtpjmmnhmhjpkkaaGreatDoorProg
import Derived.Test.YtpjmmnhmhjpkkaaGreatDoorYa09
import Derived.Test.YtpjmmnhmhjpkkaaGreatDoorYa01
import Derived.Lib.Hide
import Derived.IntWalk
import Derived.LoopTactic
import Derived.Deep.LoopGhost
import Derived.Test.YtpjmmnhmhjpkkaaGreatDoorYa03
import Derived.BigQuiet
import Derived.Deep.QuietTactic
import Derived.WalkLawsBesides
import Derived.Tactics2
import Derived.Test.YtpjmmnhmhjpkkaaGreatDoorCards
import Derived.Test.YtpjmmnhmhjpkkaaGreatDoorTie
import Derived.ShutString
import Derived.ChangeOld
import Derived.ChangeMaps5
import Derived.ProofKit
import Derived.OpenShut
import Derived.JoinedCond
import Derived.Deep.DeepHandedRow
import Derived.Deep.DeepWitnessRowRef
import Derived.Lib.LaidTab
import Derived.Lay
import Derived.LaidLaws
import Derived.Deep.RegionHeld3
namespace Go.Proofs.YtpjmmnhmhjpkkaaGreatDoor.S6
open Go.RowKit Go.Mem Go.Civil

def lenTab : List Int := [31, 28, 31, 30, 31, 30, 31, 31, 30, 31, 30, 31]
/-- the months' lengths stand where the program's text lays them -/
def LOk (w : World) : Prop := ∀ i, i < 12 → w.cell? ⟨0, i, none⟩ = some (.int .i64 (lenTab.getD i 0))
theorem LOk.fr {w w' : World} (h : LOk w) (f : Fr w w' (fun _ => False)) : LOk w' := by
  intro i hi
  have h0 := h i hi
  have hlt : 0 < w.heap.size := by
    rcases Nat.lt_or_ge 0 w.heap.size with h' | h'
    · exact h'
    · simp [World.cell?, Array.getElem?_eq_none h'] at h0
  rw [← h0]
  unfold World.cell?
  rw [f.block _ hlt (fun h => h)]
theorem lenTab_long {y : Int} {k : Nat} (h : 1 ≤ k ∧ k ≤ 12) : lenTab.getD (k - 1) 0 = longI y k - (if k = 2 then leapI y else 0) := by
  have : k = 1 ∨ k = 2 ∨ k = 3 ∨ k = 4 ∨ k = 5 ∨ k = 6 ∨ k = 7 ∨ k = 8 ∨ k = 9 ∨ k = 10 ∨ k = 11 ∨ k = 12 := by omega
  rcases this with rfl | rfl | rfl | rfl | rfl | rfl | rfl | rfl | rfl | rfl | rfl | rfl <;> simp [lenTab, longI] <;> omega
def inRange (n : Int) : Prop := -9223372036854775808 ≤ n ∧ n ≤ 9223372036854775807
theorem tmod_zero {y c : Int} : y.tmod c = 0 ↔ y % c = 0 := by
  rw [← Int.dvd_iff_tmod_eq_zero, Int.dvd_iff_emod_eq_zero]
theorem tests (y c : Int) : (y.tmod c == 0) = (y % c == 0) := by
  rw [Bool.eq_iff_iff]; simp [tmod_zero]

theorem leap_ret {y : Int} {b : Bool} {w : World} (h : b = leapB y) : Ending.returned (.bool b) = .returned (.bool (leapB y)) ∧ w = w := ⟨by rw [h], rfl⟩
theorem Leap_any (y : Int) (w : World) : Calls Tryz.prog 58 #[.int .i64 y] w fun e w' => e = .returned (.bool (leapB y)) ∧ w = w' := by
  go_enter Tryz.func58, Tryz.ntmps58
  go_wp2_with fail
  all_goals
    go_ret
    refine leap_ret ?_
    simp_all [leapB, tmod_zero, tests]
theorem Long_any (y m : Int) (w : World) (hg : LOk w) : Calls Tryz.prog 41 #[.int .i64 y, .int .i64 m] w fun e w' => e = .returned (.int .i64 (longI y m)) ∧ w = w' := by
  by_cases h : 1 ≤ m ∧ m ≤ 12
  · obtain ⟨k, rfl⟩ : ∃ k : Nat, m = (k : Int) := ⟨m.toNat, by omega⟩
    obtain ⟨j, rfl⟩ : ∃ j : Nat, k = j + 1 := ⟨k - 1, by omega⟩
    have hc := hg j (by omega)
    have ht := lenTab_long (y := y) (k := j + 1) (by omega)
    rw [show j + 1 - 1 = j from rfl] at ht
    rw [ht] at hc
    have hle := longI_le y ((j + 1 : Nat) : Int)
    clear hg ht
    push_cast at *
    obtain ⟨x, hx⟩ : ∃ x, longI y ((j : Int) + 1) = x := ⟨_, rfl⟩
    rw [hx] at hc hle ⊢
    by_cases h2 : j + 1 = 2
    · obtain rfl : j = 1 := by omega
      have HL := Lib.hid (Leap_any y)
      by_cases hl : leapB y = true
      · have e : leapI y = 1 := by unfold leapI; rw [if_pos hl]
        rw [hl] at HL
        rw [if_pos rfl, e] at hc
        clear hx
        go_enter Tryz.func41, Tryz.ntmps41
        go_wp2_with fail
        refine (HL.out _).mono ?_
        rintro e w' ⟨rfl, rfl⟩
        go_wp2_with fail
        go_ret
        exact ⟨by congr <;> omega, rfl⟩
      · simp only [Bool.not_eq_true] at hl
        have e : leapI y = 0 := by unfold leapI; rw [hl]; rfl
        rw [hl] at HL
        rw [if_pos rfl, e] at hc
        clear hx
        go_enter Tryz.func41, Tryz.ntmps41
        go_wp2_with fail
        refine (HL.out _).mono ?_
        rintro e w' ⟨rfl, rfl⟩
        go_wp2_with fail
        go_ret
        exact ⟨by congr <;> omega, rfl⟩
    · rw [if_neg (by omega)] at hc
      have n2 : (((j : Int) + 1) == 2) = false := by simp; omega
      clear hx
      go_enter Tryz.func41, Tryz.ntmps41
      go_wp2_with fail
      go_ret
      exact ⟨by congr <;> omega, rfl⟩
  · have e : longI y m = 0 := by
      unfold longI
      rw [if_neg (by omega), if_neg (by omega), if_neg h]
    rw [e]
    clear hg e
    by_cases h1 : m < 1
    · go_enter Tryz.func41, Tryz.ntmps41
      go_wp2_with fail
      go_ret
      exact ⟨rfl, rfl⟩
    · have h2 : m > 12 := by omega
      clear h
      go_enter Tryz.func41, Tryz.ntmps41
      go_wp2_with fail
      go_ret
      exact ⟨rfl, rfl⟩
end Go.Proofs.YtpjmmnhmhjpkkaaGreatDoor.S6
namespace Go.Proofs.YtpjmmnhmhjpkkaaGreatDoor.S6
open Go.RowKit Go.Mem Go.Civil

theorem ret_int {a b : Int} {w : World} (h : a = b) : Ending.returned (.int .i64 a) = .returned (.int .i64 b) ∧ w = w := ⟨by rw [h], rfl⟩
theorem ret_bool {a b : Bool} {w : World} (h : a = b) : Ending.returned (.bool a) = .returned (.bool b) ∧ w = w := ⟨by rw [h], rfl⟩
theorem longI_out {y m : Int} (h : ¬ (1 ≤ m ∧ m ≤ 12)) : longI y m = 0 := by
  unfold longI
  rw [if_neg (by omega), if_neg (by omega), if_neg h]
theorem Right_any (y m d : Int) (w : World) (hg : LOk w) : Calls Tryz.prog 89 #[.int .i64 y, .int .i64 m, .int .i64 d] w fun e w' => e = .returned (.bool (rightB y m d)) ∧ w = w' := by
  have HL := Lib.hid (Long_any y m w hg)
  have HB := Lib.hid (rightB_iff (y := y) (m := m) (d := d))
  have HM := Lib.hid (longI_out (y := y) (m := m))
  generalize rightB y m d = b at HB ⊢
  generalize longI y m = L at HB HL HM
  clear hg
  go_enter Tryz.func89, Tryz.ntmps89
  go_wp2_with fail
  all_goals first
    | (refine HL.out.mono ?_
       rintro e w' ⟨rfl, rfl⟩
       go_wp2_with fail
       all_goals
         go_ret
         refine ret_bool ?_
         have hb := HB.out
         have hm := HM.out
         rw [Bool.eq_iff_iff, hb]
         simp
         omega)
    | (go_ret
       refine ret_bool ?_
       have hb := HB.out
       have hm := HM.out
       rw [Bool.eq_iff_iff, hb]
       simp
       try omega)
end Go.Proofs.YtpjmmnhmhjpkkaaGreatDoor.S6
namespace Go.Proofs.YtpjmmnhmhjpkkaaGreatDoor.S6
open Go.RowKit Go.Mem Go.Civil

theorem neg_parts {n c : Int} (h : n < 0) (hc : 0 < c) : (n.tmod c = 0 ∧ n % c = 0 ∧ n.tdiv c = n / c) ∨ (n.tmod c < 0 ∧ n % c = n.tmod c + c ∧ n / c = n.tdiv c - 1) := by
  have e1 : n.tmod c = -((-n) % c) := by
    have := Int.neg_tmod (-n) c
    rw [Int.neg_neg, Int.tmod_eq_emod_of_nonneg (a := -n) (by omega)] at this
    exact this
  have e2 : n.tdiv c = -((-n) / c) := by
    have := Int.neg_tdiv (a := -n) (b := c)
    rw [Int.neg_neg, Int.tdiv_eq_ediv_of_nonneg (a := -n) (by omega)] at this
    exact this
  have a1 := Int.emod_nonneg n (show c ≠ 0 by omega)
  have a2 := Int.emod_lt_of_pos n hc
  have b1 := Int.emod_nonneg (-n) (show c ≠ 0 by omega)
  have b2 := Int.emod_lt_of_pos (-n) hc
  have a3 := Int.mul_ediv_add_emod n c
  have b3 := Int.mul_ediv_add_emod (-n) c
  rw [e1, e2]
  generalize n % c = r at *
  generalize (-n) % c = s at *
  generalize n / c = q at *
  generalize (-n) / c = p at *
  have key : c * (q + p) + (r + s) = 0 := by rw [Int.mul_add]; omega
  have hq : q + p = 0 ∨ q + p = -1 := by
    rcases Int.lt_trichotomy (q + p) (-1) with h1 | h1 | h1
    · have := Int.mul_le_mul_of_nonneg_left (show q + p ≤ -2 by omega) (show 0 ≤ c by omega)
      omega
    · exact Or.inr h1
    · rcases Int.lt_trichotomy (q + p) 0 with h2 | h2 | h2
      · omega
      · exact Or.inl h2
      · have := Int.mul_le_mul_of_nonneg_left (show 1 ≤ q + p by omega) (show 0 ≤ c by omega)
        omega
  rcases hq with hq | hq
  · rw [hq] at key
    left
    omega
  · rw [hq] at key
    right
    omega

theorem neg_half {n c : Int} (h : n < 0) (hn : inRange n) (hc : 2 ≤ c) : -4611686018427387904 ≤ n.tdiv c ∧ n.tdiv c ≤ 0 := by
  have e2 : n.tdiv c = -((-n) / c) := by
    have := Int.neg_tdiv (a := -n) (b := c)
    rw [Int.neg_neg, Int.tdiv_eq_ediv_of_nonneg (a := -n) (by omega)] at this
    exact this
  have b1 := Int.emod_nonneg (-n) (show c ≠ 0 by omega)
  have b3 := Int.mul_ediv_add_emod (-n) c
  have b4 := Int.ediv_nonneg (show 0 ≤ -n by omega) (show 0 ≤ c by omega)
  rw [e2]
  generalize (-n) % c = s at *
  generalize (-n) / c = p at *
  have := Int.mul_le_mul_of_nonneg_right hc b4
  unfold inRange at hn
  omega
theorem ret_two {a b a' b' : Int} {P : World → Prop} {w : World} (h : a = a') (h' : b = b') (hp : P w) : Ending.returned (.tuple #[.int .i64 a, .int .i64 b]) = .returned (.tuple #[.int .i64 a', .int .i64 b']) ∧ P w := ⟨by rw [h, h'], hp⟩

theorem part_any (n c : Int) (w : World) (hc : 2 ≤ c ∧ c ≤ 1000000) (hn : inRange n) : Calls Tryz.prog 38 #[.int .i64 n, .int .i64 c] w fun e w' => e = .returned (.tuple #[.int .i64 (n / c), .int .i64 (n % c)]) ∧ w' = w.drew := by
  by_cases h : n < 0
  · have hp := neg_parts h (show 0 < c by omega)
    have c0 : (c == 0) = false := by simp; omega
    have c1 : (c == -1) = false := by simp; omega
    have a1 := Int.emod_nonneg n (show c ≠ 0 by omega)
    have a2 := Int.emod_lt_of_pos n (show 0 < c by omega)
    have a3 := neg_half h hn hc.1
    unfold inRange at hn
    rcases hp with ⟨h1, h2, h3⟩ | ⟨h1, h2, h3⟩
    · rw [h2]
      go_enter Tryz.func38, Tryz.ntmps38
      go_wp2_with fail
      go_region
      go_wp2_with fail
      go_ret2
      exact ⟨rfl, rfl⟩
    · rw [h3, h2]
      go_enter Tryz.func38, Tryz.ntmps38
      go_wp2_with fail
      go_region
      go_wp2_with fail
      go_ret2
      exact ⟨rfl, rfl⟩
  · have a1 := Int.emod_nonneg n (show c ≠ 0 by omega)
    unfold inRange at hn
    go_enter Tryz.func38, Tryz.ntmps38
    go_wp2_with fail
    go_region
    go_wp2_with fail
    go_ret2
    exact ⟨rfl, rfl⟩

theorem daysTo_any (r : Int) (w : World) (hr : -1000 ≤ r ∧ r ≤ 1000) (h0 : 0 ≤ r) : Calls Tryz.prog 57 #[.int .i64 r] w fun e w' => e = .returned (.int .i64 (toY r)) ∧ w = w' := by
  unfold toY
  have b1 : 0 ≤ (r + 3) / 4 ∧ (r + 3) / 4 ≤ 1000 := by omega
  have b2 : 0 ≤ (r + 99) / 100 ∧ (r + 99) / 100 ≤ 1000 := by omega
  have b3 : 0 ≤ (r + 399) / 400 ∧ (r + 399) / 400 ≤ 1000 := by omega
  go_enter Tryz.func57, Tryz.ntmps57
  go_wp2_with fail
  go_ret
  exact ⟨rfl, rfl⟩
theorem toY_le {r : Int} (h : 0 ≤ r ∧ r ≤ 400) : 0 ≤ toY r ∧ toY r ≤ 146097 := by unfold toY; omega
theorem begin_any (y : Int) (w : World) (hy : -9999 ≤ y ∧ y ≤ 10000) : Calls Tryz.prog 39 #[.int .i64 y] w fun e w' => e = .returned (.int .i64 (begD y)) ∧ w' = w.drew := by
  have HP := Lib.hid (part_any y 400 w (by omega) (by unfold inRange; omega))
  have HD := Lib.hid (daysTo_any (y % 400) w.drew (by omega) (by omega))
  have ht := toY_le (r := y % 400) (by omega)
  have hq : -25 ≤ y / 400 ∧ y / 400 ≤ 25 := by omega
  unfold begD
  generalize toY (y % 400) = T at *
  generalize y / 400 = q at *
  generalize y % 400 = r at *
  go_enter Tryz.func39, Tryz.ntmps39
  go_wp2_with fail
  refine HP.out.mono ?_
  rintro e w' ⟨rfl, rfl⟩
  go_wp2_with fail
  refine HD.out.mono ?_
  rintro e w' ⟨rfl, rfl⟩
  go_wp2_with fail
  go_ret
  exact ⟨rfl, rfl⟩
theorem Week_any (n : Int) (w : World) (hn : inRange n) : Calls Tryz.prog 77 #[.int .i64 n] w fun e w' => e = .returned (.int .i64 ((n + 4) % 7)) ∧ w' = w.drew := by
  have HP := Lib.hid (part_any n 7 w (by omega) hn)
  have hr : 0 ≤ n % 7 ∧ n % 7 < 7 := by omega
  have e : (n + 4) % 7 = (n % 7 + 4) % 7 := by omega
  rw [e]
  clear hn e
  generalize n % 7 = r at *
  generalize n / 7 = q at *
  go_enter Tryz.func77, Tryz.ntmps77
  go_wp2_with fail
  refine HP.out.mono ?_
  rintro e w' ⟨rfl, rfl⟩
  go_wp2_with fail
  go_ret
  exact ⟨rfl, rfl⟩
end Go.Proofs.YtpjmmnhmhjpkkaaGreatDoor.S6
namespace Go.Proofs.YtpjmmnhmhjpkkaaGreatDoor.S6
open Go.RowKit Go.Mem Go.Civil

def daysK (y m d : Int) : Int := if rightB y m d then numD y m d else 0
def daysE (y m d : Int) : Int := if rightB y m d then 0 else 6
theorem sumM_step (y : Int) (k : Nat) : sumM y (k + 1) = sumM y k + longI y ((k : Int) + 1) := rfl
theorem sumM_le (y : Int) (k : Nat) (h : k ≤ 12) : 0 ≤ sumM y k ∧ sumM y k ≤ 366 := by
  have h1 := sumM_pos (y := y) k
  have h2 := sumM_mono (y := y) h
  rw [sumM_all] at h2
  have := leapI_le y
  omega
theorem Days_any (y m d : Int) (w : World) (hg : LOk w) :
    Calls Tryz.prog 74 #[.int .i64 y, .int .i64 m, .int .i64 d] w fun e w' => e = .returned (.tuple #[.int .i64 (daysK y m d), .int .i64 (daysE y m d)]) ∧ Fr w w' (fun _ => False) := by
  have HR := Lib.hid (Right_any y m d w hg)
  unfold daysK daysE
  by_cases h : rightB y m d = true
  · rw [h] at HR
    rw [if_pos h, if_pos h]
    have hb := rightB_iff.1 h
    have hnum : numD y m d = begD y + sumM y (m - 1).toNat + (d - 1) := rfl
    have HB := Lib.hid (begin_any y w (by omega))
    have hbr := begD_range (y := y) (by omega)
    have hle := longI_le y m
    obtain ⟨j, rfl⟩ : ∃ j : Nat, m = (j : Int) + 1 := ⟨(m - 1).toNat, by omega⟩
    rw [show ((j : Int) + 1 - 1).toNat = j by omega] at hnum
    have hb1 : 1 ≤ d ∧ d ≤ 31 ∧ (j : Int) ≤ 11 := by omega
    rw [hnum]
    have HL := Lib.hid (fun i => Long_any y i w.drew (hg.fr (Fr.drew _ _)))
    have HN : Hid (∀ k : Nat, k ≤ 12 → 0 ≤ sumM y k ∧ sumM y k ≤ 366) := Lib.hid (sumM_le y)
    generalize begD y = B at *
    clear h hb hnum hle hg
    go_enter Tryz.func74, Tryz.ntmps74
    go_wp2_with fail
    refine HR.out.mono ?_
    rintro e w' ⟨rfl, rfl⟩
    go_wp2_with fail
    refine HB.out.mono ?_
    rintro e w' ⟨rfl, rfl⟩
    go_wp2_with fail
    go_loop [8, 9] (fun v8 v9 => ∃ k : Nat, k ≤ j ∧ v8 = .int .i64 (B + (d - 1) + sumM y k) ∧ v9 = .int .i64 ((k : Int) + 1)) (fun _ v9 => j + 1 - (intOf v9).toNat)
    case atStart => exact ⟨0, Nat.zero_le _, by simp [sumM], rfl⟩
    case round =>
      obtain ⟨k, hk, rfl, rfl⟩ := hrel
      by_cases hlt : k < j
      · have hs := HN.out k (by omega)
        have hs2 := HN.out (k + 1) (by omega)
        have hst := sumM_step y k
        have HS := Lib.hid hst
        have HC := Lib.hid (HL.out ((k : Int) + 1))
        have h1 : (k : Int) < (j : Int) := by omega
        have h2 : (k : Int) + 1 < (j : Int) + 1 := by omega
        have hle := longI_le y ((k : Int) + 1)
        generalize longI y ((k : Int) + 1) = L at *
        generalize sumM y k = S at *
        clear hst
        go_wp2_with fail
        refine HC.out.mono ?_
        rintro e w' ⟨rfl, rfl⟩
        go_wp2_with fail
        go_round
        case rel => exact ⟨k + 1, by omega, by rw [HS.out]; congr 1; omega, by go_num⟩
        case measure => simp [intOf]; omega
      · obtain rfl : k = j := by omega
        have hs := HN.out k (by omega)
        go_wp2_with fail
        go_ret2
        exact ret_two (P := fun w' => Fr w w' (fun _ => False)) (by omega) rfl (Fr.drew _ _)
  · rw [if_neg h, if_neg h]
    simp only [Bool.not_eq_true] at h
    rw [h] at HR
    clear h hg
    go_enter Tryz.func74, Tryz.ntmps74
    go_wp2_with fail
    refine HR.out.mono ?_
    rintro e w' ⟨rfl, rfl⟩
    go_wp2_with fail
    go_ret2
    exact ⟨rfl, Fr.refl _ _⟩
end Go.Proofs.YtpjmmnhmhjpkkaaGreatDoor.S6
namespace Go.Proofs.YtpjmmnhmhjpkkaaGreatDoor.S6
open Go.RowKit Go.Mem Go.Dfm

abbrev Bs := List UInt8
abbrev strV (l : Bs) : Value := .string ⟨l.toArray⟩
theorem str_size (l : Bs) : (⟨l.toArray⟩ : ByteArray).size = l.length := by show l.toArray.size = _; simp
theorem ff {a c d : World} (h : Fr a c (fun _ => False)) (h2 : Fr c d (fun _ => False)) : Fr a d (fun _ => False) := h.trans h2 (fun _ _ h => h) (fun _ _ h => h)
/-- a day -/
abbrev dayV (k d w : Int) : Value := .agg #[.int .i64 k, .int .i64 d, .int .i64 w]
theorem ret_bf {a b : Bool} {x y : World} (h : a = b) (hf : Fr x y (fun _ => False)) : Ending.returned (.bool a) = .returned (.bool b) ∧ Fr x y (fun _ => False) := ⟨by rw [h], hf⟩
theorem right_any (k d q : Int) (w : World) : Calls Tryz.prog 73 #[dayV k d q] w fun e w' => e = .returned (.bool (rightB k d q)) ∧ Fr w w' (fun _ => False) := by
  obtain ⟨b, hb⟩ : ∃ b, rightB k d q = b := ⟨_, rfl⟩
  have HB := Lib.hid (show b = true ↔ rightP k d q by rw [← hb]; exact rightB_iff)
  rw [hb]
  clear hb
  go_enter Tryz.func73, Tryz.ntmps73
  go_wp2_with fail
  all_goals
    go_ret
    refine ret_bf ?_ (Fr.new _ _ _)
    have hb := HB.out
    rw [Bool.eq_iff_iff, hb]
    simp [rightP]
    try (simp only [beq_iff_eq, beq_eq_false_iff_ne, ne_eq] at *; omega)
end Go.Proofs.YtpjmmnhmhjpkkaaGreatDoor.S6
namespace Go.Proofs.YtpjmmnhmhjpkkaaGreatDoor.S6
open Go.RowKit Go.Mem Go.Dfm

/-- the variables that the code reads hold what the program's text lays -/
structure WOk (w : World) : Prop where
  lok : LOk w
theorem WOk.fr {w w' : World} (h : WOk w) (f : Fr w w' (fun _ => False)) : WOk w' := ⟨h.lok.fr f⟩
theorem fr_below {w w' : World} (h : Below w.heap.size w w') : Fr w w' (fun _ => False) := (Fr.ofBelow h).mono (fun i hi hs => absurd hs (by omega))
end Go.Proofs.YtpjmmnhmhjpkkaaGreatDoor.S6
namespace Go.Proofs.YtpjmmnhmhjpkkaaGreatDoor
open Go.ChangeShapes Go.WideShapes Go.ChangeAt Go.RowKit Go.Mem

theorem own : ownKnob Tryz.prog.godebug = none := by kernel_rfl
theorem laidOut : laidOutB Tryz.prog = true := by kernel_rfl
theorem gLen : Tryz.prog.globalNamed "noonmark/civil.lengths" = some 0 := by kernel_rfl
theorem gLenType : (Tryz.prog.globals[0]?).map (·.type) = some 106 := by kernel_rfl
theorem cellsArr : Tryz.prog.cellsOf 106 = 12 := by kernel_rfl
theorem cellsInt : Tryz.prog.cellsOf 3 = 1 := by kernel_rfl
abbrev theList : List (String × DataW Unit) := [("noonmark/civil.lengths", Rows.laid_noonmark_civil_lengths)]

theorem wok {W : World} (h : laidMetH Tryz.prog theList W) (_hs : W.ShapedOpen Tryz.prog) : S6.WOk W := by
  have h1 := h.filter (fun x => x.1 == "noonmark/civil.lengths")
  have h2 : theList.filter (fun x => x.1 == "noonmark/civil.lengths") = [("noonmark/civil.lengths", Rows.laid_noonmark_civil_lengths)] := by kernel_rfl
  rw [h2] at h1
  have ht := Lib.tabIs_of_head (rest := []) (zs := S6.lenTab) gLen gLenType Tryz.underlying106 Tryz.underlying3 cellsInt cellsArr h1
  exact ⟨fun i hi => ht.cell gLen i hi⟩
theorem laid_met (os : Os) (args : Array Value) : laidMet Tryz.prog theList ((World.laidAll Tryz.prog os theList).forCall (fun _ _ => 0) ⟨#[], args, []⟩).memory :=
  laidMet_laidAll args (by kernel_rfl) (by kernel_rfl)
end Go.Proofs.YtpjmmnhmhjpkkaaGreatDoor
namespace Go.Proofs.YtpjmmnhmhjpkkaaGreatDoor.S6
open Go.RowKit Go.Mem Go.Civil

theorem rLeap_any (y : Int) (w : World) : Calls Tryz.prog 67 #[.int .i64 y] w fun e w' => e = .returned (.bool (leapB y)) ∧ w = w' := by
  go_enter Tryz.func67, Tryz.ntmps67
  go_wp2_with fail
  all_goals
    go_ret
    refine leap_ret ?_
    simp_all [leapB, tmod_zero, tests]
    try (rw [Bool.eq_iff_iff]; simp; omega)
theorem rLong_any (y m : Int) (w : World) : Calls Tryz.prog 45 #[.int .i64 y, .int .i64 m] w fun e w' => e = .returned (.int .i64 (longI y m)) ∧ w = w' := by
  obtain ⟨x, hx⟩ : ∃ x, longI y m = x := ⟨_, rfl⟩
  rw [hx]
  have HL := Lib.hid (rLeap_any y)
  by_cases h2 : m = 2
  · subst h2
    by_cases hl : leapB y = true
    · have e : x = 29 := by rw [← hx]; unfold longI leapI; rw [if_pos rfl, if_pos hl]; rfl
      subst e
      rw [hl] at HL
      clear hx
      go_enter Tryz.func45, Tryz.ntmps45
      go_wp2_with fail
      refine (HL.out _).mono ?_
      rintro e w' ⟨rfl, rfl⟩
      go_wp2_with fail
      go_ret
      exact ⟨rfl, rfl⟩
    · simp only [Bool.not_eq_true] at hl
      have e : x = 28 := by rw [← hx]; unfold longI leapI; rw [if_pos rfl, hl]; rfl
      subst e
      rw [hl] at HL
      clear hx
      go_enter Tryz.func45, Tryz.ntmps45
      go_wp2_with fail
      refine (HL.out _).mono ?_
      rintro e w' ⟨rfl, rfl⟩
      go_wp2_with fail
      go_ret
      exact ⟨rfl, rfl⟩
  · have HX := Lib.hid hx
    clear HL hx
    go_enter Tryz.func45, Tryz.ntmps45
    go_wp2_with fail
    all_goals
      go_ret
      refine ret_int ?_
      have hx := HX.out
      unfold longI at hx
      simp only [beq_iff_eq, beq_eq_false_iff_ne, ne_eq] at *
      omega
theorem rRight_any (y m d : Int) (w : World) : Calls Tryz.prog 64 #[.int .i64 y, .int .i64 m, .int .i64 d] w fun e w' => e = .returned (.bool (rightB y m d)) ∧ w = w' := by
  have HL := Lib.hid (rLong_any y m w)
  have HB := Lib.hid (rightB_iff (y := y) (m := m) (d := d))
  generalize rightB y m d = b at HB ⊢
  generalize longI y m = L at HB HL
  go_enter Tryz.func64, Tryz.ntmps64
  go_wp2_with fail
  all_goals first
    | (refine HL.out.mono ?_
       rintro e w' ⟨rfl, rfl⟩
       go_wp2_with fail
       all_goals
         go_ret
         refine ret_bool ?_
         have hb := HB.out
         rw [Bool.eq_iff_iff, hb]
         simp
         omega)
    | (go_ret
       refine ret_bool ?_
       have hb := HB.out
       rw [Bool.eq_iff_iff, hb]
       simp
       try omega)
end Go.Proofs.YtpjmmnhmhjpkkaaGreatDoor.S6
namespace Go.Proofs.YtpjmmnhmhjpkkaaGreatDoor.S6
open Go.RowKit Go.Mem Go.Civil

theorem rYear_any (y : Int) (w : World) (hy : -9999 ≤ y ∧ y ≤ 10000) : Calls Tryz.prog 44 #[.int .i64 y] w fun e w' => e = .returned (.int .i64 (begD y)) ∧ w = w' := by
  go_enter Tryz.func44, Tryz.ntmps44
  go_wp2_with fail
  go_loop [3, 4] (fun v2 v3 => ∃ a : Int, 1970 ≤ a ∧ (a ≤ y ∨ a = 1970) ∧ v2 = .int .i64 (begD a) ∧ v3 = .int .i64 a) (fun _ v3 => (y - intOf v3).toNat)
  case atStart => exact ⟨1970, by omega, by omega, by rw [begD_0], rfl⟩
  case round =>
    obtain ⟨a, ha, ha2, rfl, rfl⟩ := hrel
    have hbr := begD_range (y := a) (by omega)
    by_cases hlt : a + 400 ≤ y
    · have HS := Lib.hid (begD_add a)
      generalize begD a = B at *
      go_wp2_with fail
      go_round
      case rel => exact ⟨a + 400, by omega, by omega, by rw [HS.out], rfl⟩
      case measure => simp [intOf]; omega
    · have hlo : y < a + 400 := by omega
      clear hlt ha
      have ha3 : a ≤ 10000 := by omega
      clear ha2 hbr
      go_wp2_with fail
      go_loop [3, 4] (fun v3 v4 => ∃ a : Int, y < a + 400 ∧ a ≤ 10000 ∧ v3 = .int .i64 (begD a) ∧ v4 = .int .i64 a) (fun _ v4 => (intOf v4 - y).toNat)
      case atStart => exact ⟨a, hlo, ha3, rfl, rfl⟩
      case round =>
        obtain ⟨b, hb, hb2, rfl, rfl⟩ := hrel
        clear hlo ha3
        have hbr := begD_wide (y := b) (by omega)
        by_cases hlt : y < b
        · have HS := Lib.hid (begD_sub b)
          generalize begD b = B at *
          go_wp2_with fail
          go_round
          case rel => exact ⟨b - 400, by omega, by omega, by rw [HS.out], rfl⟩
          case measure => simp [intOf]; omega
        · have hle : b ≤ y := by omega
          clear hlt hb2 hbr
          go_wp2_with fail
          go_loop [3, 4] (fun v3 v4 => ∃ a : Int, y < a + 400 ∧ a ≤ y ∧ v3 = .int .i64 (begD a) ∧ v4 = .int .i64 a) (fun _ v4 => (y - intOf v4).toNat)
          case atStart => exact ⟨b, hb, hle, rfl, rfl⟩
          case round =>
            obtain ⟨c, hc, hc2, rfl, rfl⟩ := hrel
            clear hb hle
            have hbr := begD_wide (y := c) (by omega)
            by_cases hlt : c < y
            · have hs := begD_succ c
              unfold leapI at hs
              have HS := Lib.hid hs
              clear hs
              have HL := Lib.hid (rLeap_any c w)
              generalize begD c = B at *
              generalize leapB c = L at *
              go_wp2_with fail
              refine HL.out.mono ?_
              rintro e w' ⟨rfl, rfl⟩
              cases L
              · go_wp2_with fail
                go_round
                case rel => exact ⟨c + 1, by omega, by omega, by rw [HS.out]; simp, rfl⟩
                case measure => simp [intOf]; omega
              · go_wp2_with fail
                go_round
                case rel => exact ⟨c + 1, by omega, by omega, by rw [HS.out]; simp, rfl⟩
                case measure => simp [intOf]; omega
            · obtain rfl : c = y := by omega
              go_wp2_with fail
              go_ret
              exact ⟨rfl, rfl⟩
end Go.Proofs.YtpjmmnhmhjpkkaaGreatDoor.S6
namespace Go.Proofs.YtpjmmnhmhjpkkaaGreatDoor.S6
open Go.RowKit Go.Mem Go.Civil

theorem Clock_any (t : Int) (w : World) (hn : inRange t) : Calls Tryz.prog 23 #[.int .i64 t] w fun e w' => e = .returned (.tuple #[.int .i64 (t / 86400), .int .i64 (t % 86400)]) ∧ w' = w.drew := by
  have HP := Lib.hid (part_any t 86400 w (by omega) hn)
  have hr : 0 ≤ t % 86400 ∧ t % 86400 < 86400 := by omega
  clear hn
  generalize t % 86400 = r at *
  generalize t / 86400 = q at *
  go_enter Tryz.func23, Tryz.ntmps23
  go_wp2_with fail
  refine HP.out.mono ?_
  rintro e w' ⟨rfl, rfl⟩
  go_wp2_with fail
  go_ret2
  exact ⟨rfl, rfl⟩
theorem year_of {n : Int} {y : Int} (hy : begD y ≤ n ∧ n < begD (y + 1)) :
    ∃ r, r = (if (n + 719528) % 146097 < toY ((n + 719528) % 146097 / 365) then (n + 719528) % 146097 / 365 - 1 else (n + 719528) % 146097 / 365) ∧
      0 ≤ r ∧ r < 400 ∧ 0 ≤ (n + 719528) % 146097 / 365 ∧ (n + 719528) % 146097 / 365 ≤ 400 ∧ y = (n + 719528) / 146097 * 400 + r ∧ n - begD y = (n + 719528) % 146097 - toY r ∧ 0 ≤ toY r ∧ toY r ≤ (n + 719528) % 146097 := by
  have hd : 0 ≤ (n + 719528) % 146097 ∧ (n + 719528) % 146097 < 146097 := by omega
  have hnn : n = (n + 719528) / 146097 * 146097 + (n + 719528) % 146097 - 719528 := by omega
  have h := era_year hd rfl
  refine ⟨_, rfl, h.1, h.2.1, by omega, h.2.2.2.2, ?_⟩
  generalize (if (n + 719528) % 146097 < toY ((n + 719528) % 146097 / 365) then (n + 719528) % 146097 / 365 - 1 else (n + 719528) % 146097 / 365) = r at *
  have h1 := begD_era ((n + 719528) / 146097) r ⟨h.1, h.2.1⟩
  have h2 := begD_era_next ((n + 719528) / 146097) r ⟨h.1, h.2.1⟩
  have hy2 : y = (n + 719528) / 146097 * 400 + r := begD_one hy.1 hy.2 (by omega) (by omega)
  have := toY_le (r := r) (by omega)
  refine ⟨hy2, ?_, this.1, h.2.2.1⟩
  rw [hy2, h1]
  omega
theorem yearOf_any (n y : Int) (w : World) (hn : -4371587 ≤ n ∧ n < 2932897) (hy : begD y ≤ n ∧ n < begD (y + 1)) :
    Calls Tryz.prog 40 #[.int .i64 n] w fun e w' => e = .returned (.tuple #[.int .i64 y, .int .i64 (n - begD y)]) ∧ w' = w.drew := by
  obtain ⟨r, hr, b0, b1, b2, b3, hy2, hy3, hy4, hy5⟩ := year_of hy
  have hd : 0 ≤ (n + 719528) % 146097 ∧ (n + 719528) % 146097 < 146097 := by omega
  have hq : -30 ≤ (n + 719528) / 146097 ∧ (n + 719528) / 146097 ≤ 30 := by omega
  have HP := Lib.hid (part_any (n + 719528) 146097 w (by omega) (by unfold inRange; omega))
  have HD := Lib.hid (fun w => daysTo_any ((n + 719528) % 146097 / 365) w (by omega) (by omega))
  have HE := Lib.hid (fun w => daysTo_any r w (by omega) (by omega))
  rw [hy3, hy2]
  have hto := toY_le (r := (n + 719528) % 146097 / 365) (by omega)
  clear hy hy2 hy3
  generalize (n + 719528) / 146097 = q at *
  generalize (n + 719528) % 146097 = d at *
  by_cases hlt : d < toY (d / 365)
  · rw [if_pos hlt] at hr
    subst hr
    go_enter Tryz.func40, Tryz.ntmps40
    go_wp2_with fail
    refine HP.out.mono ?_
    rintro e w' ⟨rfl, rfl⟩
    go_wp2_with fail
    refine (HD.out _).mono ?_
    rintro e w' ⟨rfl, rfl⟩
    go_wp2_with fail
    refine (HE.out _).mono ?_
    rintro e w' ⟨rfl, rfl⟩
    go_wp2_with fail
    go_ret2
    exact ⟨rfl, rfl⟩
  · rw [if_neg hlt] at hr
    subst hr
    go_enter Tryz.func40, Tryz.ntmps40
    go_wp2_with fail
    refine HP.out.mono ?_
    rintro e w' ⟨rfl, rfl⟩
    go_wp2_with fail
    refine (HD.out _).mono ?_
    rintro e w' ⟨rfl, rfl⟩
    go_wp2_with fail
    refine (HE.out _).mono ?_
    rintro e w' ⟨rfl, rfl⟩
    go_wp2_with fail
    go_ret2
    exact ⟨rfl, rfl⟩
end Go.Proofs.YtpjmmnhmhjpkkaaGreatDoor.S6
namespace Go.Proofs.YtpjmmnhmhjpkkaaGreatDoor.S6
open Go.RowKit Go.Mem Go.Civil

/-- what Date answers: the date that has the number, or Range -/
def DateR (n y m d k : Int) : Prop :=
  (-4371587 ≤ n ∧ n < 2932897 ∧ rightB y m d = true ∧ numD y m d = n ∧ k = 0) ∨ ((n < -4371587 ∨ 2932897 ≤ n) ∧ y = 0 ∧ m = 0 ∧ d = 0 ∧ k = 2)
theorem month_of {y r : Int} (h0 : 0 ≤ r) : ∀ K : Nat, r < sumM y K → ∃ k, k < K ∧ sumM y k ≤ r ∧ r < sumM y (k + 1) := by
  intro K
  induction K with
  | zero => intro h; simp [sumM] at h; omega
  | succ K ih =>
    intro h
    by_cases h' : r < sumM y K
    · obtain ⟨k, hk, h1, h2⟩ := ih h'
      exact ⟨k, by omega, h1, h2⟩
    · exact ⟨K, by omega, by omega, h⟩
theorem date_of (n : Int) : ∃ y m d k, DateR n y m d k := by
  by_cases hn : -4371587 ≤ n ∧ n < 2932897
  · obtain ⟨q, hq⟩ : ∃ q, (n + 719528) / 146097 = q := ⟨_, rfl⟩
    obtain ⟨a, ha⟩ : ∃ a, (n + 719528) % 146097 = a := ⟨_, rfl⟩
    have hd : 0 ≤ a ∧ a < 146097 := by omega
    obtain ⟨r, hr⟩ : ∃ r, r = if a < toY (a / 365) then a / 365 - 1 else a / 365 := ⟨_, rfl⟩
    have hy := era_year hd hr
    have e1 := begD_era q r ⟨hy.1, hy.2.1⟩
    have e2 := begD_era_next q r ⟨hy.1, hy.2.1⟩
    generalize q * 400 + r = y at *
    have b1 : begD y ≤ n := by omega
    have b2 : n < begD (y + 1) := by omega
    clear e1 e2 hy hr hd ha hq
    have r1 : -9999 ≤ y := by
      by_cases h : y < -9999
      · have := begD_mono h
        rw [begD_first] at this
        omega
      · omega
    have r2 : y ≤ 9999 := by
      by_cases h : 9999 < y
      · have := begD_mono h
        rw [show (9999 : Int) + 1 = 10000 from rfl, begD_end] at this
        omega
      · omega
    rw [← sumM_13] at b2
    obtain ⟨k, hk, h1, h2⟩ := month_of (y := y) (r := n - begD y) (by omega) 12 (by omega)
    rw [sumM_step] at h2
    refine ⟨y, k + 1, n - begD y - sumM y k + 1, 0, Or.inl ⟨hn.1, hn.2, ?_, ?_, rfl⟩⟩
    · rw [rightB_iff]
      omega
    · unfold numD
      rw [show ((k : Int) + 1 - 1).toNat = k by omega]
      omega
  · exact ⟨0, 0, 0, 2, Or.inr ⟨by omega, rfl, rfl, rfl, rfl⟩⟩
theorem DateR.one {n y m d k y' m' d' k' : Int} (h : DateR n y m d k) (h' : DateR n y' m' d' k') : y = y' ∧ m = m' ∧ d = d' ∧ k = k' := by
  rcases h with ⟨a, b, c, e, f⟩ | ⟨a, b, c, e, f⟩ <;> rcases h' with ⟨a', b', c', e', f'⟩ | ⟨a', b', c', e', f'⟩
  · have := numD_one c c' (by omega)
    omega
  · omega
  · omega
  · omega

theorem results_tmp4 {fn : Func} {t u v x : Tmp} (h : fn.results = #[.tmp t, .tmp u, .tmp v, .tmp x]) (tmps : Array Value) (P : Program) (w : World) :
    (results fn tmps).run P w = .ok (.tuple #[tmps.getD t undef, tmps.getD u undef, tmps.getD v undef, tmps.getD x undef]) w := by
  simp [results, h]
theorem Date_any (n y m d k : Int) (w : World) (hn : inRange n) (hg : LOk w) (h : DateR n y m d k) :
    Calls Tryz.prog 24 #[.int .i64 n] w fun e w' => e = .returned (.tuple #[.int .i64 y, .int .i64 m, .int .i64 d, .int .i64 k]) ∧ Fr w w' (fun _ => False) := by
  have HB1 := Lib.hid (begin_any (-9999) w (by omega))
  have HB2 := Lib.hid (begin_any 10000 w.drew (by omega))
  rw [begD_first] at HB1
  rw [begD_end] at HB2
  unfold inRange at hn
  rcases h with ⟨h1, h2, h3, h4, rfl⟩ | ⟨h1, rfl, rfl, rfl, rfl⟩
  · obtain ⟨b1, b2, b3, b4⟩ := numD_in h3
    have hnum : numD y m d = begD y + sumM y (m - 1).toNat + (d - 1) := rfl
    have hb := rightB_iff.1 h3
    rw [h4] at b1 b2 b3 b4
    have HY := Lib.hid (yearOf_any n y w.drew.drew ⟨h1, h2⟩ ⟨b1, b2⟩)
    have hle := longI_le y m
    obtain ⟨j, rfl⟩ : ∃ j : Nat, m = (j : Int) + 1 := ⟨(m - 1).toNat, by omega⟩
    rw [show ((j : Int) + 1 - 1).toNat = j by omega] at b3 b4 hnum
    obtain ⟨r, hr⟩ : ∃ r, n - begD y = r := ⟨_, rfl⟩
    rw [hr] at b3 b4 HY
    have hr0 : 0 ≤ r ∧ r ≤ 366 := by have := begD_succ y; have := leapI_le y; omega
    have hdv : d = r - sumM y j + 1 := by omega
    have HL := Lib.hid (fun i => Long_any y i w.drew.drew.drew (hg.fr (((Fr.drew _ _).trans (Fr.drew _ (fun _ => False)) (fun _ _ h => h) (fun _ _ h => h)).trans (Fr.drew _ _) (fun _ _ h => h) (fun _ _ h => h))))
    have HN : Hid (∀ k : Nat, k ≤ 12 → 0 ≤ sumM y k ∧ sumM y k ≤ 366) := Lib.hid (sumM_le y)
    have hj : j ≤ 11 := by omega
    have B3 := Lib.hid b3
    have B4 := Lib.hid b4
    have hy' : -9999 ≤ y ∧ y ≤ 9999 := by omega
    subst hdv
    clear hb hnum hle hg h3 h4 hr b1 b2 b3 b4
    go_enter Tryz.func24, Tryz.ntmps24
    go_wp2_with fail
    refine HB1.out.mono ?_
    rintro e w' ⟨rfl, rfl⟩
    go_wp2_with fail
    refine HB2.out.mono ?_
    rintro e w' ⟨rfl, rfl⟩
    go_wp2_with fail
    refine HY.out.mono ?_
    rintro e w' ⟨rfl, rfl⟩
    go_wp2_with fail
    go_loop [3, 6] (fun v3 v6 => ∃ k : Nat, k ≤ j ∧ v3 = .int .i64 ((k : Int) + 1) ∧ v6 = .int .i64 (r - sumM y k)) (fun v3 _ => j + 1 - (intOf v3).toNat)
    case atStart => exact ⟨0, Nat.zero_le _, rfl, by simp [sumM]⟩
    case round =>
      obtain ⟨k, hk, rfl, rfl⟩ := hrel
      have hs := HN.out k (by omega)
      have hle := longI_le y ((k : Int) + 1)
      have HC := Lib.hid (HL.out ((k : Int) + 1))
      by_cases hlt : k < j
      · have hmo := sumM_mono (y := y) (show k + 1 ≤ j by omega)
        have hst := sumM_step y k
        have hb3 := B3.out
        have hge : longI y ((k : Int) + 1) ≤ r - sumM y k := by omega
        have HS := Lib.hid hst
        clear hst hmo hb3
        have h1 : (k : Int) < (j : Int) := by omega
        go_wp2_with fail
        refine HC.out.mono ?_
        rintro e w' ⟨rfl, rfl⟩
        go_wp2_with fail
        refine HC.out.mono ?_
        rintro e w' ⟨rfl, rfl⟩
        go_wp2_with fail
        go_round
        case rel => exact ⟨k + 1, by omega, by go_num, by rw [HS.out]; congr 1; omega⟩
        case measure => simp [intOf]; omega
      · obtain rfl : k = j := by omega
        have hb4 := B4.out
        rw [sumM_step] at hb4
        have hge : r - sumM y k < longI y ((k : Int) + 1) := by omega
        have hb3 := B3.out
        clear hb4
        go_wp2_with fail
        refine HC.out.mono ?_
        rintro e w' ⟨rfl, rfl⟩
        go_wp2_with fail
        (try simp only [Exit.inBlock, Exit.then])
        refine bodyPost_ret (results_tmp4 rfl _ _ _) rfl ?_
        exact ⟨rfl, (((Fr.drew _ _).trans (Fr.drew _ (fun _ => False)) (fun _ _ h => h) (fun _ _ h => h)).trans (Fr.drew _ _) (fun _ _ h => h) (fun _ _ h => h))⟩
  · by_cases ha : n < -4371587
    · clear HB2 hg
      go_enter Tryz.func24, Tryz.ntmps24
      go_wp2_with fail
      refine HB1.out.mono ?_
      rintro e w' ⟨rfl, rfl⟩
      go_wp2_with fail
      (try simp only [Exit.inBlock, Exit.then])
      refine bodyPost_ret (results_tmp4 rfl _ _ _) rfl ?_
      exact ⟨rfl, Fr.drew _ _⟩
    · have hb : 2932897 ≤ n := by omega
      clear hg h1
      go_enter Tryz.func24, Tryz.ntmps24
      go_wp2_with fail
      refine HB1.out.mono ?_
      rintro e w' ⟨rfl, rfl⟩
      go_wp2_with fail
      refine HB2.out.mono ?_
      rintro e w' ⟨rfl, rfl⟩
      go_wp2_with fail
      (try simp only [Exit.inBlock, Exit.then])
      refine bodyPost_ret (results_tmp4 rfl _ _ _) rfl ?_
      exact ⟨rfl, (Fr.drew _ _).trans (Fr.drew _ (fun _ => False)) (fun _ _ h => h) (fun _ _ h => h)⟩
end Go.Proofs.YtpjmmnhmhjpkkaaGreatDoor.S6
namespace Go.Proofs.YtpjmmnhmhjpkkaaGreatDoor.S6
open Go.RowKit Go.Mem Go.Civil

theorem tmod_gt {n c : Int} (h : n < 0) (hc : 0 < c) : -c < n.tmod c := by
  have e1 : n.tmod c = -((-n) % c) := by
    have := Int.neg_tmod (-n) c
    rw [Int.neg_neg, Int.tmod_eq_emod_of_nonneg (a := -n) (by omega)] at this
    exact this
  have b2 := Int.emod_lt_of_pos (-n) hc
  omega
theorem rWeek_any (n : Int) (w : World) (hn : inRange n) : Calls Tryz.prog 66 #[.int .i64 n] w fun e w' => e = .returned (.int .i64 ((n + 4) % 7)) ∧ w = w' := by
  unfold inRange at hn
  by_cases h : n < 0
  · have hp := neg_parts h (show (0 : Int) < 7 by omega)
    have hg := tmod_gt h (show (0 : Int) < 7 by omega)
    have b : -7 < n.tmod 7 ∧ n.tmod 7 ≤ 0 := by omega
    have HE := Lib.hid (show (n.tmod 7 + 11) % 7 = (n + 4) % 7 by omega)
    have b2 : 0 ≤ n.tmod 7 + 11 := by omega
    clear hp hg
    go_enter Tryz.func66, Tryz.ntmps66
    go_wp2_with fail
    go_ret
    exact ret_int HE.out
  · have HE := Lib.hid (show (n + 11) % 7 = (n + 4) % 7 by omega)
    go_enter Tryz.func66, Tryz.ntmps66
    go_wp2_with fail
    go_ret
    exact ret_int HE.out
theorem rDays_any (y m d : Int) (w : World) :
    Calls Tryz.prog 65 #[.int .i64 y, .int .i64 m, .int .i64 d] w fun e w' => e = .returned (.tuple #[.int .i64 (daysK y m d), .int .i64 (daysE y m d)]) ∧ w = w' := by
  have HR := Lib.hid (rRight_any y m d w)
  unfold daysK daysE
  by_cases h : rightB y m d = true
  · rw [h] at HR
    rw [if_pos h, if_pos h]
    have hb := rightB_iff.1 h
    have hnum : numD y m d = begD y + sumM y (m - 1).toNat + (d - 1) := rfl
    have HB := Lib.hid (rYear_any y w (by omega))
    have hbr := begD_range (y := y) (by omega)
    have hle := longI_le y m
    obtain ⟨j, rfl⟩ : ∃ j : Nat, m = (j : Int) + 1 := ⟨(m - 1).toNat, by omega⟩
    rw [show ((j : Int) + 1 - 1).toNat = j by omega] at hnum
    have hb1 : 1 ≤ d ∧ d ≤ 31 ∧ (j : Int) ≤ 11 := by omega
    rw [hnum]
    have HL := Lib.hid (fun i => rLong_any y i w)
    have HN : Hid (∀ k : Nat, k ≤ 12 → 0 ≤ sumM y k ∧ sumM y k ≤ 366) := Lib.hid (sumM_le y)
    generalize begD y = B at *
    clear h hb hnum hle
    go_enter Tryz.func65, Tryz.ntmps65
    go_wp2_with fail
    refine HR.out.mono ?_
    rintro e w' ⟨rfl, rfl⟩
    go_wp2_with fail
    refine HB.out.mono ?_
    rintro e w' ⟨rfl, rfl⟩
    go_wp2_with fail
    go_loop [8, 9] (fun v8 v9 => ∃ k : Nat, k ≤ j ∧ v8 = .int .i64 (B + sumM y k) ∧ v9 = .int .i64 ((k : Int) + 1)) (fun _ v9 => j + 1 - (intOf v9).toNat)
    case atStart => exact ⟨0, Nat.zero_le _, by simp [sumM], rfl⟩
    case round =>
      obtain ⟨k, hk, rfl, rfl⟩ := hrel
      by_cases hlt : k < j
      · have hs := HN.out k (by omega)
        have hs2 := HN.out (k + 1) (by omega)
        have hst := sumM_step y k
        have HS := Lib.hid hst
        have HC := Lib.hid (HL.out ((k : Int) + 1))
        have h1 : (k : Int) < (j : Int) := by omega
        have h2 : (k : Int) + 1 < (j : Int) + 1 := by omega
        have hle := longI_le y ((k : Int) + 1)
        generalize longI y ((k : Int) + 1) = L at *
        generalize sumM y k = S at *
        clear hst
        go_wp2_with fail
        refine HC.out.mono ?_
        rintro e w' ⟨rfl, rfl⟩
        go_wp2_with fail
        go_round
        case rel => exact ⟨k + 1, by omega, by rw [HS.out]; congr 1; omega, by go_num⟩
        case measure => simp [intOf]; omega
      · obtain rfl : k = j := by omega
        have hs := HN.out k (by omega)
        go_wp2_with fail
        go_ret2
        exact ret_two (P := fun w' => w = w') (by omega) rfl rfl
  · rw [if_neg h, if_neg h]
    simp only [Bool.not_eq_true] at h
    rw [h] at HR
    clear h
    go_enter Tryz.func65, Tryz.ntmps65
    go_wp2_with fail
    refine HR.out.mono ?_
    rintro e w' ⟨rfl, rfl⟩
    go_wp2_with fail
    go_ret2
    exact ⟨rfl, rfl⟩
end Go.Proofs.YtpjmmnhmhjpkkaaGreatDoor.S6
namespace Go.Proofs.YtpjmmnhmhjpkkaaGreatDoor.S6
open Go.RowKit Go.Mem Go.Civil

theorem rClock_any (t : Int) (w : World) (hn : inRange t) : Calls Tryz.prog 30 #[.int .i64 t] w fun e w' => e = .returned (.tuple #[.int .i64 (t / 86400), .int .i64 (t % 86400)]) ∧ w = w' := by
  by_cases h : t < 0
  · have hp := neg_parts h (show (0 : Int) < 86400 by omega)
    have hh := neg_half h hn (c := 86400) (by omega)
    unfold inRange at hn
    rcases hp with ⟨h1, h2, h3⟩ | ⟨h1, h2, h3⟩
    · rw [h2]
      go_enter Tryz.func30, Tryz.ntmps30
      go_wp2_with fail
      all_goals
        go_ret2
        exact ⟨rfl, rfl⟩
    · have b : -86400 < t.tmod 86400 := tmod_gt h (by omega)
      rw [h2, h3]
      go_enter Tryz.func30, Tryz.ntmps30
      go_wp2_with fail
      all_goals
        go_ret2
        exact ⟨rfl, rfl⟩
  · unfold inRange at hn
    go_enter Tryz.func30, Tryz.ntmps30
    go_wp2_with fail
    all_goals
      go_ret2
      exact ⟨rfl, rfl⟩
theorem rDate_any (n y m d k : Int) (w : World) (hn : inRange n) (h : DateR n y m d k) :
    Calls Tryz.prog 31 #[.int .i64 n] w fun e w' => e = .returned (.tuple #[.int .i64 y, .int .i64 m, .int .i64 d, .int .i64 k]) ∧ w = w' := by
  have HB1 := Lib.hid (rYear_any (-9999) w (by omega))
  have HB2 := Lib.hid (rYear_any 10000 w (by omega))
  rw [begD_first] at HB1
  rw [begD_end] at HB2
  unfold inRange at hn
  rcases h with ⟨h1, h2, h3, h4, rfl⟩ | ⟨h1, rfl, rfl, rfl, rfl⟩
  · obtain ⟨b1, b2, b3, b4⟩ := numD_in h3
    have hnum : numD y m d = begD y + sumM y (m - 1).toNat + (d - 1) := rfl
    have hb := rightB_iff.1 h3
    rw [h4] at b1 b2 b3 b4
    have hle := longI_le y m
    obtain ⟨j, rfl⟩ : ∃ j : Nat, m = (j : Int) + 1 := ⟨(m - 1).toNat, by omega⟩
    rw [show ((j : Int) + 1 - 1).toNat = j by omega] at b3 b4 hnum
    obtain ⟨r, hr⟩ : ∃ r, n - begD y = r := ⟨_, rfl⟩
    rw [hr] at b3 b4
    have hr0 : 0 ≤ r ∧ r ≤ 366 := by have := begD_succ y; have := leapI_le y; omega
    have hdv : d = r - sumM y j + 1 := by omega
    have HL := Lib.hid (fun i => rLong_any y i w)
    have HN : Hid (∀ k : Nat, k ≤ 12 → 0 ≤ sumM y k ∧ sumM y k ≤ 366) := Lib.hid (sumM_le y)
    have hj : j ≤ 11 := by omega
    have B3 := Lib.hid b3
    have B4 := Lib.hid b4
    have hy' : -9999 ≤ y ∧ y ≤ 9999 := by omega
    have hz0 : -9999 + (n + 4371587) / 366 ≤ y := by
      by_cases h : -9999 + (n + 4371587) / 366 ≤ y
      · exact h
      · have e1 := begD_mono (show y < -9999 + (n + 4371587) / 366 by omega)
        have e2 := (begD_far (y := -9999) (z := -9999 + (n + 4371587) / 366) (by omega)).2
        rw [begD_first] at e2
        omega
    have hz1 : 0 ≤ (n + 4371587) / 366 ∧ (n + 4371587) / 366 ≤ 30000 := by omega
    have HYl : Hid (∀ z, z < y → begD (z + 1) ≤ n) := Lib.hid (fun z hz => by have := begD_mono hz; omega)
    have BY := Lib.hid b2
    have HYr := Lib.hid (fun z (hz : -9999 ≤ z ∧ z ≤ 10000) => rYear_any z w hz)
    have HR := Lib.hid hr
    have h0 : 0 ≤ n + 4371587 := by omega
    subst hdv
    clear hb hnum hle h3 h4 hr b1 b2 b3 b4
    go_enter Tryz.func31, Tryz.ntmps31
    go_wp2_with fail
    refine HB1.out.mono ?_
    rintro e w' ⟨rfl, rfl⟩
    go_wp2_with fail
    refine HB2.out.mono ?_
    rintro e w' ⟨rfl, rfl⟩
    go_wp2_with fail
    refine HB1.out.mono ?_
    rintro e w' ⟨rfl, rfl⟩
    go_wp2_with fail
    go_loop [6] (fun v6 => ∃ z : Int, -9999 ≤ z ∧ z ≤ y ∧ v6 = .int .i64 z) (fun v6 => (y - intOf v6).toNat)
    case atStart => exact ⟨_, by omega, hz0, rfl⟩
    case round =>
      obtain ⟨z, hz2, hz3, rfl⟩ := hrel
      clear hz0 hz1
      by_cases hlt : z < y
      · have hle := HYl.out z hlt
        have HC := Lib.hid (HYr.out (z + 1) (by omega))
        go_wp2_with fail
        refine HC.out.mono ?_
        rintro e w' ⟨rfl, rfl⟩
        go_wp2_with fail
        go_round
        case rel => exact ⟨z + 1, by omega, by omega, rfl⟩
        case measure => simp [intOf]; omega
      · obtain rfl : z = y := by omega
        have hby := BY.out
        have hr := HR.out
        have HC := Lib.hid (HYr.out (z + 1) (by omega))
        have HC2 := Lib.hid (HYr.out z (by omega))
        clear hlt HYl HYr
        go_wp2_with fail
        refine HC.out.mono ?_
        rintro e w' ⟨rfl, rfl⟩
        go_wp2_with fail
        refine HC2.out.mono ?_
        rintro e w' ⟨rfl, rfl⟩
        go_wp2_with fail
        go_loop [0, 7] (fun v0 v7 => ∃ k : Nat, k ≤ j ∧ v7 = .int .i64 ((k : Int) + 1) ∧ v0 = .int .i64 (r - sumM z k)) (fun _ v7 => j + 1 - (intOf v7).toNat)
        case atStart => exact ⟨0, Nat.zero_le _, rfl, by rw [← hr]; simp [sumM]⟩
        case round =>
          obtain ⟨k, hk, rfl, rfl⟩ := hrel
          have hs := HN.out k (by omega)
          have hle := longI_le z ((k : Int) + 1)
          have HC := Lib.hid (HL.out ((k : Int) + 1))
          clear hby hr
          by_cases hlt : k < j
          · have hmo := sumM_mono (y := z) (show k + 1 ≤ j by omega)
            have hst := sumM_step z k
            have hb3 := B3.out
            have hge : longI z ((k : Int) + 1) ≤ r - sumM z k := by omega
            have HS := Lib.hid hst
            clear hst hmo hb3
            have h1 : (k : Int) < (j : Int) := by omega
            go_wp2_with fail
            refine HC.out.mono ?_
            rintro e w' ⟨rfl, rfl⟩
            go_wp2_with fail
            refine HC.out.mono ?_
            rintro e w' ⟨rfl, rfl⟩
            go_wp2_with fail
            go_round
            case rel => exact ⟨k + 1, by omega, by go_num, by rw [HS.out]; congr 1; omega⟩
            case measure => simp [intOf]; omega
          · obtain rfl : k = j := by omega
            have hb4 := B4.out
            rw [sumM_step] at hb4
            have hge : r - sumM z k < longI z ((k : Int) + 1) := by omega
            have hb3 := B3.out
            clear hb4
            go_wp2_with fail
            refine HC.out.mono ?_
            rintro e w' ⟨rfl, rfl⟩
            go_wp2_with fail
            (try simp only [Exit.inBlock, Exit.then])
            refine bodyPost_ret (results_tmp4 rfl _ _ _) rfl ?_
            exact ⟨rfl, rfl⟩
  · by_cases ha : n < -4371587
    · clear HB2
      go_enter Tryz.func31, Tryz.ntmps31
      go_wp2_with fail
      refine HB1.out.mono ?_
      rintro e w' ⟨rfl, rfl⟩
      go_wp2_with fail
      (try simp only [Exit.inBlock, Exit.then])
      refine bodyPost_ret (results_tmp4 rfl _ _ _) rfl ?_
      exact ⟨rfl, rfl⟩
    · have hb : 2932897 ≤ n := by omega
      clear h1
      go_enter Tryz.func31, Tryz.ntmps31
      go_wp2_with fail
      refine HB1.out.mono ?_
      rintro e w' ⟨rfl, rfl⟩
      go_wp2_with fail
      refine HB2.out.mono ?_
      rintro e w' ⟨rfl, rfl⟩
      go_wp2_with fail
      (try simp only [Exit.inBlock, Exit.then])
      refine bodyPost_ret (results_tmp4 rfl _ _ _) rfl ?_
      exact ⟨rfl, rfl⟩
end Go.Proofs.YtpjmmnhmhjpkkaaGreatDoor.S6
namespace Go.Proofs.YtpjmmnhmhjpkkaaGreatDoor.S6
open Go.RowKit Go.Mem Go.Dfm

theorem rright_any (k d q : Int) (w : World) : Calls Tryz.prog 63 #[dayV k d q] w fun e w' => e = .returned (.bool (rightB k d q)) ∧ Fr w w' (fun _ => False) := by
  obtain ⟨b, hb⟩ : ∃ b, rightB k d q = b := ⟨_, rfl⟩
  have HB := Lib.hid (show b = true ↔ rightP k d q by rw [← hb]; exact rightB_iff)
  rw [hb]
  clear hb
  go_enter Tryz.func63, Tryz.ntmps63
  go_wp2_with fail
  all_goals
    go_ret
    refine ret_bf ?_ (Fr.new _ _ _)
    have hb := HB.out
    rw [Bool.eq_iff_iff, hb]
    simp [rightP]
    try (simp only [beq_iff_eq, beq_eq_false_iff_ne, ne_eq] at *; omega)
end Go.Proofs.YtpjmmnhmhjpkkaaGreatDoor.S6
namespace Go.Proofs.YtpjmmnhmhjpkkaaGreatDoor.S6
open Go.RowKit Go.Mem Go.Dfm

theorem between_any (a b : Int) (w : World) (ha : 0 ≤ a ∧ a < 7) (hb : 0 ≤ b ∧ b < 7) : Calls Tryz.prog 76 #[.int .i64 a, .int .i64 b] w fun e w' => e = .returned (.int .i64 ((b - a + 7) % 7)) ∧ w = w' := by
  obtain ⟨ha0, ha1⟩ := ha
  obtain ⟨hb0, hb1⟩ := hb
  have h1 : 0 ≤ b - a + 7 := by omega
  go_enter Tryz.func76, Tryz.ntmps76
  go_wp2_with fail
  go_ret
  exact ⟨rfl, rfl⟩
theorem begin_day (k d q y m : Int) (w : World) (hw : WOk w) : Calls Tryz.prog 75 #[dayV k d q, .int .i64 y, .int .i64 m] w fun e w' => e = .returned (.int .i64 (if k = 1 then Go.Civil.longI y m else d)) ∧ Fr w w' (fun _ => False) := by
  have HL := Lib.hid (fun (W : World) (f : Fr w W (fun _ => False)) => Long_any y m W (hw.fr f).lok)
  clear hw
  by_cases h : k = 1
  · rw [if_pos h]
    subst h
    go_enter Tryz.func75, Tryz.ntmps75
    go_wp2_with fail
    refine (HL.out _ (Fr.new _ _ _)).mono ?_
    rintro e w2 ⟨rfl, rfl⟩
    go_wp2_with fail
    go_ret
    exact ⟨rfl, Fr.new _ _ _⟩
  · rw [if_neg h]
    have h1 : (k == 1) = false := beq_eq_false_iff_ne.2 h
    clear h HL
    go_enter Tryz.func75, Tryz.ntmps75
    go_wp2_with fail
    go_ret
    exact ⟨rfl, Fr.new _ _ _⟩
end Go.Proofs.YtpjmmnhmhjpkkaaGreatDoor.S6
