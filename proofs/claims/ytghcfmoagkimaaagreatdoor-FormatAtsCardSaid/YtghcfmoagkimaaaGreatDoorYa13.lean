import Derived.Test.YtghcfmoagkimaaaGreatDoorProg
import Derived.Test.YtghcfmoagkimaaaGreatDoorYa11
import Derived.Test.YtghcfmoagkimaaaGreatDoorYa01
import Derived.Lib.Hide
import Derived.IntWalk
import Derived.LoopTactic
import Derived.Deep.LoopGhost
import Derived.Test.YtghcfmoagkimaaaGreatDoorYa03
import Derived.BigQuiet
import Derived.Deep.QuietTactic
import Derived.WalkLawsBesides
import Derived.Tactics2
import Derived.Test.YtghcfmoagkimaaaGreatDoorYa07
import Derived.Laws.StructEq
import Derived.Deep.MidRow
import Derived.Great.BuildSlice
import Derived.Test.YtghcfmoagkimaaaGreatDoorYa09
import Derived.Laws.OwnMore
import Derived.ChangeArms
import Derived.WideShapes
import Derived.Lib.SmallJoins
import Derived.Deep.Slices
namespace Go.Proofs.YtghcfmoagkimaaaGreatDoor.S6
open Go.RowKit Go.Mem Go.Civil

def lenTab : List Int := [31, 28, 31, 30, 31, 30, 31, 31, 30, 31, 30, 31]
/-- the months' lengths stand where the program's text lays them -/
def LOk (w : World) : Prop := ∀ i, i < 12 → w.cell? ⟨0, i, none⟩ = some (.int .i64 (lenTab.getD i 0))
theorem LOk.fr {w w' : World} (h : LOk w) (f : Fr w w' (fun _ => False)) : LOk w' := by
  intro i hi
  have h0 := h i hi
  have hlt : 0 < w.heap.size := by
    rcases Nat.lt_or_ge 0 w.heap.size with h' | h'
    · exact h'
    · simp [World.cell?, Array.getElem?_eq_none h'] at h0
  rw [← h0]
  unfold World.cell?
  rw [f.block _ hlt (fun h => h)]
theorem lenTab_long {y : Int} {k : Nat} (h : 1 ≤ k ∧ k ≤ 12) : lenTab.getD (k - 1) 0 = longI y k - (if k = 2 then leapI y else 0) := by
  have : k = 1 ∨ k = 2 ∨ k = 3 ∨ k = 4 ∨ k = 5 ∨ k = 6 ∨ k = 7 ∨ k = 8 ∨ k = 9 ∨ k = 10 ∨ k = 11 ∨ k = 12 := by omega
  rcases this with rfl | rfl | rfl | rfl | rfl | rfl | rfl | rfl | rfl | rfl | rfl | rfl <;> simp [lenTab, longI] <;> omega
def inRange (n : Int) : Prop := -9223372036854775808 ≤ n ∧ n ≤ 9223372036854775807
theorem tmod_zero {y c : Int} : y.tmod c = 0 ↔ y % c = 0 := by
  rw [← Int.dvd_iff_tmod_eq_zero, Int.dvd_iff_emod_eq_zero]
theorem tests (y c : Int) : (y.tmod c == 0) = (y % c == 0) := by
  rw [Bool.eq_iff_iff]; simp [tmod_zero]

theorem leap_ret {y : Int} {b : Bool} {w : World} (h : b = leapB y) : Ending.returned (.bool b) = .returned (.bool (leapB y)) ∧ w = w := ⟨by rw [h], rfl⟩
theorem Leap_any (y : Int) (w : World) : Calls Tryz.prog 87 #[.int .i64 y] w fun e w' => e = .returned (.bool (leapB y)) ∧ w = w' := by
  go_enter Tryz.func87, Tryz.ntmps87
  go_wp2_with fail
  all_goals
    go_ret
    refine leap_ret ?_
    simp_all [leapB, tmod_zero, tests]
theorem Long_any (y m : Int) (w : World) (hg : LOk w) : Calls Tryz.prog 59 #[.int .i64 y, .int .i64 m] w fun e w' => e = .returned (.int .i64 (longI y m)) ∧ w = w' := by
  by_cases h : 1 ≤ m ∧ m ≤ 12
  · obtain ⟨k, rfl⟩ : ∃ k : Nat, m = (k : Int) := ⟨m.toNat, by omega⟩
    obtain ⟨j, rfl⟩ : ∃ j : Nat, k = j + 1 := ⟨k - 1, by omega⟩
    have hc := hg j (by omega)
    have ht := lenTab_long (y := y) (k := j + 1) (by omega)
    rw [show j + 1 - 1 = j from rfl] at ht
    rw [ht] at hc
    have hle := longI_le y ((j + 1 : Nat) : Int)
    clear hg ht
    push_cast at *
    obtain ⟨x, hx⟩ : ∃ x, longI y ((j : Int) + 1) = x := ⟨_, rfl⟩
    rw [hx] at hc hle ⊢
    by_cases h2 : j + 1 = 2
    · obtain rfl : j = 1 := by omega
      have HL := Lib.hid (Leap_any y)
      by_cases hl : leapB y = true
      · have e : leapI y = 1 := by unfold leapI; rw [if_pos hl]
        rw [hl] at HL
        rw [if_pos rfl, e] at hc
        clear hx
        go_enter Tryz.func59, Tryz.ntmps59
        go_wp2_with fail
        refine (HL.out _).mono ?_
        rintro e w' ⟨rfl, rfl⟩
        go_wp2_with fail
        go_ret
        exact ⟨by congr <;> omega, rfl⟩
      · simp only [Bool.not_eq_true] at hl
        have e : leapI y = 0 := by unfold leapI; rw [hl]; rfl
        rw [hl] at HL
        rw [if_pos rfl, e] at hc
        clear hx
        go_enter Tryz.func59, Tryz.ntmps59
        go_wp2_with fail
        refine (HL.out _).mono ?_
        rintro e w' ⟨rfl, rfl⟩
        go_wp2_with fail
        go_ret
        exact ⟨by congr <;> omega, rfl⟩
    · rw [if_neg (by omega)] at hc
      have n2 : (((j : Int) + 1) == 2) = false := by simp; omega
      clear hx
      go_enter Tryz.func59, Tryz.ntmps59
      go_wp2_with fail
      go_ret
      exact ⟨by congr <;> omega, rfl⟩
  · have e : longI y m = 0 := by
      unfold longI
      rw [if_neg (by omega), if_neg (by omega), if_neg h]
    rw [e]
    clear hg e
    by_cases h1 : m < 1
    · go_enter Tryz.func59, Tryz.ntmps59
      go_wp2_with fail
      go_ret
      exact ⟨rfl, rfl⟩
    · have h2 : m > 12 := by omega
      clear h
      go_enter Tryz.func59, Tryz.ntmps59
      go_wp2_with fail
      go_ret
      exact ⟨rfl, rfl⟩
end Go.Proofs.YtghcfmoagkimaaaGreatDoor.S6
namespace Go.Proofs.YtghcfmoagkimaaaGreatDoor.S6
open Go.RowKit Go.Mem Go.Civil

theorem ret_int {a b : Int} {w : World} (h : a = b) : Ending.returned (.int .i64 a) = .returned (.int .i64 b) ∧ w = w := ⟨by rw [h], rfl⟩
theorem ret_bool {a b : Bool} {w : World} (h : a = b) : Ending.returned (.bool a) = .returned (.bool b) ∧ w = w := ⟨by rw [h], rfl⟩
theorem longI_out {y m : Int} (h : ¬ (1 ≤ m ∧ m ≤ 12)) : longI y m = 0 := by
  unfold longI
  rw [if_neg (by omega), if_neg (by omega), if_neg h]
theorem Right_any (y m d : Int) (w : World) (hg : LOk w) : Calls Tryz.prog 132 #[.int .i64 y, .int .i64 m, .int .i64 d] w fun e w' => e = .returned (.bool (rightB y m d)) ∧ w = w' := by
  have HL := Lib.hid (Long_any y m w hg)
  have HB := Lib.hid (rightB_iff (y := y) (m := m) (d := d))
  have HM := Lib.hid (longI_out (y := y) (m := m))
  generalize rightB y m d = b at HB ⊢
  generalize longI y m = L at HB HL HM
  clear hg
  go_enter Tryz.func132, Tryz.ntmps132
  go_wp2_with fail
  all_goals first
    | (refine HL.out.mono ?_
       rintro e w' ⟨rfl, rfl⟩
       go_wp2_with fail
       all_goals
         go_ret
         refine ret_bool ?_
         have hb := HB.out
         have hm := HM.out
         rw [Bool.eq_iff_iff, hb]
         simp
         omega)
    | (go_ret
       refine ret_bool ?_
       have hb := HB.out
       have hm := HM.out
       rw [Bool.eq_iff_iff, hb]
       simp
       try omega)
end Go.Proofs.YtghcfmoagkimaaaGreatDoor.S6
namespace Go.Proofs.YtghcfmoagkimaaaGreatDoor.S6
open Go.RowKit Go.Mem Go.Civil

theorem neg_parts {n c : Int} (h : n < 0) (hc : 0 < c) : (n.tmod c = 0 ∧ n % c = 0 ∧ n.tdiv c = n / c) ∨ (n.tmod c < 0 ∧ n % c = n.tmod c + c ∧ n / c = n.tdiv c - 1) := by
  have e1 : n.tmod c = -((-n) % c) := by
    have := Int.neg_tmod (-n) c
    rw [Int.neg_neg, Int.tmod_eq_emod_of_nonneg (a := -n) (by omega)] at this
    exact this
  have e2 : n.tdiv c = -((-n) / c) := by
    have := Int.neg_tdiv (a := -n) (b := c)
    rw [Int.neg_neg, Int.tdiv_eq_ediv_of_nonneg (a := -n) (by omega)] at this
    exact this
  have a1 := Int.emod_nonneg n (show c ≠ 0 by omega)
  have a2 := Int.emod_lt_of_pos n hc
  have b1 := Int.emod_nonneg (-n) (show c ≠ 0 by omega)
  have b2 := Int.emod_lt_of_pos (-n) hc
  have a3 := Int.mul_ediv_add_emod n c
  have b3 := Int.mul_ediv_add_emod (-n) c
  rw [e1, e2]
  generalize n % c = r at *
  generalize (-n) % c = s at *
  generalize n / c = q at *
  generalize (-n) / c = p at *
  have key : c * (q + p) + (r + s) = 0 := by rw [Int.mul_add]; omega
  have hq : q + p = 0 ∨ q + p = -1 := by
    rcases Int.lt_trichotomy (q + p) (-1) with h1 | h1 | h1
    · have := Int.mul_le_mul_of_nonneg_left (show q + p ≤ -2 by omega) (show 0 ≤ c by omega)
      omega
    · exact Or.inr h1
    · rcases Int.lt_trichotomy (q + p) 0 with h2 | h2 | h2
      · omega
      · exact Or.inl h2
      · have := Int.mul_le_mul_of_nonneg_left (show 1 ≤ q + p by omega) (show 0 ≤ c by omega)
        omega
  rcases hq with hq | hq
  · rw [hq] at key
    left
    omega
  · rw [hq] at key
    right
    omega

theorem neg_half {n c : Int} (h : n < 0) (hn : inRange n) (hc : 2 ≤ c) : -4611686018427387904 ≤ n.tdiv c ∧ n.tdiv c ≤ 0 := by
  have e2 : n.tdiv c = -((-n) / c) := by
    have := Int.neg_tdiv (a := -n) (b := c)
    rw [Int.neg_neg, Int.tdiv_eq_ediv_of_nonneg (a := -n) (by omega)] at this
    exact this
  have b1 := Int.emod_nonneg (-n) (show c ≠ 0 by omega)
  have b3 := Int.mul_ediv_add_emod (-n) c
  have b4 := Int.ediv_nonneg (show 0 ≤ -n by omega) (show 0 ≤ c by omega)
  rw [e2]
  generalize (-n) % c = s at *
  generalize (-n) / c = p at *
  have := Int.mul_le_mul_of_nonneg_right hc b4
  unfold inRange at hn
  omega
theorem ret_two {a b a' b' : Int} {P : World → Prop} {w : World} (h : a = a') (h' : b = b') (hp : P w) : Ending.returned (.tuple #[.int .i64 a, .int .i64 b]) = .returned (.tuple #[.int .i64 a', .int .i64 b']) ∧ P w := ⟨by rw [h, h'], hp⟩

theorem part_any (n c : Int) (w : World) (hc : 2 ≤ c ∧ c ≤ 1000000) (hn : inRange n) : Calls Tryz.prog 56 #[.int .i64 n, .int .i64 c] w fun e w' => e = .returned (.tuple #[.int .i64 (n / c), .int .i64 (n % c)]) ∧ w' = w.drew := by
  by_cases h : n < 0
  · have hp := neg_parts h (show 0 < c by omega)
    have c0 : (c == 0) = false := by simp; omega
    have c1 : (c == -1) = false := by simp; omega
    have a1 := Int.emod_nonneg n (show c ≠ 0 by omega)
    have a2 := Int.emod_lt_of_pos n (show 0 < c by omega)
    have a3 := neg_half h hn hc.1
    unfold inRange at hn
    rcases hp with ⟨h1, h2, h3⟩ | ⟨h1, h2, h3⟩
    · rw [h2]
      go_enter Tryz.func56, Tryz.ntmps56
      go_wp2_with fail
      go_region
      go_wp2_with fail
      go_ret2
      exact ⟨rfl, rfl⟩
    · rw [h3, h2]
      go_enter Tryz.func56, Tryz.ntmps56
      go_wp2_with fail
      go_region
      go_wp2_with fail
      go_ret2
      exact ⟨rfl, rfl⟩
  · have a1 := Int.emod_nonneg n (show c ≠ 0 by omega)
    unfold inRange at hn
    go_enter Tryz.func56, Tryz.ntmps56
    go_wp2_with fail
    go_region
    go_wp2_with fail
    go_ret2
    exact ⟨rfl, rfl⟩

theorem daysTo_any (r : Int) (w : World) (hr : -1000 ≤ r ∧ r ≤ 1000) (h0 : 0 ≤ r) : Calls Tryz.prog 86 #[.int .i64 r] w fun e w' => e = .returned (.int .i64 (toY r)) ∧ w = w' := by
  unfold toY
  have b1 : 0 ≤ (r + 3) / 4 ∧ (r + 3) / 4 ≤ 1000 := by omega
  have b2 : 0 ≤ (r + 99) / 100 ∧ (r + 99) / 100 ≤ 1000 := by omega
  have b3 : 0 ≤ (r + 399) / 400 ∧ (r + 399) / 400 ≤ 1000 := by omega
  go_enter Tryz.func86, Tryz.ntmps86
  go_wp2_with fail
  go_ret
  exact ⟨rfl, rfl⟩
theorem toY_le {r : Int} (h : 0 ≤ r ∧ r ≤ 400) : 0 ≤ toY r ∧ toY r ≤ 146097 := by unfold toY; omega
theorem begin_any (y : Int) (w : World) (hy : -9999 ≤ y ∧ y ≤ 10000) : Calls Tryz.prog 57 #[.int .i64 y] w fun e w' => e = .returned (.int .i64 (begD y)) ∧ w' = w.drew := by
  have HP := Lib.hid (part_any y 400 w (by omega) (by unfold inRange; omega))
  have HD := Lib.hid (daysTo_any (y % 400) w.drew (by omega) (by omega))
  have ht := toY_le (r := y % 400) (by omega)
  have hq : -25 ≤ y / 400 ∧ y / 400 ≤ 25 := by omega
  unfold begD
  generalize toY (y % 400) = T at *
  generalize y / 400 = q at *
  generalize y % 400 = r at *
  go_enter Tryz.func57, Tryz.ntmps57
  go_wp2_with fail
  refine HP.out.mono ?_
  rintro e w' ⟨rfl, rfl⟩
  go_wp2_with fail
  refine HD.out.mono ?_
  rintro e w' ⟨rfl, rfl⟩
  go_wp2_with fail
  go_ret
  exact ⟨rfl, rfl⟩
theorem Week_any (n : Int) (w : World) (hn : inRange n) : Calls Tryz.prog 114 #[.int .i64 n] w fun e w' => e = .returned (.int .i64 ((n + 4) % 7)) ∧ w' = w.drew := by
  have HP := Lib.hid (part_any n 7 w (by omega) hn)
  have hr : 0 ≤ n % 7 ∧ n % 7 < 7 := by omega
  have e : (n + 4) % 7 = (n % 7 + 4) % 7 := by omega
  rw [e]
  clear hn e
  generalize n % 7 = r at *
  generalize n / 7 = q at *
  go_enter Tryz.func114, Tryz.ntmps114
  go_wp2_with fail
  refine HP.out.mono ?_
  rintro e w' ⟨rfl, rfl⟩
  go_wp2_with fail
  go_ret
  exact ⟨rfl, rfl⟩
end Go.Proofs.YtghcfmoagkimaaaGreatDoor.S6
namespace Go.Proofs.YtghcfmoagkimaaaGreatDoor.S6
open Go.RowKit Go.Mem Go.Civil

def daysK (y m d : Int) : Int := if rightB y m d then numD y m d else 0
def daysE (y m d : Int) : Int := if rightB y m d then 0 else 6
theorem sumM_step (y : Int) (k : Nat) : sumM y (k + 1) = sumM y k + longI y ((k : Int) + 1) := rfl
theorem sumM_le (y : Int) (k : Nat) (h : k ≤ 12) : 0 ≤ sumM y k ∧ sumM y k ≤ 366 := by
  have h1 := sumM_pos (y := y) k
  have h2 := sumM_mono (y := y) h
  rw [sumM_all] at h2
  have := leapI_le y
  omega
theorem Days_any (y m d : Int) (w : World) (hg : LOk w) :
    Calls Tryz.prog 111 #[.int .i64 y, .int .i64 m, .int .i64 d] w fun e w' => e = .returned (.tuple #[.int .i64 (daysK y m d), .int .i64 (daysE y m d)]) ∧ Fr w w' (fun _ => False) := by
  have HR := Lib.hid (Right_any y m d w hg)
  unfold daysK daysE
  by_cases h : rightB y m d = true
  · rw [h] at HR
    rw [if_pos h, if_pos h]
    have hb := rightB_iff.1 h
    have hnum : numD y m d = begD y + sumM y (m - 1).toNat + (d - 1) := rfl
    have HB := Lib.hid (begin_any y w (by omega))
    have hbr := begD_range (y := y) (by omega)
    have hle := longI_le y m
    obtain ⟨j, rfl⟩ : ∃ j : Nat, m = (j : Int) + 1 := ⟨(m - 1).toNat, by omega⟩
    rw [show ((j : Int) + 1 - 1).toNat = j by omega] at hnum
    have hb1 : 1 ≤ d ∧ d ≤ 31 ∧ (j : Int) ≤ 11 := by omega
    rw [hnum]
    have HL := Lib.hid (fun i => Long_any y i w.drew (hg.fr (Fr.drew _ _)))
    have HN : Hid (∀ k : Nat, k ≤ 12 → 0 ≤ sumM y k ∧ sumM y k ≤ 366) := Lib.hid (sumM_le y)
    generalize begD y = B at *
    clear h hb hnum hle hg
    go_enter Tryz.func111, Tryz.ntmps111
    go_wp2_with fail
    refine HR.out.mono ?_
    rintro e w' ⟨rfl, rfl⟩
    go_wp2_with fail
    refine HB.out.mono ?_
    rintro e w' ⟨rfl, rfl⟩
    go_wp2_with fail
    go_loop [8, 9] (fun v8 v9 => ∃ k : Nat, k ≤ j ∧ v8 = .int .i64 (B + (d - 1) + sumM y k) ∧ v9 = .int .i64 ((k : Int) + 1)) (fun _ v9 => j + 1 - (intOf v9).toNat)
    case atStart => exact ⟨0, Nat.zero_le _, by simp [sumM], rfl⟩
    case round =>
      obtain ⟨k, hk, rfl, rfl⟩ := hrel
      by_cases hlt : k < j
      · have hs := HN.out k (by omega)
        have hs2 := HN.out (k + 1) (by omega)
        have hst := sumM_step y k
        have HS := Lib.hid hst
        have HC := Lib.hid (HL.out ((k : Int) + 1))
        have h1 : (k : Int) < (j : Int) := by omega
        have h2 : (k : Int) + 1 < (j : Int) + 1 := by omega
        have hle := longI_le y ((k : Int) + 1)
        generalize longI y ((k : Int) + 1) = L at *
        generalize sumM y k = S at *
        clear hst
        go_wp2_with fail
        refine HC.out.mono ?_
        rintro e w' ⟨rfl, rfl⟩
        go_wp2_with fail
        go_round
        case rel => exact ⟨k + 1, by omega, by rw [HS.out]; congr 1; omega, by go_num⟩
        case measure => simp [intOf]; omega
      · obtain rfl : k = j := by omega
        have hs := HN.out k (by omega)
        go_wp2_with fail
        go_ret2
        exact ret_two (P := fun w' => Fr w w' (fun _ => False)) (by omega) rfl (Fr.drew _ _)
  · rw [if_neg h, if_neg h]
    simp only [Bool.not_eq_true] at h
    rw [h] at HR
    clear h hg
    go_enter Tryz.func111, Tryz.ntmps111
    go_wp2_with fail
    refine HR.out.mono ?_
    rintro e w' ⟨rfl, rfl⟩
    go_wp2_with fail
    go_ret2
    exact ⟨rfl, Fr.refl _ _⟩
end Go.Proofs.YtghcfmoagkimaaaGreatDoor.S6
namespace Go.Proofs.YtghcfmoagkimaaaGreatDoor.S6
open Go.RowKit Go.Mem Go.Dfm

abbrev Bs := List UInt8
abbrev strV (l : Bs) : Value := .string ⟨l.toArray⟩
theorem str_size (l : Bs) : (⟨l.toArray⟩ : ByteArray).size = l.length := by show l.toArray.size = _; simp
theorem run_add_str {P : Program} (w : World) (a b : Bs) (h : a.length + b.length ≤ 1000000) : (Op.stringOp .add ⟨a.toArray⟩ ⟨b.toArray⟩).run P w = .ok (strV (a ++ b)) w := by
  rw [run_string_add_sum w _ _ (by show a.toArray.size + b.toArray.size ≤ _; simp; omega)]
  show Result.ok (Value.string ((⟨a.toArray⟩ : ByteArray) ++ ⟨b.toArray⟩)) w = .ok (.string ⟨(a ++ b).toArray⟩) w
  congr 2
theorem ff {a c d : World} (h : Fr a c (fun _ => False)) (h2 : Fr c d (fun _ => False)) : Fr a d (fun _ => False) := h.trans h2 (fun _ _ h => h) (fun _ _ h => h)
/-- a day -/
abbrev dayV (k d w : Int) : Value := .agg #[.int .i64 k, .int .i64 d, .int .i64 w]
theorem ret_bf {a b : Bool} {x y : World} (h : a = b) (hf : Fr x y (fun _ => False)) : Ending.returned (.bool a) = .returned (.bool b) ∧ Fr x y (fun _ => False) := ⟨by rw [h], hf⟩
theorem right_any (k d q : Int) (w : World) : Calls Tryz.prog 110 #[dayV k d q] w fun e w' => e = .returned (.bool (rightB k d q)) ∧ Fr w w' (fun _ => False) := by
  obtain ⟨b, hb⟩ : ∃ b, rightB k d q = b := ⟨_, rfl⟩
  have HB := Lib.hid (show b = true ↔ rightP k d q by rw [← hb]; exact rightB_iff)
  rw [hb]
  clear hb
  go_enter Tryz.func110, Tryz.ntmps110
  go_wp2_with fail
  all_goals
    go_ret
    refine ret_bf ?_ (Fr.new _ _ _)
    have hb := HB.out
    rw [Bool.eq_iff_iff, hb]
    simp [rightP]
    try (simp only [beq_iff_eq, beq_eq_false_iff_ne, ne_eq] at *; omega)
end Go.Proofs.YtghcfmoagkimaaaGreatDoor.S6
namespace Go.Proofs.YtghcfmoagkimaaaGreatDoor.S6
open Go.RowKit Go.Mem Go.Dfm

/-- the variables that the code reads hold what the program's text lays -/
structure WOk (w : World) : Prop where
  lok : LOk w
theorem WOk.fr {w w' : World} (h : WOk w) (f : Fr w w' (fun _ => False)) : WOk w' := ⟨h.lok.fr f⟩
theorem fr_below {w w' : World} (h : Below w.heap.size w w') : Fr w w' (fun _ => False) := (Fr.ofBelow h).mono (fun i hi hs => absurd hs (by omega))
end Go.Proofs.YtghcfmoagkimaaaGreatDoor.S6
namespace Go.Proofs.YtghcfmoagkimaaaGreatDoor
open Go.RowKit Go.Mem Go.Lin

abbrev strV (l : Bs) : Value := .string ⟨l.toArray⟩
abbrev intV (n : Int) : Value := .int .i64 n
abbrev dayV (d : DayL) : Value := .agg #[intV d.k, intV d.d, intV d.w]
def ruleC (r : RuleL) : Array Value := #[strV r.name, intV r.fr, intV r.to, intV r.month, intV r.on.k, intV r.on.d, intV r.on.w, intV r.at_.s, intV r.at_.k, intV r.save, strV r.letter]
abbrev ruleV (r : RuleL) : Value := .agg (ruleC r)
def tilC (u : UntilL) : Array Value := #[.bool u.has, intV u.year, intV u.month, intV u.on.k, intV u.on.d, intV u.on.w, intV u.at_.s, intV u.at_.k]
def eraC (e : EraL) : Array Value := #[intV e.off, intV e.kind, intV e.save, strV e.rules, strV e.format, .bool e.til.has, intV e.til.year, intV e.til.month, intV e.til.on.k, intV e.til.on.d, intV e.til.on.w, intV e.til.at_.s, intV e.til.at_.k]
def lineC (l : LineL) : Array Value := #[intV l.kind, strV l.rule.name, intV l.rule.fr, intV l.rule.to, intV l.rule.month, intV l.rule.on.k, intV l.rule.on.d, intV l.rule.on.w, intV l.rule.at_.s, intV l.rule.at_.k, intV l.rule.save, strV l.rule.letter,
  strV l.name, strV l.target, intV l.era.off, intV l.era.kind, intV l.era.save, strV l.era.rules, strV l.era.format, .bool l.era.til.has, intV l.era.til.year, intV l.era.til.month, intV l.era.til.on.k, intV l.era.til.on.d, intV l.era.til.on.w,
  intV l.era.til.at_.s, intV l.era.til.at_.k, intV l.err, intV l.col]
theorem eqF_cons {P : Program} {d : Nat} {xs ys : Array Value} {f : Field} {fs : List Field} {w : World} {x y : Value} {b c : Bool} (hn : (f.name ≠ "_")) (hx : (part f.type xs f.offset).run P w = .ok x w) (hy : (part f.type ys f.offset).run P w = .ok y w)
    (he : (Op.equalIn d f.type x y).run P w = .ok b w) (hr : (Op.eqFields d xs ys fs).run P w = .ok c w) : (Op.eqFields d xs ys (f :: fs)).run P w = .ok (b && c) w := by
  rw [Op.eqFields, if_pos hn]
  simp only [Sem.run_bind, hx, hy, he, Result.andThen_ok]
  cases b with
  | true => simpa using hr
  | false => simp
theorem eqF_nil {P : Program} {d : Nat} {xs ys : Array Value} {w : World} : (Op.eqFields d xs ys []).run P w = .ok true w := rfl
theorem eqI (d : Nat) (a b : Int) (w : World) : (Op.equalIn (d + 1) 3 (intV a) (intV b)).run Tryz.prog w = .ok (decide (a = b)) w := run_equalIn_int w d 3 .i64 .i64 a b Tryz.underlying3
theorem eqB (d : Nat) (a b : Bool) (w : World) : (Op.equalIn (d + 1) 4 (.bool a) (.bool b)).run Tryz.prog w = .ok (decide (a = b)) w := by
  rw [run_equalIn_bool' w d 4 a b Tryz.underlying4]
  cases a <;> cases b <;> rfl
theorem eqS (d : Nat) (a b : Bs) (w : World) : (Op.equalIn (d + 1) 9 (strV a) (strV b)).run Tryz.prog w = .ok (decide (a = b)) w := by
  rw [run_equalIn_string w d 9 _ _ Tryz.underlying9, ByteArray.toList_eq, ByteArray.toList_eq]
  congr 1
  show (a.toArray.toList == b.toArray.toList) = _
  by_cases h : a = b <;> simp [h]
end Go.Proofs.YtghcfmoagkimaaaGreatDoor
namespace Go.Mem
/-- cells of a row, from a place on, turned into others -/
def setMany : Array Value → Nat → List Value → Array Value
  | cs, _, [] => cs
  | cs, o, v :: vs => setMany (cs.setIfInBounds o v) (o + 1) vs
theorem Blk.many {g : Nat} {t : TypeId} : ∀ (vs : List Value) (o : Nat) (cs : Array Value) (w : World), Blk w g t cs → Blk (w.setCells g o vs) g t (setMany cs o vs)
  | [], _, _, _, h => h
  | v :: vs, o, _, _, h => Blk.many vs (o + 1) _ _ (h.put o v)
theorem Fr.many {g : Nat} : ∀ (vs : List Value) (o : Nat) (w : World), Fr w (w.setCells g o vs) (fun i => i = g)
  | [], _, _ => Fr.refl _ _
  | v :: vs, o, _ => (Fr.set (S := fun i => i = g) (a := ⟨g, o, none⟩) (v := v) rfl).trans (Fr.many vs (o + 1) _) (fun _ _ h => h) (fun _ _ h => h)
section
variable {P : Program} {ops : Array Oper} {rest : List Oper} {o : Oper} {a : Act} {w : World} {Q : Exit → Act → World → Prop}
theorem run_loadVar_blk (w : World) (g off : Nat) (ty t : TypeId) (old cs : Array Value) (d : TypeDesc) (hg : Blk w g t old) (hu : P.underlying ty = some d) (hd : d.isRow = true) (hi : (P.info? ty).map (·.size) = some cs.size)
    (hc : ∀ j, j < cs.size → old[off + j]? = cs[j]?) : (loadVar ty ⟨g, off, none⟩).run P w = .ok (.agg cs) w := by
  have := run_loadVar_mid (P := P) w g off ty cs.toList d (fun j v hv => by
    have hj : j < cs.size := by have := (List.getElem?_eq_some_iff.1 hv).1; simpa using this
    rw [cell_at hg, hc j hj]
    simpa using hv) hu hd (by rw [hi]; simp)
  simpa using this
/-- a struct is loaded out of a row -/
theorem wpList_load_blk (ty : TypeId) (x : Operand) (g off : Nat) (t : TypeId) (old cs : Array Value) (d : TypeDesc) (hgd : Region.wanted o (yielded ops a.tmps) = true) (ho : o.op = .load ty x) (hx : a.eval x = .pointer (some ⟨g, off, none⟩)) (hg : Blk w g t old)
    (hu : P.underlying ty = some d) (hd : d.isRow = true) (hi : (P.info? ty).map (·.size) = some cs.size) (hc : ∀ j, j < cs.size → old[off + j]? = cs[j]?)
    (h : wpList P ops Q rest (a.put o.dst (.agg cs)) w) : wpList P ops Q (o :: rest) a w :=
  wpList_step fun _ hK => by
    rw [if_pos hgd]
    unfold Oper.wp execOp
    simp only [ho, hx, Instr.loadAt, Instr.sureAddr, Sem.run_bind, Sem.run_pure, Result.andThen_ok, run_loadVar_blk w g off ty t old cs d hg hu hd hi hc]
    exact hK _ _ h
/-- .. in a region that draws its order -/
theorem yields_blk {S : World → Prop} (ty : TypeId) (x : Operand) (g off : Nat) (t : TypeId) (old cs : Array Value) (d : TypeDesc) (hgd : Region.wanted o (yielded ops a.tmps) = true) (ho : o.op = .load ty x) (hx : a.eval x = .pointer (some ⟨g, off, none⟩)) (hg : ∀ w, S w → Blk w g t old)
    (hu : P.underlying ty = some d) (hd : d.isRow = true) (hi : (P.info? ty).map (·.size) = some cs.size) (hc : ∀ j, j < cs.size → old[off + j]? = cs[j]?) : YieldsIf P ops S o (.agg cs) a :=
  .inl ⟨hgd, fun w hw' => by
    unfold execOp
    simp only [ho, hx, Instr.loadAt, Instr.sureAddr, Sem.run_bind, Sem.run_pure, Result.andThen_ok, run_loadVar_blk w g off ty t old cs d (hg w hw') hu hd hi hc]⟩
/-- a struct is stored into a row: the world behind it is opaque -/
theorem wpList_store_blk (ty : TypeId) (x y : Operand) (g off : Nat) (t : TypeId) (old cells new : Array Value) (hgd : Region.wanted o (yielded ops a.tmps) = true) (ho : o.op = .store ty x y) (hd : o.dst = none) (hx : a.eval x = .pointer (some ⟨g, off, none⟩)) (hy : a.eval y = .agg cells)
    (hg : Blk w g t old) (hi : (P.info? ty).map (·.size) = some cells.size) (h1 : cells.all (·.oneCell') = true) (hfit : off + cells.size ≤ old.size) (hnew : setMany old off cells.toList = new)
    (h : ∀ W, Fr w W (fun i => i = g) → Blk W g t new → wpList P ops Q rest a W) : wpList P ops Q (o :: rest) a w :=
  wpList_step fun _ hK => by
    rw [if_pos hgd]
    have ht : w.there g off cells.size := fun j hj => ⟨by rw [cell_at hg, Array.getElem?_eq_getElem (by omega)]; rfl, free_at hg _⟩
    unfold Oper.wp execOp
    simp only [ho, hx, hy, run_storeAt_mid w g off ty cells ht hi h1, Sem.run_bind, Sem.run_pure, Result.andThen_ok]
    have := hK a _ (h _ (Fr.many cells.toList off w) (by have := Blk.many cells.toList off old w hg; rw [hnew] at this; exact this))
    simpa only [Oper.upon, hd, Act.put] using this
theorem run_storeVar_cell (w : World) (g off : Nat) (t ty : TypeId) (old : Array Value) (v : Value) (hg : Blk w g t old) (hi : (P.info? ty).map (·.size) = some 1) (h1 : v.oneCell' = true) (hfit : off < old.size) : (storeVar ty ⟨g, off, none⟩ v).run P w = .ok () (w.setCell ⟨g, off, none⟩ v) := by
  have hc : v.cells = #[v] := by cases v <;> first | rfl | cases h1
  have hst : (storeCells ⟨g, off, none⟩ [v] 0).run P w = .ok () (w.setCells g (off + 0) [v]) := run_storeCells_cells (P := P) g off [v] 0 w (fun j hj => by
    have : j = 0 := by simpa using hj
    subst this
    rw [cell_at hg, Array.getElem?_eq_getElem (by omega)]; rfl) (fun j _ => free_at hg _) (fun x hx => by simp at hx; subst hx; exact h1)
  cases hq : P.info? ty with
  | none => simp [hq] at hi
  | some i =>
    have hs : i.size = 1 := by simpa [hq] using hi
    simp [storeVar, sizeOf, typeInfo, hq, hc, hs, hst, World.setCells]
/-- a value of one cell is stored into a row: the world behind it is opaque -/
theorem wpList_store_cell (ty : TypeId) (x y : Operand) (g off : Nat) (t : TypeId) (old new : Array Value) (v : Value) (hgd : Region.wanted o (yielded ops a.tmps) = true) (ho : o.op = .store ty x y) (hd : o.dst = none) (hx : a.eval x = .pointer (some ⟨g, off, none⟩)) (hy : a.eval y = v)
    (hg : Blk w g t old) (hi : (P.info? ty).map (·.size) = some 1) (h1 : v.oneCell' = true) (hfit : off < old.size) (hnew : old.setIfInBounds off v = new)
    (h : ∀ W, Fr w W (fun i => i = g) → Blk W g t new → wpList P ops Q rest a W) : wpList P ops Q (o :: rest) a w :=
  wpList_step fun _ hK => by
    rw [if_pos hgd]
    unfold Oper.wp execOp
    simp only [ho, hx, hy, Instr.storeAt, Instr.sureAddr, Sem.run_bind, Sem.run_pure, Result.andThen_ok, run_storeVar_cell w g off t ty old v hg hi h1 hfit]
    have := hK a _ (h _ (Fr.set (S := fun i => i = g) rfl) (hg.put' off v hnew))
    simpa only [Oper.upon, hd, Act.put] using this
end
end Go.Mem
namespace Go.Proofs.YtghcfmoagkimaaaGreatDoor
open Go.RowKit Go.Mem Go.Lin

/- a line's parts in its cells -/
theorem ruleC_one (r : RuleL) : (ruleC r).all (·.oneCell') = true := by simp [ruleC, Value.oneCell']
theorem eraC_one (e : EraL) : (eraC e).all (·.oneCell') = true := by simp [eraC, Value.oneCell']
theorem infoR (r : RuleL) : (Tryz.prog.info? 72).map (·.size) = some (ruleC r).size := show _ = some 11 by kernel_rfl
theorem infoE (e : EraL) : (Tryz.prog.info? 48).map (·.size) = some (eraC e).size := show _ = some 13 by kernel_rfl
theorem many_list : ∀ (vs : List Value) (o : Nat) (cs : Array Value), o + vs.length ≤ cs.size → (setMany cs o vs).toList = cs.toList.take o ++ (vs ++ cs.toList.drop (o + vs.length))
  | [], o, cs, _ => by simp [setMany]
  | v :: vs, o, cs, h => by
    have h : o + (vs.length + 1) ≤ cs.size := h
    rw [setMany, many_list vs (o + 1) _ (by simp; omega)]
    simp only [Array.toList_setIfInBounds, List.length_cons]
    have e1 : (cs.toList.set o v).take (o + 1) = cs.toList.take o ++ [v] := by
      rw [List.take_set, List.take_succ_eq_append_getElem (by simp; omega), List.set_append_right _ _ (by simp; omega)]
      simp
      rw [Nat.min_eq_left (by omega)]
      simp
    have e2 : (cs.toList.set o v).drop (o + 1 + vs.length) = cs.toList.drop (o + (vs.length + 1)) := by
      rw [List.drop_set_of_lt (by omega)]
      congr 1
      omega
    rw [e1, e2, List.append_assoc]
    rfl
theorem many_eq {vs : List Value} {o : Nat} {cs new : Array Value} (h : o + vs.length ≤ cs.size) (hn : cs.toList.take o ++ (vs ++ cs.toList.drop (o + vs.length)) = new.toList) : setMany cs o vs = new :=
  Array.toList_inj.1 ((many_list vs o cs h).trans hn)
/- a rule's, an until's, an era's parts in their cells -/
theorem zero_part (cs : Array Value) : ∀ j, j < cs.size → cs[0 + j]? = cs[j]? := fun j _ => by rw [Nat.zero_add]
theorem put_all {cs ds : Array Value} (h : cs.size = ds.size) : setMany cs 0 ds.toList = ds := many_eq (by simp [h]) (by simp [h])
theorem put_ra (r s : RuleL) : setMany (ruleC r) 0 (ruleC s).toList = ruleC s := put_all rfl
end Go.Proofs.YtghcfmoagkimaaaGreatDoor
namespace Go.Mem
/- rows of structs -/
theorem flat_get {X : Type} (f : X → List Value) (k : Nat) (hf : ∀ x, (f x).length = k) : ∀ {l : List X} {i : Nat} {x : X}, l[i]? = some x → ∀ j, j < k → (l.flatMap f)[i * k + j]? = (f x)[j]?
  | [], i, x, h, _, _ => by simp at h
  | y :: l, 0, x, h, j, hj => by
    have h : y = x := by simpa using h
    subst h
    rw [List.flatMap_cons, Nat.zero_mul, Nat.zero_add, List.getElem?_append_left (by rw [hf]; exact hj)]
  | y :: l, i + 1, x, h, j, hj => by
    have ih := flat_get f k hf (l := l) (i := i) (x := x) (by simpa using h) j hj
    rw [List.flatMap_cons, show (i + 1) * k + j = (f y).length + (i * k + j) by rw [hf, Nat.add_mul]; omega, List.getElem?_append_right (by omega), Nat.add_sub_cancel_left]
    exact ih
theorem flat_len {X : Type} (f : X → List Value) (k : Nat) (hf : ∀ x, (f x).length = k) : ∀ l : List X, (l.flatMap f).length = l.length * k
  | [] => by simp
  | y :: l => by rw [List.flatMap_cons, List.length_append, flat_len f k hf l, hf, List.length_cons, Nat.add_mul]; omega
/-- an element of a slice of structs -/
theorem rows_at {X : Type} {f : X → List Value} {k : Nat} (hf : ∀ x, (f x).length = k) {w : World} {A : Option Addr} {l : List X} (h : Rd w k A l.length (l.flatMap f)) {i : Nat} {x : X} (hx : l[i]? = some x) :
    ∃ b off, A = some ⟨b, off, none⟩ ∧ ∀ j, j < k → w.cell? ⟨b, off + i * k + j, none⟩ = (f x)[j]? := by
  have hi := (List.getElem?_eq_some_iff.1 hx).1
  obtain ⟨b, off, e, hc⟩ := h.2 (by omega)
  refine ⟨b, off, e, fun j hj => ?_⟩
  have hg := flat_get f k hf hx j hj
  have hj' : j < (f x).length := by rw [hf]; exact hj
  rw [List.getElem?_eq_getElem hj'] at hg ⊢
  have := hc _ _ hg
  rw [← Nat.add_assoc] at this
  exact this
section
variable {P : Program} {ops : Array Oper} {rest : List Oper} {o : Oper} {a : Act} {w : World} {Q : Exit → Act → World → Prop}
theorem run_loadVar_at (w : World) (g off : Nat) (ty : TypeId) (cs : Array Value) (d : TypeDesc) (hc : ∀ j, j < cs.size → w.cell? ⟨g, off + j, none⟩ = cs[j]?) (hu : P.underlying ty = some d) (hd : d.isRow = true) (hi : (P.info? ty).map (·.size) = some cs.size) :
    (loadVar ty ⟨g, off, none⟩).run P w = .ok (.agg cs) w := by
  have := run_loadVar_mid (P := P) w g off ty cs.toList d (fun j v hv => by
    have hj : j < cs.size := by have := (List.getElem?_eq_some_iff.1 hv).1; simpa using this
    rw [hc j hj]
    simpa using hv) hu hd (by rw [hi]; simp)
  simpa using this
/-- a struct is loaded out of a slice -/
theorem wpList_load_at (ty : TypeId) (x : Operand) (g off : Nat) (cs : Array Value) (d : TypeDesc) (hgd : Region.wanted o (yielded ops a.tmps) = true) (ho : o.op = .load ty x) (hx : a.eval x = .pointer (some ⟨g, off, none⟩)) (hc : ∀ j, j < cs.size → w.cell? ⟨g, off + j, none⟩ = cs[j]?)
    (hu : P.underlying ty = some d) (hd : d.isRow = true) (hi : (P.info? ty).map (·.size) = some cs.size)
    (h : wpList P ops Q rest (a.put o.dst (.agg cs)) w) : wpList P ops Q (o :: rest) a w :=
  wpList_step fun _ hK => by
    rw [if_pos hgd]
    unfold Oper.wp execOp
    simp only [ho, hx, Instr.loadAt, Instr.sureAddr, Sem.run_bind, Sem.run_pure, Result.andThen_ok, run_loadVar_at w g off ty cs d hc hu hd hi]
    exact hK _ _ h
theorem yields_at {S : World → Prop} (ty : TypeId) (x : Operand) (g off : Nat) (cs : Array Value) (d : TypeDesc) (hgd : Region.wanted o (yielded ops a.tmps) = true) (ho : o.op = .load ty x) (hx : a.eval x = .pointer (some ⟨g, off, none⟩)) (hc : ∀ w, S w → ∀ j, j < cs.size → w.cell? ⟨g, off + j, none⟩ = cs[j]?)
    (hu : P.underlying ty = some d) (hd : d.isRow = true) (hi : (P.info? ty).map (·.size) = some cs.size) : YieldsIf P ops S o (.agg cs) a :=
  .inl ⟨hgd, fun w hw' => by
    unfold execOp
    simp only [ho, hx, Instr.loadAt, Instr.sureAddr, Sem.run_bind, Sem.run_pure, Result.andThen_ok, run_loadVar_at w g off ty cs d (hc w hw') hu hd hi]⟩
end
theorem blkc {w : World} {g : Nat} {t : TypeId} {cs : Array Value} (h : Blk w g t cs) (i : Nat) (v : Value) (hv : cs[i]? = some v) : w.cell? ⟨g, i, none⟩ = some v := (cell_at h i).trans hv
theorem cell_far {w W : World} {S : Nat → Prop} (hf : Fr w W S) {b i : Nat} {v : Value} (h : w.cell? ⟨b, i, none⟩ = some v) (hs : ¬ S b) : W.cell? ⟨b, i, none⟩ = some v := by
  rw [World.cell?_of_block (w := w) (hf.block b (World.block_lt_of_cell? w _ h) hs)]
  exact h
theorem cells_far {w W : World} {S : Nat → Prop} (hf : Fr w W S) {b : Nat} {off k : Nat} {cs : Array Value} (h : ∀ j, j < k → w.cell? ⟨b, off + j, none⟩ = cs[j]?) (hk : k ≤ cs.size) (hs : ¬ S b) : ∀ j, j < k → W.cell? ⟨b, off + j, none⟩ = cs[j]? := by
  intro j hj
  have := h j hj
  rw [Array.getElem?_eq_getElem (by omega)] at this ⊢
  exact cell_far hf this hs
end Go.Mem
namespace Go.Proofs.YtghcfmoagkimaaaGreatDoor
open Go.RowKit Go.Mem Go.Lin Go.Dcm

/- a document's parts in their cells -/
def lineL (x : LineL) : List Value := (lineC x).toList
def eraL (e : EraL) : List Value := (eraC e).toList
def intL (n : Int) : List Value := [intV n]
/-- a zone, its eras and its lines -/
abbrev ZV := ZoneL × Value × Value
theorem lineL_len (x : LineL) : (lineL x).length = 29 := rfl
/-- v owns a row of structs -/
def Own {X : Type} (w : World) (base : Nat) (e : TypeId) (k : Nat) (f : X → List Value) (v : Value) (l : List X) : Prop := w.ownsRow base e k v l.length (l.flatMap f)
theorem Own.fr {X : Type} {w w' : World} {S : Nat → Prop} {base : Nat} {e : TypeId} {k : Nat} {f : X → List Value} {v : Value} {l : List X} (h : Own w base e k f v l) (hf : Fr w w' S) (hg : ∀ g, v.ownBlock = some g → ¬ S g) : Own w' base e k f v l := hf.own h hg
theorem Own.kept {X : Type} {w w' : World} {base : Nat} {e : TypeId} {k : Nat} {f : X → List Value} {v : Value} {l : List X} (h : Own w base e k f v l) (hf : Fr w w' (fun _ => False)) : Own w' base e k f v l := hf.own h (fun _ _ h => h)
theorem Own.slice {X : Type} {w : World} {base : Nat} {e : TypeId} {k : Nat} {f : X → List Value} {v : Value} {l : List X} (h : Own w base e k f v l) : ∃ A c, v = .slice A l.length c := own_slice h
theorem Own.rd {X : Type} {w : World} {base : Nat} {e : TypeId} {k : Nat} {f : X → List Value} {v : Value} {l : List X} (h : Own w base e k f v l) : ∃ A c, v = .slice A l.length c ∧ l.length ≤ c ∧ c ≤ maxLen ∧ Rd w k A l.length (l.flatMap f) := by
  obtain ⟨A, c, h1, h2, h3, h4, -⟩ := own_rd h
  exact ⟨A, c, h1, h2, h3, h4⟩
/-- the rows of a zone -/
structure ZAt (w : World) (base : Nat) (z : ZV) : Prop where
  e : Own w base 48 13 eraL z.2.1 z.1.eras
  l : Own w base 3 1 intL z.2.2 z.1.lines
theorem ZAt.kept {w w' : World} {base : Nat} {z : ZV} (h : ZAt w base z) (hf : Fr w w' (fun _ => False)) : ZAt w' base z := ⟨h.e.kept hf, h.l.kept hf⟩
end Go.Proofs.YtghcfmoagkimaaaGreatDoor
namespace Go.Proofs.YtghcfmoagkimaaaGreatDoor
open Go.RowKit Go.Mem Go.Lin Go.WideShapes

theorem cells_day : Tryz.prog.cellsOf 42 = 3 := by kernel_rfl
theorem cells_at : Tryz.prog.cellsOf 44 = 2 := by kernel_rfl
theorem cells_rule : Tryz.prog.cellsOf 72 = 11 := by kernel_rfl
theorem cells_til : Tryz.prog.cellsOf 46 = 8 := by kernel_rfl
theorem cells_era : Tryz.prog.cellsOf 48 = 13 := by kernel_rfl
theorem cells_int : Tryz.prog.cellsOf 3 = 1 := by kernel_rfl
theorem cells_str : Tryz.prog.cellsOf 9 = 1 := by kernel_rfl
theorem cells_bool : Tryz.prog.cellsOf 4 = 1 := by kernel_rfl
section
variable {H : Type} {enc : TypeId × Value → H} {w : World} {base : Nat} {spare : Nat → Bool} {held : Bool}
def inR (n : Int) : Prop := -9223372036854775808 ≤ n ∧ n ≤ 9223372036854775807
theorem leaf_int {n : Nat} {c : Value} {y : DataW H × List MemPlace} (h : DataW.trod enc Tryz.prog w base spare held n 3 [c] = some y) : ∃ a, c = intV a ∧ inR a := by
  obtain ⟨a, e, -, hw⟩ := DataW.trod_int Tryz.underlying3 h
  simp at e
  exact ⟨a, e, by unfold inR; simpa [Lit.wf, IntKind.min, IntKind.max, IntKind.signed, IntKind.bits] using hw⟩
theorem leaf_bool {n : Nat} {c : Value} {y : DataW H × List MemPlace} (h : DataW.trod enc Tryz.prog w base spare held n 4 [c] = some y) : ∃ a, c = .bool a := by
  obtain ⟨a, e, -⟩ := DataW.trod_bool Tryz.underlying4 h
  simp at e
  exact ⟨a, e⟩
theorem leaf_str {n : Nat} {c : Value} {y : DataW H × List MemPlace} (h : DataW.trod enc Tryz.prog w base spare held n 9 [c] = some y) : ∃ a : Bs, c = strV a ∧ a.length ≤ maxLen := by
  obtain ⟨s, e, -, hz⟩ := DataW.trod_string Tryz.underlying9 h
  simp at e
  exact ⟨s.data.toList, e, by rw [Array.length_toList]; exact hz⟩
theorem fld {X : Type} {fs : Array Field} {T : Field → Option X} {xs : List X} (hlen : xs.length = fs.size) (hf : ∀ (i : Nat) (f : Field), fs[i]? = some f → T f = xs[i]?) (i : Nat) (f : Field) (hi : fs[i]? = some f) : ∃ y, T f = some y := by
  have h : i < fs.size := (Array.getElem?_eq_some_iff.1 hi).1
  exact ⟨xs[i]'(by omega), (hf i f hi).trans (List.getElem?_eq_getElem _)⟩
theorem open_day {n : Nat} {c0 c1 c2 : Value} {y : DataW H × List MemPlace} (h : DataW.trod enc Tryz.prog w base spare held n 42 [c0, c1, c2] = some y) :
    ∃ x : DayL, c0 = intV x.k ∧ c1 = intV x.d ∧ c2 = intV x.w ∧ inR x.k ∧ inR x.d ∧ inR x.w := by
  obtain ⟨xs, m, -, -, -, hlen, hf⟩ := DataW.trod_struct Tryz.underlying42 h
  obtain ⟨y0, g0⟩ := fld hlen hf 0 _ rfl
  simp only [List.getElem_toArray, List.getElem_cons_zero, cells_int, List.drop_zero, List.take_succ_cons, List.take_zero] at g0
  obtain ⟨a0, e0, l0⟩ := leaf_int g0
  obtain ⟨y1, g1⟩ := fld hlen hf 1 _ rfl
  simp only [List.getElem_toArray, List.getElem_cons_zero, List.getElem_cons_succ, cells_int, List.drop_succ_cons, List.drop_zero, List.take_succ_cons, List.take_zero] at g1
  obtain ⟨a1, e1, l1⟩ := leaf_int g1
  obtain ⟨y2, g2⟩ := fld hlen hf 2 _ rfl
  simp only [List.getElem_toArray, List.getElem_cons_zero, List.getElem_cons_succ, cells_int, List.drop_succ_cons, List.drop_zero, List.take_succ_cons, List.take_zero] at g2
  obtain ⟨a2, e2, l2⟩ := leaf_int g2
  exact ⟨⟨a0, a1, a2⟩, e0, e1, e2, l0, l1, l2⟩
theorem open_at {n : Nat} {c0 c1 : Value} {y : DataW H × List MemPlace} (h : DataW.trod enc Tryz.prog w base spare held n 44 [c0, c1] = some y) :
    ∃ x : AtL, c0 = intV x.s ∧ c1 = intV x.k ∧ inR x.s ∧ inR x.k := by
  obtain ⟨xs, m, -, -, -, hlen, hf⟩ := DataW.trod_struct Tryz.underlying44 h
  obtain ⟨y0, g0⟩ := fld hlen hf 0 _ rfl
  simp only [List.getElem_toArray, List.getElem_cons_zero, cells_int, List.drop_zero, List.take_succ_cons, List.take_zero] at g0
  obtain ⟨a0, e0, l0⟩ := leaf_int g0
  obtain ⟨y1, g1⟩ := fld hlen hf 1 _ rfl
  simp only [List.getElem_toArray, List.getElem_cons_zero, List.getElem_cons_succ, cells_int, List.drop_succ_cons, List.drop_zero, List.take_succ_cons, List.take_zero] at g1
  obtain ⟨a1, e1, l1⟩ := leaf_int g1
  exact ⟨⟨a0, a1⟩, e0, e1, l0, l1⟩
theorem open_rule {n : Nat} {c0 c1 c2 c3 c4 c5 c6 c7 c8 c9 c10 : Value} {y : DataW H × List MemPlace} (h : DataW.trod enc Tryz.prog w base spare held n 72 [c0, c1, c2, c3, c4, c5, c6, c7, c8, c9, c10] = some y) :
    ∃ x : RuleL, c0 = strV x.name ∧ c1 = intV x.fr ∧ c2 = intV x.to ∧ c3 = intV x.month ∧ c4 = intV x.on.k ∧ c5 = intV x.on.d ∧ c6 = intV x.on.w ∧ c7 = intV x.at_.s ∧ c8 = intV x.at_.k ∧ c9 = intV x.save ∧ c10 = strV x.letter ∧ x.name.length ≤ maxLen ∧ inR x.fr ∧ inR x.to ∧ inR x.month ∧ inR x.on.k ∧ inR x.on.d ∧ inR x.on.w ∧ inR x.at_.s ∧ inR x.at_.k ∧ inR x.save ∧ x.letter.length ≤ maxLen := by
  obtain ⟨xs, m, -, -, -, hlen, hf⟩ := DataW.trod_struct Tryz.underlying72 h
  obtain ⟨y0, g0⟩ := fld hlen hf 0 _ rfl
  simp only [List.getElem_toArray, List.getElem_cons_zero, cells_str, List.drop_zero, List.take_succ_cons, List.take_zero] at g0
  obtain ⟨a0, e0, l0⟩ := leaf_str g0
  obtain ⟨y1, g1⟩ := fld hlen hf 1 _ rfl
  simp only [List.getElem_toArray, List.getElem_cons_zero, List.getElem_cons_succ, cells_int, List.drop_succ_cons, List.drop_zero, List.take_succ_cons, List.take_zero] at g1
  obtain ⟨a1, e1, l1⟩ := leaf_int g1
  obtain ⟨y2, g2⟩ := fld hlen hf 2 _ rfl
  simp only [List.getElem_toArray, List.getElem_cons_zero, List.getElem_cons_succ, cells_int, List.drop_succ_cons, List.drop_zero, List.take_succ_cons, List.take_zero] at g2
  obtain ⟨a2, e2, l2⟩ := leaf_int g2
  obtain ⟨y3, g3⟩ := fld hlen hf 3 _ rfl
  simp only [List.getElem_toArray, List.getElem_cons_zero, List.getElem_cons_succ, cells_int, List.drop_succ_cons, List.drop_zero, List.take_succ_cons, List.take_zero] at g3
  obtain ⟨a3, e3, l3⟩ := leaf_int g3
  obtain ⟨y4, g4⟩ := fld hlen hf 4 _ rfl
  simp only [List.getElem_toArray, List.getElem_cons_zero, List.getElem_cons_succ, cells_day, List.drop_succ_cons, List.drop_zero, List.take_succ_cons, List.take_zero] at g4
  obtain ⟨a4, e4_0, e4_1, e4_2, l4_0, l4_1, l4_2⟩ := open_day g4
  obtain ⟨y5, g5⟩ := fld hlen hf 5 _ rfl
  simp only [List.getElem_toArray, List.getElem_cons_zero, List.getElem_cons_succ, cells_at, List.drop_succ_cons, List.drop_zero, List.take_succ_cons, List.take_zero] at g5
  obtain ⟨a5, e5_0, e5_1, l5_0, l5_1⟩ := open_at g5
  obtain ⟨y6, g6⟩ := fld hlen hf 6 _ rfl
  simp only [List.getElem_toArray, List.getElem_cons_zero, List.getElem_cons_succ, cells_int, List.drop_succ_cons, List.drop_zero, List.take_succ_cons, List.take_zero] at g6
  obtain ⟨a6, e6, l6⟩ := leaf_int g6
  obtain ⟨y7, g7⟩ := fld hlen hf 7 _ rfl
  simp only [List.getElem_toArray, List.getElem_cons_zero, List.getElem_cons_succ, cells_str, List.drop_succ_cons, List.drop_zero, List.take_succ_cons, List.take_zero] at g7
  obtain ⟨a7, e7, l7⟩ := leaf_str g7
  exact ⟨⟨a0, a1, a2, a3, a4, a5, a6, a7⟩, e0, e1, e2, e3, e4_0, e4_1, e4_2, e5_0, e5_1, e6, e7, l0, l1, l2, l3, l4_0, l4_1, l4_2, l5_0, l5_1, l6, l7⟩
theorem open_til {n : Nat} {c0 c1 c2 c3 c4 c5 c6 c7 : Value} {y : DataW H × List MemPlace} (h : DataW.trod enc Tryz.prog w base spare held n 46 [c0, c1, c2, c3, c4, c5, c6, c7] = some y) :
    ∃ x : UntilL, c0 = .bool x.has ∧ c1 = intV x.year ∧ c2 = intV x.month ∧ c3 = intV x.on.k ∧ c4 = intV x.on.d ∧ c5 = intV x.on.w ∧ c6 = intV x.at_.s ∧ c7 = intV x.at_.k ∧ inR x.year ∧ inR x.month ∧ inR x.on.k ∧ inR x.on.d ∧ inR x.on.w ∧ inR x.at_.s ∧ inR x.at_.k := by
  obtain ⟨xs, m, -, -, -, hlen, hf⟩ := DataW.trod_struct Tryz.underlying46 h
  obtain ⟨y0, g0⟩ := fld hlen hf 0 _ rfl
  simp only [List.getElem_toArray, List.getElem_cons_zero, cells_bool, List.drop_zero, List.take_succ_cons, List.take_zero] at g0
  obtain ⟨a0, e0⟩ := leaf_bool g0
  obtain ⟨y1, g1⟩ := fld hlen hf 1 _ rfl
  simp only [List.getElem_toArray, List.getElem_cons_zero, List.getElem_cons_succ, cells_int, List.drop_succ_cons, List.drop_zero, List.take_succ_cons, List.take_zero] at g1
  obtain ⟨a1, e1, l1⟩ := leaf_int g1
  obtain ⟨y2, g2⟩ := fld hlen hf 2 _ rfl
  simp only [List.getElem_toArray, List.getElem_cons_zero, List.getElem_cons_succ, cells_int, List.drop_succ_cons, List.drop_zero, List.take_succ_cons, List.take_zero] at g2
  obtain ⟨a2, e2, l2⟩ := leaf_int g2
  obtain ⟨y3, g3⟩ := fld hlen hf 3 _ rfl
  simp only [List.getElem_toArray, List.getElem_cons_zero, List.getElem_cons_succ, cells_day, List.drop_succ_cons, List.drop_zero, List.take_succ_cons, List.take_zero] at g3
  obtain ⟨a3, e3_0, e3_1, e3_2, l3_0, l3_1, l3_2⟩ := open_day g3
  obtain ⟨y4, g4⟩ := fld hlen hf 4 _ rfl
  simp only [List.getElem_toArray, List.getElem_cons_zero, List.getElem_cons_succ, cells_at, List.drop_succ_cons, List.drop_zero, List.take_succ_cons, List.take_zero] at g4
  obtain ⟨a4, e4_0, e4_1, l4_0, l4_1⟩ := open_at g4
  exact ⟨⟨a0, a1, a2, a3, a4⟩, e0, e1, e2, e3_0, e3_1, e3_2, e4_0, e4_1, l1, l2, l3_0, l3_1, l3_2, l4_0, l4_1⟩
theorem open_era {n : Nat} {c0 c1 c2 c3 c4 c5 c6 c7 c8 c9 c10 c11 c12 : Value} {y : DataW H × List MemPlace} (h : DataW.trod enc Tryz.prog w base spare held n 48 [c0, c1, c2, c3, c4, c5, c6, c7, c8, c9, c10, c11, c12] = some y) :
    ∃ x : EraL, c0 = intV x.off ∧ c1 = intV x.kind ∧ c2 = intV x.save ∧ c3 = strV x.rules ∧ c4 = strV x.format ∧ c5 = .bool x.til.has ∧ c6 = intV x.til.year ∧ c7 = intV x.til.month ∧ c8 = intV x.til.on.k ∧ c9 = intV x.til.on.d ∧ c10 = intV x.til.on.w ∧ c11 = intV x.til.at_.s ∧ c12 = intV x.til.at_.k ∧ inR x.off ∧ inR x.kind ∧ inR x.save ∧ x.rules.length ≤ maxLen ∧ x.format.length ≤ maxLen ∧ inR x.til.year ∧ inR x.til.month ∧ inR x.til.on.k ∧ inR x.til.on.d ∧ inR x.til.on.w ∧ inR x.til.at_.s ∧ inR x.til.at_.k := by
  obtain ⟨xs, m, -, -, -, hlen, hf⟩ := DataW.trod_struct Tryz.underlying48 h
  obtain ⟨y0, g0⟩ := fld hlen hf 0 _ rfl
  simp only [List.getElem_toArray, List.getElem_cons_zero, cells_int, List.drop_zero, List.take_succ_cons, List.take_zero] at g0
  obtain ⟨a0, e0, l0⟩ := leaf_int g0
  obtain ⟨y1, g1⟩ := fld hlen hf 1 _ rfl
  simp only [List.getElem_toArray, List.getElem_cons_zero, List.getElem_cons_succ, cells_int, List.drop_succ_cons, List.drop_zero, List.take_succ_cons, List.take_zero] at g1
  obtain ⟨a1, e1, l1⟩ := leaf_int g1
  obtain ⟨y2, g2⟩ := fld hlen hf 2 _ rfl
  simp only [List.getElem_toArray, List.getElem_cons_zero, List.getElem_cons_succ, cells_int, List.drop_succ_cons, List.drop_zero, List.take_succ_cons, List.take_zero] at g2
  obtain ⟨a2, e2, l2⟩ := leaf_int g2
  obtain ⟨y3, g3⟩ := fld hlen hf 3 _ rfl
  simp only [List.getElem_toArray, List.getElem_cons_zero, List.getElem_cons_succ, cells_str, List.drop_succ_cons, List.drop_zero, List.take_succ_cons, List.take_zero] at g3
  obtain ⟨a3, e3, l3⟩ := leaf_str g3
  obtain ⟨y4, g4⟩ := fld hlen hf 4 _ rfl
  simp only [List.getElem_toArray, List.getElem_cons_zero, List.getElem_cons_succ, cells_str, List.drop_succ_cons, List.drop_zero, List.take_succ_cons, List.take_zero] at g4
  obtain ⟨a4, e4, l4⟩ := leaf_str g4
  obtain ⟨y5, g5⟩ := fld hlen hf 5 _ rfl
  simp only [List.getElem_toArray, List.getElem_cons_zero, List.getElem_cons_succ, cells_til, List.drop_succ_cons, List.drop_zero, List.take_succ_cons, List.take_zero] at g5
  obtain ⟨a5, e5_0, e5_1, e5_2, e5_3, e5_4, e5_5, e5_6, e5_7, l5_0, l5_1, l5_2, l5_3, l5_4, l5_5, l5_6⟩ := open_til g5
  exact ⟨⟨a0, a1, a2, a3, a4, a5⟩, e0, e1, e2, e3, e4, e5_0, e5_1, e5_2, e5_3, e5_4, e5_5, e5_6, e5_7, l0, l1, l2, l3, l4, l5_0, l5_1, l5_2, l5_3, l5_4, l5_5, l5_6⟩
end
end Go.Proofs.YtghcfmoagkimaaaGreatDoor
namespace Go.Proofs.YtghcfmoagkimaaaGreatDoor
open Go.RowKit Go.Mem Go.Lin Go.WideShapes Go.Xpd

/- rules in their cells -/
def ruleA11 (r : RuleL) : List Value := (ruleC r).toList
theorem ruleA11_len (r : RuleL) : (ruleA11 r).length = 11 := rfl
instance : Inhabited RuleL := ⟨⟨[], 0, 0, 0, ⟨0, 0, 0⟩, ⟨0, 0⟩, 0, []⟩⟩
/-- numbers that an int can be, texts that a string can be -/
structure RuR (r : RuleL) : Prop where
  name : r.name.length ≤ maxLen
  fr : inR r.fr
  to : inR r.to
  month : inR r.month
  k : inR r.on.k
  d : inR r.on.d
  w : inR r.on.w
  s : inR r.at_.s
  tk : inR r.at_.k
  save : inR r.save
  letter : r.letter.length ≤ maxLen
/-- a slice of rules -/
def RusAt (w : World) (A : Option Addr) (l : List RuleL) : Prop := Rd w 11 A l.length (l.flatMap ruleA11)
theorem RusAt.kept {w w' : World} {A : Option Addr} {l : List RuleL} (h : RusAt w A l) (hf : Fr w w' (fun _ => False)) : RusAt w' A l := Rd.fr h hf (fun _ _ _ _ h => h)
/-- the cells of a rule -/
theorem RusAt.at_ {w : World} {A : Option Addr} {l : List RuleL} (h : RusAt w A l) {i : Nat} {r : RuleL} (hr : l[i]? = some r) : ∃ b off, A = some ⟨b, off, none⟩ ∧ ∀ j, j < (ruleC r).size → w.cell? ⟨b, off + i * 11 + j, none⟩ = (ruleC r)[j]? := by
  obtain ⟨b, off, e, hc⟩ := rows_at ruleA11_len h hr
  refine ⟨b, off, e, fun j hj => ?_⟩
  rw [hc j hj]
  show (ruleC r).toList[j]? = _
  simp
theorem array11 {α : Type} {cs : Array α} (h : cs.size = 11) : ∃ c0 c1 c2 c3 c4 c5 c6 c7 c8 c9 c10, cs = #[c0, c1, c2, c3, c4, c5, c6, c7, c8, c9, c10] := by
  obtain ⟨l⟩ := cs
  match l, h with
  | [c0, c1, c2, c3, c4, c5, c6, c7, c8, c9, c10], _ => exact ⟨c0, c1, c2, c3, c4, c5, c6, c7, c8, c9, c10, rfl⟩
/-- a slice of rules that came in -/
theorem rules_in {H : Type} {enc : TypeId × Value → H} {w : World} {base fuel : Nat} {spare : Nat → Bool} {held : Bool} {a : Option Addr} {len cap : Nat} {x : DataW H × List MemPlace}
    (h : DataW.trod enc Tryz.prog w base spare held fuel 51 [Value.slice a len cap] = some x) :
    ∃ l : List RuleL, RusAt w a l ∧ l.length = len ∧ len ≤ maxLen ∧ ∀ r ∈ l, RuR r := by
  rcases Go.Deep.open_slice Tryz.underlying51 h with ⟨hcs, -⟩ | ⟨ad, l, c, m, n, D, Pl, hcs, hb, hl, hm, hmm, hx, hi⟩
  · simp at hcs
    obtain ⟨rfl, rfl, rfl⟩ := hcs
    exact ⟨[], ⟨rfl, fun h => absurd h (by simp)⟩, rfl, Nat.zero_le _, by simp⟩
  · simp at hcs
    obtain ⟨rfl, rfl, rfl⟩ := hcs
    have hlm : len ≤ m := by rw [hmm]; split <;> omega
    rw [cells_rule] at hi
    have each : ∀ i, i < len → ∃ e : RuleL, (∀ j, j < 11 → w.cell? (ad.add (i * 11 + j)) = (ruleA11 e)[j]?) ∧ RuR e := by
      intro i hlt
      obtain ⟨cs, h1, h2⟩ := hi i (by omega)
      obtain ⟨-, hlen, hat⟩ := World.cells?_some h1
      obtain ⟨c0, c1, c2, c3, c4, c5, c6, c7, c8, c9, c10, e⟩ := array11 (cs := cs.toArray) (by simpa using hlen)
      have e : cs = [c0, c1, c2, c3, c4, c5, c6, c7, c8, c9, c10] := by simpa using congrArg Array.toList e
      subst e
      obtain ⟨x, e0, e1, e2, e3, e4, e5, e6, e7, e8, e9, e10, l0, l1, l2, l3, l4, l5, l6, l7, l8, l9, l10⟩ := open_rule h2
      subst e0 e1 e2 e3 e4 e5 e6 e7 e8 e9 e10
      refine ⟨x, fun j hj => ?_, l0, l1, l2, l3, l4, l5, l6, l7, l8, l9, l10⟩
      have k := hat j hj
      rw [Go.Deep.add_add] at k
      exact k
    obtain ⟨f, hf⟩ := Go.Deep.choose_lt each
    refine ⟨(List.range len).map f, ⟨?_, fun hpos => ?_⟩, by simp, by omega, fun r hr => ?_⟩
    · rw [flat_len ruleA11 11 ruleA11_len]
    · rw [List.length_map, List.length_range] at hpos
      have h0 := (hf 0 hpos).1 0 (by omega)
      obtain ⟨b, off, rfl⟩ : ∃ b off, ad = ⟨b, off, none⟩ := by
        obtain ⟨b, off, spot⟩ := ad
        cases spot with
        | none => exact ⟨b, off, rfl⟩
        | some s =>
          exfalso
          have h0 : w.cell? ((⟨b, off, some s⟩ : Addr).add (0 * 11 + 0)) = some (strV (f 0).name) := h0
          simp [Addr.add, World.cell?] at h0
          split at h0 <;> simp at h0
      have hadd : ∀ j, (⟨b, off, none⟩ : Addr).add j = ⟨b, off + j, none⟩ := fun j => by unfold Addr.add; split <;> simp_all
      refine ⟨b, off, rfl, fun j u hu => ?_⟩
      have hj : j < len * 11 := by
        have := (List.getElem?_eq_some_iff.1 hu).1
        rw [flat_len ruleA11 11 ruleA11_len, List.length_map, List.length_range] at this
        exact this
      have h1 : ((List.range len).map f)[j / 11]? = some (f (j / 11)) := by
        rw [List.getElem?_map, List.getElem?_range (by omega)]
        rfl
      have h2 := flat_get ruleA11 11 ruleA11_len h1 (j % 11) (Nat.mod_lt _ (by omega))
      rw [show j / 11 * 11 + j % 11 = j by omega] at h2
      have h3 := (hf (j / 11) (by omega)).1 (j % 11) (Nat.mod_lt _ (by omega))
      rw [hadd, show j / 11 * 11 + j % 11 = j by omega] at h3
      rw [h3, ← h2, hu]
    · obtain ⟨i, hi, rfl⟩ := List.mem_map.1 hr
      exact (hf i (by simpa using hi)).2
end Go.Proofs.YtghcfmoagkimaaaGreatDoor
namespace Go.Proofs.YtghcfmoagkimaaaGreatDoor.S6
open Go.RowKit Go.Mem Go.Civil

theorem rLeap_any (y : Int) (w : World) : Calls Tryz.prog 104 #[.int .i64 y] w fun e w' => e = .returned (.bool (leapB y)) ∧ w = w' := by
  go_enter Tryz.func104, Tryz.ntmps104
  go_wp2_with fail
  all_goals
    go_ret
    refine leap_ret ?_
    simp_all [leapB, tmod_zero, tests]
    try (rw [Bool.eq_iff_iff]; simp; omega)
theorem rLong_any (y m : Int) (w : World) : Calls Tryz.prog 73 #[.int .i64 y, .int .i64 m] w fun e w' => e = .returned (.int .i64 (longI y m)) ∧ w = w' := by
  obtain ⟨x, hx⟩ : ∃ x, longI y m = x := ⟨_, rfl⟩
  rw [hx]
  have HL := Lib.hid (rLeap_any y)
  by_cases h2 : m = 2
  · subst h2
    by_cases hl : leapB y = true
    · have e : x = 29 := by rw [← hx]; unfold longI leapI; rw [if_pos rfl, if_pos hl]; rfl
      subst e
      rw [hl] at HL
      clear hx
      go_enter Tryz.func73, Tryz.ntmps73
      go_wp2_with fail
      refine (HL.out _).mono ?_
      rintro e w' ⟨rfl, rfl⟩
      go_wp2_with fail
      go_ret
      exact ⟨rfl, rfl⟩
    · simp only [Bool.not_eq_true] at hl
      have e : x = 28 := by rw [← hx]; unfold longI leapI; rw [if_pos rfl, hl]; rfl
      subst e
      rw [hl] at HL
      clear hx
      go_enter Tryz.func73, Tryz.ntmps73
      go_wp2_with fail
      refine (HL.out _).mono ?_
      rintro e w' ⟨rfl, rfl⟩
      go_wp2_with fail
      go_ret
      exact ⟨rfl, rfl⟩
  · have HX := Lib.hid hx
    clear HL hx
    go_enter Tryz.func73, Tryz.ntmps73
    go_wp2_with fail
    all_goals
      go_ret
      refine ret_int ?_
      have hx := HX.out
      unfold longI at hx
      simp only [beq_iff_eq, beq_eq_false_iff_ne, ne_eq] at *
      omega
theorem rRight_any (y m d : Int) (w : World) : Calls Tryz.prog 101 #[.int .i64 y, .int .i64 m, .int .i64 d] w fun e w' => e = .returned (.bool (rightB y m d)) ∧ w = w' := by
  have HL := Lib.hid (rLong_any y m w)
  have HB := Lib.hid (rightB_iff (y := y) (m := m) (d := d))
  generalize rightB y m d = b at HB ⊢
  generalize longI y m = L at HB HL
  go_enter Tryz.func101, Tryz.ntmps101
  go_wp2_with fail
  all_goals first
    | (refine HL.out.mono ?_
       rintro e w' ⟨rfl, rfl⟩
       go_wp2_with fail
       all_goals
         go_ret
         refine ret_bool ?_
         have hb := HB.out
         rw [Bool.eq_iff_iff, hb]
         simp
         omega)
    | (go_ret
       refine ret_bool ?_
       have hb := HB.out
       rw [Bool.eq_iff_iff, hb]
       simp
       try omega)
end Go.Proofs.YtghcfmoagkimaaaGreatDoor.S6
namespace Go.Proofs.YtghcfmoagkimaaaGreatDoor.S6
open Go.RowKit Go.Mem Go.Civil

theorem rYear_any (y : Int) (w : World) (hy : -9999 ≤ y ∧ y ≤ 10000) : Calls Tryz.prog 72 #[.int .i64 y] w fun e w' => e = .returned (.int .i64 (begD y)) ∧ w = w' := by
  go_enter Tryz.func72, Tryz.ntmps72
  go_wp2_with fail
  go_loop [3, 4] (fun v2 v3 => ∃ a : Int, 1970 ≤ a ∧ (a ≤ y ∨ a = 1970) ∧ v2 = .int .i64 (begD a) ∧ v3 = .int .i64 a) (fun _ v3 => (y - intOf v3).toNat)
  case atStart => exact ⟨1970, by omega, by omega, by rw [begD_0], rfl⟩
  case round =>
    obtain ⟨a, ha, ha2, rfl, rfl⟩ := hrel
    have hbr := begD_range (y := a) (by omega)
    by_cases hlt : a + 400 ≤ y
    · have HS := Lib.hid (begD_add a)
      generalize begD a = B at *
      go_wp2_with fail
      go_round
      case rel => exact ⟨a + 400, by omega, by omega, by rw [HS.out], rfl⟩
      case measure => simp [intOf]; omega
    · have hlo : y < a + 400 := by omega
      clear hlt ha
      have ha3 : a ≤ 10000 := by omega
      clear ha2 hbr
      go_wp2_with fail
      go_loop [3, 4] (fun v3 v4 => ∃ a : Int, y < a + 400 ∧ a ≤ 10000 ∧ v3 = .int .i64 (begD a) ∧ v4 = .int .i64 a) (fun _ v4 => (intOf v4 - y).toNat)
      case atStart => exact ⟨a, hlo, ha3, rfl, rfl⟩
      case round =>
        obtain ⟨b, hb, hb2, rfl, rfl⟩ := hrel
        clear hlo ha3
        have hbr := begD_wide (y := b) (by omega)
        by_cases hlt : y < b
        · have HS := Lib.hid (begD_sub b)
          generalize begD b = B at *
          go_wp2_with fail
          go_round
          case rel => exact ⟨b - 400, by omega, by omega, by rw [HS.out], rfl⟩
          case measure => simp [intOf]; omega
        · have hle : b ≤ y := by omega
          clear hlt hb2 hbr
          go_wp2_with fail
          go_loop [3, 4] (fun v3 v4 => ∃ a : Int, y < a + 400 ∧ a ≤ y ∧ v3 = .int .i64 (begD a) ∧ v4 = .int .i64 a) (fun _ v4 => (y - intOf v4).toNat)
          case atStart => exact ⟨b, hb, hle, rfl, rfl⟩
          case round =>
            obtain ⟨c, hc, hc2, rfl, rfl⟩ := hrel
            clear hb hle
            have hbr := begD_wide (y := c) (by omega)
            by_cases hlt : c < y
            · have hs := begD_succ c
              unfold leapI at hs
              have HS := Lib.hid hs
              clear hs
              have HL := Lib.hid (rLeap_any c w)
              generalize begD c = B at *
              generalize leapB c = L at *
              go_wp2_with fail
              refine HL.out.mono ?_
              rintro e w' ⟨rfl, rfl⟩
              cases L
              · go_wp2_with fail
                go_round
                case rel => exact ⟨c + 1, by omega, by omega, by rw [HS.out]; simp, rfl⟩
                case measure => simp [intOf]; omega
              · go_wp2_with fail
                go_round
                case rel => exact ⟨c + 1, by omega, by omega, by rw [HS.out]; simp, rfl⟩
                case measure => simp [intOf]; omega
            · obtain rfl : c = y := by omega
              go_wp2_with fail
              go_ret
              exact ⟨rfl, rfl⟩
end Go.Proofs.YtghcfmoagkimaaaGreatDoor.S6
