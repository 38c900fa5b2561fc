import Derived.Test.YtofabgllfjmaaaaDoorProg
import Derived.Test.YtofabgllfjmaaaaDoorMem
import Derived.Test.YtofabgllfjmaaaaDoorCpl
import Derived.Lib.Hide
import Derived.IntWalk
import Derived.LoopTactic
namespace Go.Proofs.YtofabgllfjmaaaaDoor
open Go.RowKit Go.Mem Go.Civil

def lenTab : List Int := [31, 28, 31, 30, 31, 30, 31, 31, 30, 31, 30, 31]
/-- the months' lengths stand where the program's text lays them -/
def LOk (w : World) : Prop := ∀ i, i < 12 → w.cell? ⟨2, i, none⟩ = some (.int .i64 (lenTab.getD i 0))
theorem LOk.fr {w w' : World} (h : LOk w) (f : Fr w w' (fun _ => False)) : LOk w' := by
  intro i hi
  have h0 := h i hi
  have hlt : 2 < w.heap.size := by
    rcases Nat.lt_or_ge 2 w.heap.size with h' | h'
    · exact h'
    · simp [World.cell?, Array.getElem?_eq_none h'] at h0
  rw [← h0]
  unfold World.cell?
  rw [f.block _ hlt (fun h => h)]
theorem lenTab_long {y : Int} {k : Nat} (h : 1 ≤ k ∧ k ≤ 12) : lenTab.getD (k - 1) 0 = longI y k - (if k = 2 then leapI y else 0) := by
  have : k = 1 ∨ k = 2 ∨ k = 3 ∨ k = 4 ∨ k = 5 ∨ k = 6 ∨ k = 7 ∨ k = 8 ∨ k = 9 ∨ k = 10 ∨ k = 11 ∨ k = 12 := by omega
  rcases this with rfl | rfl | rfl | rfl | rfl | rfl | rfl | rfl | rfl | rfl | rfl | rfl <;> simp [lenTab, longI] <;> omega
def inRange (n : Int) : Prop := -9223372036854775808 ≤ n ∧ n ≤ 9223372036854775807
theorem tmod_zero {y c : Int} : y.tmod c = 0 ↔ y % c = 0 := by
  rw [← Int.dvd_iff_tmod_eq_zero, Int.dvd_iff_emod_eq_zero]
theorem tests (y c : Int) : (y.tmod c == 0) = (y % c == 0) := by
  rw [Bool.eq_iff_iff]; simp [tmod_zero]

theorem leap_ret {y : Int} {b : Bool} {w : World} (h : b = leapB y) : Ending.returned (.bool b) = .returned (.bool (leapB y)) ∧ w = w := ⟨by rw [h], rfl⟩
theorem Leap_any (y : Int) (w : World) : Calls Tryd.prog 27 #[.int .i64 y] w fun e w' => e = .returned (.bool (leapB y)) ∧ w = w' := by
  go_enter Tryd.func27, Tryd.ntmps27
  go_wp2_with fail
  all_goals
    go_ret
    refine leap_ret ?_
    simp_all [leapB, tmod_zero, tests]
theorem Long_any (y m : Int) (w : World) (hg : LOk w) : Calls Tryd.prog 13 #[.int .i64 y, .int .i64 m] w fun e w' => e = .returned (.int .i64 (longI y m)) ∧ w = w' := by
  by_cases h : 1 ≤ m ∧ m ≤ 12
  · obtain ⟨k, rfl⟩ : ∃ k : Nat, m = (k : Int) := ⟨m.toNat, by omega⟩
    obtain ⟨j, rfl⟩ : ∃ j : Nat, k = j + 1 := ⟨k - 1, by omega⟩
    have hc := hg j (by omega)
    have ht := lenTab_long (y := y) (k := j + 1) (by omega)
    rw [show j + 1 - 1 = j from rfl] at ht
    rw [ht] at hc
    have hle := longI_le y ((j + 1 : Nat) : Int)
    clear hg ht
    push_cast at *
    obtain ⟨x, hx⟩ : ∃ x, longI y ((j : Int) + 1) = x := ⟨_, rfl⟩
    rw [hx] at hc hle ⊢
    by_cases h2 : j + 1 = 2
    · obtain rfl : j = 1 := by omega
      have HL := Lib.hid (Leap_any y)
      by_cases hl : leapB y = true
      · have e : leapI y = 1 := by unfold leapI; rw [if_pos hl]
        rw [hl] at HL
        rw [if_pos rfl, e] at hc
        clear hx
        go_enter Tryd.func13, Tryd.ntmps13
        go_wp2_with fail
        refine (HL.out _).mono ?_
        rintro e w' ⟨rfl, rfl⟩
        go_wp2_with fail
        go_ret
        exact ⟨by congr <;> omega, rfl⟩
      · simp only [Bool.not_eq_true] at hl
        have e : leapI y = 0 := by unfold leapI; rw [hl]; rfl
        rw [hl] at HL
        rw [if_pos rfl, e] at hc
        clear hx
        go_enter Tryd.func13, Tryd.ntmps13
        go_wp2_with fail
        refine (HL.out _).mono ?_
        rintro e w' ⟨rfl, rfl⟩
        go_wp2_with fail
        go_ret
        exact ⟨by congr <;> omega, rfl⟩
    · rw [if_neg (by omega)] at hc
      have n2 : (((j : Int) + 1) == 2) = false := by simp; omega
      clear hx
      go_enter Tryd.func13, Tryd.ntmps13
      go_wp2_with fail
      go_ret
      exact ⟨by congr <;> omega, rfl⟩
  · have e : longI y m = 0 := by
      unfold longI
      rw [if_neg (by omega), if_neg (by omega), if_neg h]
    rw [e]
    clear hg e
    by_cases h1 : m < 1
    · go_enter Tryd.func13, Tryd.ntmps13
      go_wp2_with fail
      go_ret
      exact ⟨rfl, rfl⟩
    · have h2 : m > 12 := by omega
      clear h
      go_enter Tryd.func13, Tryd.ntmps13
      go_wp2_with fail
      go_ret
      exact ⟨rfl, rfl⟩
end Go.Proofs.YtofabgllfjmaaaaDoor
