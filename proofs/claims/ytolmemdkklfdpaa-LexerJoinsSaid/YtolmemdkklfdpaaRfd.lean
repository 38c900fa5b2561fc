import Derived.Test.YtolmemdkklfdpaaAli
namespace Go.Proofs.Ytolmemdkklfdpaa
open Go.RowKit Go.Mem Go.Lxr

theorem white_lt (c : UInt8) : whiteB c = (((c.toNat : Int) == 32) || (decide (9 ≤ (c.toNat : Int)) && decide ((c.toNat : Int) ≤ 13))) := by
  have h : ∀ k : Fin 256, whiteB (UInt8.ofNat k.val) = ((((UInt8.ofNat k.val).toNat : Int) == 32) || (decide (9 ≤ ((UInt8.ofNat k.val).toNat : Int)) && decide (((UInt8.ofNat k.val).toNat : Int) ≤ 13))) := by decide +kernel
  have := h ⟨c.toNat, c.toNat_lt⟩
  simpa using this
theorem rwhite_any (c : UInt8) (w : World) (x : Bool) (hx : whiteB c = x) : Calls Try.prog 19 #[.int .u8 (c.toNat : Int)] w fun e w' => e = .returned (.bool x) ∧ w = w' := by
  rw [white_lt] at hx
  by_cases h1 : (c.toNat : Int) = 32
  · have h1' : ((c.toNat : Int) == 32) = true := by simpa using h1
    rw [h1'] at hx
    have hx : x = true := hx.symm
    subst hx
    clear h1
    go_enter Try.func19, Try.ntmps19
    go_wp2_with fail
    go_ret
    exact ⟨rfl, rfl⟩
  · have h1' : ((c.toNat : Int) == 32) = false := by simpa using h1
    rw [h1', Bool.false_or] at hx
    by_cases h2 : 9 ≤ (c.toNat : Int)
    · have h2' : decide (9 ≤ (c.toNat : Int)) = true := decide_eq_true h2
      by_cases h3 : (c.toNat : Int) ≤ 13
      · rw [h2', decide_eq_true h3] at hx
        have hx : x = true := hx.symm
        subst hx
        clear h1
        go_enter Try.func19, Try.ntmps19
        go_wp2_with fail
        go_ret
        exact ⟨rfl, rfl⟩
      · rw [h2', decide_eq_false h3] at hx
        have hx : x = false := hx.symm
        subst hx
        clear h1
        go_enter Try.func19, Try.ntmps19
        go_wp2_with fail
        go_ret
        exact ⟨rfl, rfl⟩
    · rw [decide_eq_false h2] at hx
      have hx : x = false := hx.symm
      subst hx
      clear h1
      go_enter Try.func19, Try.ntmps19
      go_wp2_with fail
      go_ret
      exact ⟨rfl, rfl⟩
end Go.Proofs.Ytolmemdkklfdpaa
