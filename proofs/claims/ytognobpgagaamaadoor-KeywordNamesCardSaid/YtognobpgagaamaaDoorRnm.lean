import Derived.Test.YtognobpgagaamaaDoorZon
namespace Go.Proofs.YtognobpgagaamaaDoor
open Go.RowKit Go.Mem Go.Kwd

theorem rdigit_any (c : UInt8) (w : World) : Calls Tryd.prog 40 #[.int .u8 (c.toNat : Int)] w fun e w' => e = .returned (.bool (digitB c)) ∧ w = w' := by
  have HX := Lib.hid (show digitB c = (decide ((48 : Int) ≤ (c.toNat : Int)) && decide ((c.toNat : Int) ≤ 57)) by unfold digitB; congr 1 <;> simp <;> omega)
  obtain ⟨x, hx⟩ : ∃ x, digitB c = x := ⟨_, rfl⟩
  rw [hx] at HX ⊢
  generalize (c.toNat : Int) = n at *
  clear hx
  by_cases h1 : (48 : Int) ≤ n
  all_goals by_cases h2 : n ≤ 57
  all_goals
    go_enter Tryd.func40, Tryd.ntmps40
    go_wp2_with fail
    go_ret
    exact ⟨by rw [HX.out]; simp [h1, h2], rfl⟩
theorem rletter_any (c : UInt8) (w : World) : Calls Tryd.prog 39 #[.int .u8 (c.toNat : Int)] w fun e w' => e = .returned (.bool (letterB c)) ∧ w = w' := by
  have HX := Lib.hid (show letterB c = ((decide ((97 : Int) ≤ (c.toNat : Int)) && decide ((c.toNat : Int) ≤ 122)) || (decide ((65 : Int) ≤ (c.toNat : Int)) && decide ((c.toNat : Int) ≤ 90))) by
    unfold letterB
    have h : ∀ k m : Nat, decide (k ≤ m) = decide ((k : Int) ≤ (m : Int)) := fun k m => by rw [Bool.eq_iff_iff]; simp
    rw [h, h, h, h]
    rfl)
  obtain ⟨x, hx⟩ : ∃ x, letterB c = x := ⟨_, rfl⟩
  rw [hx] at HX ⊢
  generalize (c.toNat : Int) = n at *
  clear hx
  by_cases h1 : (97 : Int) ≤ n
  all_goals by_cases h2 : n ≤ 122
  all_goals by_cases h3 : (65 : Int) ≤ n
  all_goals by_cases h4 : n ≤ 90
  all_goals first | omega | skip
  all_goals
    go_enter Tryd.func39, Tryd.ntmps39
    go_wp2_with fail
    all_goals
      go_ret
      exact ⟨by rw [HX.out]; simp [h1, h2, h3, h4], rfl⟩
/-- the law for two tests of a byte -/
theorem bools_of (c : UInt8) : ((c.toNat : Int) == 47) = (c == 47) ∧ ((c.toNat : Int) == 43) = (c == 43) ∧ ((c.toNat : Int) == 95) = (c == 95) ∧ ((c.toNat : Int) == 45) = (c == 45) :=
  ⟨(eq_byte c 47).symm, (eq_byte c 43).symm, (eq_byte c 95).symm, (eq_byte c 45).symm⟩
end Go.Proofs.YtognobpgagaamaaDoor
