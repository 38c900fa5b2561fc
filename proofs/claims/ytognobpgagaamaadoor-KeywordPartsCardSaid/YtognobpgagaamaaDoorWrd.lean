import Derived.Test.YtognobpgagaamaaDoorCom
namespace Go.Proofs.YtognobpgagaamaaDoor
open Go.RowKit Go.Mem Go.Kwd

theorem low_great {c : UInt8} (h1 : 65 ≤ (c.toNat : Int)) (h2 : (c.toNat : Int) ≤ 90) : ((lowB c).toNat : Int) = (c.toNat : Int) + 32 := by
  have H : ∀ k : Fin 256, 65 ≤ (UInt8.ofNat k.val).toNat ∧ (UInt8.ofNat k.val).toNat ≤ 90 → (lowB (UInt8.ofNat k.val)).toNat = (UInt8.ofNat k.val).toNat + 32 := by decide +kernel
  have := H ⟨c.toNat, c.toNat_lt⟩
  simp only [UInt8.ofNat_toNat] at this
  have := this (by omega)
  omega
theorem low_else {c : UInt8} (h : (c.toNat : Int) < 65 ∨ 90 < (c.toNat : Int)) : lowB c = c := by
  unfold lowB
  rw [if_neg (by omega)]
theorem small_any (c : UInt8) (w : World) : Calls Tryd.prog 52 #[.int .u8 (c.toNat : Int)] w fun e w' => e = .returned (.int .u8 ((lowB c).toNat : Int)) ∧ w = w' := by
  by_cases h : 65 ≤ (c.toNat : Int) ∧ (c.toNat : Int) ≤ 90
  · have HE := Lib.hid (low_great h.1 h.2)
    obtain ⟨h1, h2⟩ := h
    obtain ⟨z, hz⟩ : ∃ z : Int, z = ((lowB c).toNat : Int) := ⟨_, rfl⟩
    rw [← hz]
    have HZ := Lib.hid hz
    generalize (c.toNat : Int) = n at *
    clear hz
    go_enter Tryd.func52, Tryd.ntmps52
    go_wp2_with fail
    go_ret
    refine ⟨?_, rfl⟩
    have : z = n + 32 := by rw [HZ.out, HE.out]
    subst this
    simp
    omega
  · have h' : (c.toNat : Int) < 65 ∨ 90 < (c.toNat : Int) := by omega
    rw [low_else h']
    have hb := byte_lt c
    have h0 : (0 : Int) ≤ (c.toNat : Int) := by omega
    generalize (c.toNat : Int) = n at *
    clear h
    rcases h' with h' | h'
    · go_enter Tryd.func52, Tryd.ntmps52
      go_wp2_with fail
      go_ret
      exact ⟨rfl, rfl⟩
    · go_enter Tryd.func52, Tryd.ntmps52
      go_wp2_with fail
      go_ret
      exact ⟨rfl, rfl⟩

theorem isDigit_any (c : UInt8) (w : World) : Calls Tryd.prog 51 #[.int .u8 (c.toNat : Int)] w fun e w' => e = .returned (.bool (digitB c)) ∧ w = w' := by
  have HX := Lib.hid (show digitB c = (decide ((48 : Int) ≤ (c.toNat : Int)) && decide ((c.toNat : Int) ≤ 57)) by unfold digitB; congr 1 <;> simp <;> omega)
  obtain ⟨x, hx⟩ : ∃ x, digitB c = x := ⟨_, rfl⟩
  rw [hx] at HX ⊢
  generalize (c.toNat : Int) = n at *
  clear hx
  by_cases h1 : (48 : Int) ≤ n
  all_goals by_cases h2 : n ≤ 57
  all_goals
    go_enter Tryd.func51, Tryd.ntmps51
    go_wp2_with fail
    go_ret
    exact ⟨by rw [HX.out]; simp [h1, h2], rfl⟩
theorem letter_low (c : UInt8) : letterB c = (decide ((97 : Int) ≤ ((lowB c).toNat : Int)) && decide (((lowB c).toNat : Int) ≤ 122)) := by
  have H : ∀ k : Fin 256, letterB (UInt8.ofNat k.val) = (decide (97 ≤ (lowB (UInt8.ofNat k.val)).toNat) && decide ((lowB (UInt8.ofNat k.val)).toNat ≤ 122)) := by decide +kernel
  have := H ⟨c.toNat, c.toNat_lt⟩
  simp only [UInt8.ofNat_toNat] at this
  rw [this]
  congr 1 <;> simp <;> omega
theorem isLetter_any (c : UInt8) (w : World) : Calls Tryd.prog 50 #[.int .u8 (c.toNat : Int)] w fun e w' => e = .returned (.bool (letterB c)) ∧ w = w' := by
  have HX := Lib.hid (letter_low c)
  have HS := Lib.hid (small_any c w)
  obtain ⟨x, hx⟩ : ∃ x, letterB c = x := ⟨_, rfl⟩
  rw [hx] at HX ⊢
  obtain ⟨z, hz⟩ : ∃ z : Int, ((lowB c).toNat : Int) = z := ⟨_, rfl⟩
  rw [hz] at HX HS
  clear hx hz
  by_cases h1 : (97 : Int) ≤ z
  all_goals by_cases h2 : z ≤ 122
  all_goals
    go_enter Tryd.func50, Tryd.ntmps50
    go_wp2_with fail
    refine HS.out.mono ?_
    rintro e w2 ⟨rfl, rfl⟩
    go_wp2_with fail
    all_goals
      go_ret
      exact ⟨by rw [HX.out]; simp [h1, h2], rfl⟩
theorem eq_byte (c k : UInt8) : (c == k) = ((c.toNat : Int) == (k.toNat : Int)) := by
  rw [Bool.eq_iff_iff]
  simp only [beq_iff_eq]
  rw [← UInt8.toNat_inj]
  omega
def firstB (c : UInt8) : Bool := letterB c || c == 95
theorem beginsRule_any (c : UInt8) (w : World) : Calls Tryd.prog 41 #[.int .u8 (c.toNat : Int)] w fun e w' => e = .returned (.bool (firstB c)) ∧ w = w' := by
  have HX := Lib.hid (show firstB c = (letterB c || (c.toNat : Int) == 95) by unfold firstB; rw [eq_byte]; rfl)
  have HS := Lib.hid (isLetter_any c w)
  obtain ⟨x, hx⟩ : ∃ x, firstB c = x := ⟨_, rfl⟩
  rw [hx] at HX ⊢
  obtain ⟨y, hy⟩ : ∃ y, letterB c = y := ⟨_, rfl⟩
  rw [hy] at HX HS
  generalize (c.toNat : Int) = n at *
  clear hx hy
  cases y
  · cases h1 : (n == 95)
    all_goals
      go_enter Tryd.func41, Tryd.ntmps41
      go_wp2_with fail
      refine HS.out.mono ?_
      rintro e w2 ⟨rfl, rfl⟩
      go_wp2_with fail
      go_ret
      exact ⟨by rw [HX.out]; simp [h1], rfl⟩
  · go_enter Tryd.func41, Tryd.ntmps41
    go_wp2_with fail
    refine HS.out.mono ?_
    rintro e w2 ⟨rfl, rfl⟩
    go_wp2_with fail
    go_ret
    exact ⟨by rw [HX.out]; simp, rfl⟩
theorem inRule_any (c : UInt8) (w : World) : Calls Tryd.prog 42 #[.int .u8 (c.toNat : Int)] w fun e w' => e = .returned (.bool (ruleB c)) ∧ w = w' := by
  have HX := Lib.hid (show ruleB c = (firstB c || digitB c || (c.toNat : Int) == 45) by
    have := eq_byte c 45
    rw [show ((c.toNat : Int) == 45) = (c == 45) from this.symm]
    unfold ruleB firstB
    cases letterB c <;> cases digitB c <;> cases (c == 95) <;> cases (c == 45) <;> rfl)
  have HS := Lib.hid (beginsRule_any c w)
  have HD := Lib.hid (isDigit_any c w)
  obtain ⟨x, hx⟩ : ∃ x, ruleB c = x := ⟨_, rfl⟩
  rw [hx] at HX ⊢
  obtain ⟨y, hy⟩ : ∃ y, firstB c = y := ⟨_, rfl⟩
  rw [hy] at HX HS
  obtain ⟨z, hz⟩ : ∃ z, digitB c = z := ⟨_, rfl⟩
  rw [hz] at HX HD
  generalize (c.toNat : Int) = n at *
  clear hx hy hz
  cases y
  · cases z
    · cases h1 : (n == 45)
      all_goals
        go_enter Tryd.func42, Tryd.ntmps42
        go_wp2_with fail
        refine HS.out.mono ?_
        rintro e w2 ⟨rfl, rfl⟩
        go_wp2_with fail
        refine HD.out.mono ?_
        rintro e w2 ⟨rfl, rfl⟩
        go_wp2_with fail
        go_ret
        exact ⟨by rw [HX.out]; simp [h1], rfl⟩
    · go_enter Tryd.func42, Tryd.ntmps42
      go_wp2_with fail
      refine HS.out.mono ?_
      rintro e w2 ⟨rfl, rfl⟩
      go_wp2_with fail
      refine HD.out.mono ?_
      rintro e w2 ⟨rfl, rfl⟩
      go_wp2_with fail
      go_ret
      exact ⟨by rw [HX.out]; simp, rfl⟩
  · go_enter Tryd.func42, Tryd.ntmps42
    go_wp2_with fail
    refine HS.out.mono ?_
    rintro e w2 ⟨rfl, rfl⟩
    go_wp2_with fail
    go_ret
    exact ⟨by rw [HX.out]; simp, rfl⟩
theorem beginsPart_any (c : UInt8) (w : World) : Calls Tryd.prog 37 #[.int .u8 (c.toNat : Int)] w fun e w' => e = .returned (.bool (c != 45)) ∧ w = w' := by
  have HX := Lib.hid (show (c != 45) = ((c.toNat : Int) != 45) by
    have := eq_byte c 45
    unfold bne
    rw [this]
    rfl)
  obtain ⟨x, hx⟩ : ∃ x, (c != 45) = x := ⟨_, rfl⟩
  rw [hx] at HX ⊢
  generalize (c.toNat : Int) = n at *
  clear hx
  cases h1 : (n != 45)
  all_goals
    go_enter Tryd.func37, Tryd.ntmps37
    go_wp2_with fail
    go_ret
    exact ⟨by rw [HX.out, h1]; rfl, rfl⟩
theorem inPart_any (c : UInt8) (w : World) : Calls Tryd.prog 38 #[.int .u8 (c.toNat : Int)] w fun e w' => e = .returned (.bool (partC c)) ∧ w = w' := by
  have HX := Lib.hid (show partC c = (ruleB c || (c.toNat : Int) == 43) by unfold partC; rw [eq_byte]; rfl)
  have HS := Lib.hid (inRule_any c w)
  obtain ⟨x, hx⟩ : ∃ x, partC c = x := ⟨_, rfl⟩
  rw [hx] at HX ⊢
  obtain ⟨y, hy⟩ : ∃ y, ruleB c = y := ⟨_, rfl⟩
  rw [hy] at HX HS
  generalize (c.toNat : Int) = n at *
  clear hx hy
  cases y
  · cases h1 : (n == 43)
    all_goals
      go_enter Tryd.func38, Tryd.ntmps38
      go_wp2_with fail
      refine HS.out.mono ?_
      rintro e w2 ⟨rfl, rfl⟩
      go_wp2_with fail
      go_ret
      exact ⟨by rw [HX.out]; simp [h1], rfl⟩
  · go_enter Tryd.func38, Tryd.ntmps38
    go_wp2_with fail
    refine HS.out.mono ?_
    rintro e w2 ⟨rfl, rfl⟩
    go_wp2_with fail
    go_ret
    exact ⟨by rw [HX.out]; simp, rfl⟩
end Go.Proofs.YtognobpgagaamaaDoor
