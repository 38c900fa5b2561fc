import Derived.Test.YtognobpgagaamaaDoorAli
namespace Go.Proofs.YtognobpgagaamaaDoor
open Go.RowKit Go.Mem Go.Kwd Go.Esc

theorem eq_flag (a b : Kwd.Bs) (x y : Int) (h : a = b ↔ x = y) : (a == b) = (x == y) := by
  rw [Bool.eq_iff_iff, beq_iff_eq, beq_iff_eq]
  exact h
set_option maxRecDepth 100000 in
theorem back_walk (fr tt : Int) (w : World) (hw : WOk w) : Calls Tryd.prog 7 #[.int .i64 fr, .int .i64 tt] w fun e w' => e = .returned (.bool true) ∧ Fr w w' (fun _ => False) := by
  have HF0 := Lib.hid (Fr.refl w (fun _ => False))
  obtain ⟨s, k, hz⟩ : ∃ s k, showToD fr tt = (s, k) := ⟨_, _, rfl⟩
  have C1 := Lib.hid (fun (W : World) (f : Fr w W (fun _ => False)) => ShowTo_any fr tt W (hw.fr f) s k hz)
  have CA := Lib.hid (fun (W : World) (f : Fr w W (fun _ => False)) => alive_any W (hw.fr f))
  rcases showTo_kind fr tt with hk | hk
  · have hsl := show_last fr tt hk _ rfl
    rw [hz] at hk hsl
    obtain ⟨h1, h2, h3⟩ := hsl
    obtain rfl : k = 0 := hk
    have hlen : s.length ≤ 100 := by
      have : ∀ f t : Int, (showToD f t).1.length ≤ 100 := by
        intro f t
        unfold showToD
        split
        · simp
        · split
          · simp [maxT]
          · split
            · simp
            · split
              · simp [onlyT]
              · have := itoa_len t (by unfold Go.Esc.inRange; omega)
                show (Go.Lib.itoa t).length ≤ 100
                omega
      have := this fr tt
      rw [hz] at this
      exact this
    have C2 := Lib.hid (fun (W : World) (f : Fr w W (fun _ => False)) => To_any s fr W (by omega) (hw.fr f) _ h1)
    have e1 := eq_flag s onlyT fr tt h2
    have e2 := eq_flag s maxT tt 10000 h3
    have e3 : ∀ b : Bool, (b == b) = true := by intro b; simp
    unfold onlyT at e1
    unfold maxT at e2
    obtain ⟨p, hp⟩ : ∃ p, (fr == tt) = p := ⟨_, rfl⟩
    obtain ⟨q, hq⟩ : ∃ q, (tt == 10000) = q := ⟨_, rfl⟩
    rw [hp] at e1
    rw [hq] at e2
    clear h1 h2 h3 hz hw hlen
    go_enter Tryd.func7, Tryd.ntmps7
    go_wp2_with fail
    refine (C1.out _ HF0.out).mono ?_
    rintro e w1 ⟨rfl, hf⟩
    have HF1 := Lib.hid (ff HF0.out hf)
    clear hf
    go_wp2_with fail
    refine (C2.out _ HF1.out).mono ?_
    rintro e w2 ⟨rfl, hf⟩
    have HF2 := Lib.hid (ff HF1.out hf)
    clear hf
    go_wp2_with fail
    refine (CA.out _ HF2.out).mono ?_
    rintro e w3 ⟨rfl, hf⟩
    have HF3 := Lib.hid (ff HF2.out hf)
    clear hf
    go_wp2_with fail
    go_ret
    exact ⟨rfl, HF3.out⟩
  · rw [hz] at hk
    obtain ⟨rfl, rfl⟩ := Prod.mk.inj hk
    clear hz hk hw
    go_enter Tryd.func7, Tryd.ntmps7
    go_wp2_with fail
    refine (C1.out _ HF0.out).mono ?_
    rintro e w1 ⟨rfl, hf⟩
    have HF1 := Lib.hid (ff HF0.out hf)
    clear hf
    go_wp2_with fail
    refine (CA.out _ HF1.out).mono ?_
    rintro e w2 ⟨rfl, hf⟩
    have HF2 := Lib.hid (ff HF1.out hf)
    clear hf
    go_wp2_with fail
    go_ret
    exact ⟨rfl, HF2.out⟩
end Go.Proofs.YtognobpgagaamaaDoor
