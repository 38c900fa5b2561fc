import Derived.Test.YtofabgllfjmaaaaDoorAli
namespace Go.Proofs.YtofabgllfjmaaaaDoor
open Go.RowKit Go.Mem Go.Dfm

theorem sides_eq {q d y m : Int} (h1 : 0 ≤ q ∧ q ≤ 6) (h2 : 1 ≤ d ∧ d ≤ 25) (h : Go.Civil.rightB y m (d + 6) = true) : ∃ n, ofD 2 d q y m = (n, 0) ∧ ofD 3 (d + 6) q y m = (n, 0) := by
  have hb := Go.Civil.rightB_iff.1 h
  have hb2 : Go.Civil.rightB y m d = true := Go.Civil.rightB_iff.2 (by omega)
  have e1 : daysE y m d = 0 := by rw [daysE, if_pos hb2]
  have e2 : daysE y m (d + 6) = 0 := by rw [daysE, if_pos h]
  have k1 : daysK y m d = Go.Civil.numD y m d := by rw [daysK, if_pos hb2]
  have k2 : daysK y m (d + 6) = Go.Civil.numD y m d + 6 := by rw [daysK, if_pos h]; unfold Go.Civil.numD; omega
  have r1 : rightB 2 d q = true := rightB_iff.2 (.inr (.inr ⟨.inl rfl, by omega, by omega, by omega, by omega⟩))
  have r2 : rightB 3 (d + 6) q = true := rightB_iff.2 (.inr (.inr ⟨.inr rfl, by omega, by omega, by omega, by omega⟩))
  refine ⟨Go.Civil.numD y m d + (q - (Go.Civil.numD y m d + 4) % 7 + 7) % 7, ?_, ?_⟩
  · rw [ofD, if_pos r1, show dayOf 2 d y m = d from rfl, if_pos e1, if_pos rfl, k1]
  · rw [ofD, if_pos r2, show dayOf 3 (d + 6) y m = d + 6 from rfl, if_pos e2, if_neg (by decide), if_neg (by decide), k2]
    congr 1
    omega
set_option maxHeartbeats 3200000 in
theorem sides_yes (q d y m n : Int) (w : World) (hw : WOk w) (h1 : 0 ≤ q ∧ q ≤ 6) (h2 : 1 ≤ d ∧ d ≤ 25) (h : Go.Civil.rightB y m (d + 6) = true) (o1 : ofD 2 d q y m = (n, 0)) (o2 : ofD 3 (d + 6) q y m = (n, 0)) :
    Calls Tryd.prog 6 #[.int .i64 q, .int .i64 d, .int .i64 y, .int .i64 m] w fun e w' => e = .returned (.bool true) ∧ Fr w w' (fun _ => False) := by
  have HA := Lib.hid (fun W (f : Fr w W (fun _ => False)) => alive_any W (hw.fr f))
  have HO := Lib.hid (fun W (f : Fr w W (fun _ => False)) => Of_any 2 d q y m W (hw.fr f) n 0 o1)
  have HP := Lib.hid (fun W (f : Fr w W (fun _ => False)) => Of_any 3 (d + 6) q y m W (hw.fr f) n 0 o2)
  have HR := Lib.hid (fun W (f : Fr w W (fun _ => False)) => Right_any y m (d + 6) W (hw.fr f).lok)
  rw [h] at HR
  obtain ⟨q1, q2⟩ := h1
  obtain ⟨d1, d2⟩ := h2
  clear hw h o1 o2
  go_enter Tryd.func6, Tryd.ntmps6
  go_wp2_with fail
  refine (HR.out _ (Fr.refl _ _)).mono ?_
  rintro e w2 ⟨rfl, rfl⟩
  go_wp2_with fail
  refine (HO.out _ (Fr.refl _ _)).mono ?_
  rintro e w2 ⟨rfl, hf2⟩
  have HF2 := Lib.hid hf2
  clear hf2
  go_wp2_with fail
  refine (HP.out _ HF2.out).mono ?_
  rintro e w3 ⟨rfl, hf3⟩
  have HF3 := Lib.hid (ff HF2.out hf3)
  clear hf3
  go_wp2_with fail
  refine (HA.out _ HF3.out).mono ?_
  rintro e w4 ⟨rfl, hf4⟩
  have HF4 := Lib.hid (ff HF3.out hf4)
  clear hf4
  go_wp2_with fail
  go_ret
  exact ⟨rfl, HF4.out⟩
set_option maxHeartbeats 3200000 in
theorem sides_out (q d y m : Int) (w : World) (hw : WOk w) (h : q < 0 ∨ 6 < q ∨ d < 1 ∨ 25 < d) :
    Calls Tryd.prog 6 #[.int .i64 q, .int .i64 d, .int .i64 y, .int .i64 m] w fun e w' => e = .returned (.bool true) ∧ Fr w w' (fun _ => False) := by
  have HA := Lib.hid (alive_any w hw)
  clear hw
  by_cases h1 : q < 0
  · clear h
    go_enter Tryd.func6, Tryd.ntmps6
    go_wp2_with fail
    refine HA.out.mono ?_
    rintro e w4 ⟨rfl, hf4⟩
    have HF4 := Lib.hid hf4
    clear hf4
    go_wp2_with fail
    go_ret
    exact ⟨rfl, HF4.out⟩
  · have g1 : 0 ≤ q := by omega
    clear h1
    by_cases h2 : 6 < q
    · clear h
      go_enter Tryd.func6, Tryd.ntmps6
      go_wp2_with fail
      refine HA.out.mono ?_
      rintro e w4 ⟨rfl, hf4⟩
      have HF4 := Lib.hid hf4
      clear hf4
      go_wp2_with fail
      go_ret
      exact ⟨rfl, HF4.out⟩
    · have g2 : q ≤ 6 := by omega
      clear h2
      by_cases h3 : d < 1
      · clear h
        go_enter Tryd.func6, Tryd.ntmps6
        go_wp2_with fail
        refine HA.out.mono ?_
        rintro e w4 ⟨rfl, hf4⟩
        have HF4 := Lib.hid hf4
        clear hf4
        go_wp2_with fail
        go_ret
        exact ⟨rfl, HF4.out⟩
      · have g3 : 1 ≤ d := by omega
        have g4 : 25 < d := by omega
        clear h h3
        go_enter Tryd.func6, Tryd.ntmps6
        go_wp2_with fail
        refine HA.out.mono ?_
        rintro e w4 ⟨rfl, hf4⟩
        have HF4 := Lib.hid hf4
        clear hf4
        go_wp2_with fail
        go_ret
        exact ⟨rfl, HF4.out⟩
set_option maxHeartbeats 3200000 in
theorem sides_no (q d y m : Int) (w : World) (hw : WOk w) (h1 : 0 ≤ q ∧ q ≤ 6) (h2 : 1 ≤ d ∧ d ≤ 25) (h : Go.Civil.rightB y m (d + 6) = false) :
    Calls Tryd.prog 6 #[.int .i64 q, .int .i64 d, .int .i64 y, .int .i64 m] w fun e w' => e = .returned (.bool true) ∧ Fr w w' (fun _ => False) := by
  have HA := Lib.hid (alive_any w hw)
  have HR := Lib.hid (Right_any y m (d + 6) w hw.lok)
  rw [h] at HR
  obtain ⟨q1, q2⟩ := h1
  obtain ⟨d1, d2⟩ := h2
  clear hw h
  go_enter Tryd.func6, Tryd.ntmps6
  go_wp2_with fail
  refine HR.out.mono ?_
  rintro e w2 ⟨rfl, rfl⟩
  go_wp2_with fail
  refine HA.out.mono ?_
  rintro e w4 ⟨rfl, hf4⟩
  have HF4 := Lib.hid hf4
  clear hf4
  go_wp2_with fail
  go_ret
  exact ⟨rfl, HF4.out⟩
theorem sides_any (q d y m : Int) (w : World) (hw : WOk w) :
    Calls Tryd.prog 6 #[.int .i64 q, .int .i64 d, .int .i64 y, .int .i64 m] w fun e w' => e = .returned (.bool true) ∧ Fr w w' (fun _ => False) := by
  by_cases ho : q < 0 ∨ 6 < q ∨ d < 1 ∨ 25 < d
  · exact sides_out q d y m w hw ho
  · by_cases hr : Go.Civil.rightB y m (d + 6) = true
    · obtain ⟨n, o1, o2⟩ := sides_eq (q := q) (d := d) (by omega) (by omega) hr
      exact sides_yes q d y m n w hw (by omega) (by omega) hr o1 o2
    · exact sides_no q d y m w hw (by omega) (by omega) (by simpa using hr)
end Go.Proofs.YtofabgllfjmaaaaDoor
