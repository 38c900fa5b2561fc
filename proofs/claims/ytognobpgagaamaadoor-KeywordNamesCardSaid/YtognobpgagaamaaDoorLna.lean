import Derived.Test.YtognobpgagaamaaDoorAli
import Derived.Test.YtognobpgagaamaaDoorRzr
namespace Go.Proofs.YtognobpgagaamaaDoor
open Go.RowKit Go.Mem Go.Kwd Go.Esc

set_option maxRecDepth 100000 in
theorem names_walk (l : Kwd.Bs) (w : World) (hw : WOk w) : Calls Tryd.prog 5 #[strV l] w fun e w' => e = .returned (.bool true) ∧ Fr w w' (fun _ => False) := by
  have hsz := str_size l
  by_cases h : 200 < l.length
  · have HA := Lib.hid (alive_any w hw)
    have h2 : (200 : Int) < (l.length : Int) := by omega
    clear hw hsz
    go_enter Tryd.func5, Tryd.ntmps5
    go_wp2_with fail
    refine HA.out.mono ?_
    rintro e w2 ⟨rfl, hf⟩
    have HF := Lib.hid hf
    clear hf
    go_wp2_with fail
    go_ret
    exact ⟨rfl, HF.out⟩
  · have HF0 := Lib.hid (Fr.refl w (fun _ => False))
    obtain ⟨x, hx⟩ : ∃ x, zoneD l = x := ⟨_, rfl⟩
    obtain ⟨y, hy⟩ : ∃ y, ruleD l = y := ⟨_, rfl⟩
    have C1 := Lib.hid (fun (W : World) (f : Fr w W (fun _ => False)) => Zone_any l W (by omega) (hw.fr f) _ hx)
    have C2 := Lib.hid (fun (W : World) => (rZone_any l W (by omega) _ hx).mono (fun e w' h => (⟨h.1, h.2 ▸ Fr.refl _ _⟩ : e = .returned (.bool x) ∧ Fr W w' (fun _ => False))))
    have C3 := Lib.hid (fun (W : World) => Rule_any l W (by omega) _ hy)
    have C4 := Lib.hid (fun (W : World) => (rRule_any l W (by omega) _ hy).mono (fun e w' h => (⟨h.1, h.2 ▸ Fr.refl _ _⟩ : e = .returned (.bool y) ∧ Fr W w' (fun _ => False))))
    have C5 := Lib.hid (fun (W : World) (f : Fr w W (fun _ => False)) => alive_any W (hw.fr f))
    have h2 : (l.length : Int) ≤ 200 := by omega
    have e1 : (x == x) = true := by simp
    have e2 : (y == y) = true := by simp
    clear hx hy hw h hsz
    go_enter Tryd.func5, Tryd.ntmps5
    go_wp2_with fail
    refine (C1.out _ HF0.out).mono ?_
    rintro e w1 ⟨rfl, hf⟩
    have HF1 := Lib.hid (ff HF0.out hf)
    clear hf
    go_wp2_with fail
    refine (C2.out _).mono ?_
    rintro e w2 ⟨rfl, hf⟩
    have HF2 := Lib.hid (ff HF1.out hf)
    clear hf
    go_wp2_with fail
    refine (C3.out _).mono ?_
    rintro e w3 ⟨rfl, hf⟩
    have HF3 := Lib.hid (ff HF2.out hf)
    clear hf
    go_wp2_with fail
    refine (C4.out _).mono ?_
    rintro e w4 ⟨rfl, hf⟩
    have HF4 := Lib.hid (ff HF3.out hf)
    clear hf
    go_wp2_with fail
    refine (C5.out _ HF4.out).mono ?_
    rintro e w5 ⟨rfl, hf⟩
    have HF5 := Lib.hid (ff HF4.out hf)
    clear hf
    go_wp2_with fail
    go_ret
    exact ⟨rfl, HF5.out⟩
end Go.Proofs.YtognobpgagaamaaDoor
