import Derived.Test.YtognobpgagaamaaDoorAli
import Derived.Test.YtognobpgagaamaaDoorRmo
namespace Go.Proofs.YtognobpgagaamaaDoor
open Go.RowKit Go.Mem Go.Kwd Go.Esc

set_option maxRecDepth 100000 in
theorem words_walk (l : Kwd.Bs) (m : Int) (w : World) (hw : WOk w) : Calls Tryd.prog 3 #[strV l, .int .i64 m] w fun e w' => e = .returned (.bool true) ∧ Fr w w' (fun _ => False) := by
  have hsz := str_size l
  by_cases h : 200 < l.length
  · have HA := Lib.hid (alive_any w hw)
    have h2 : (200 : Int) < (l.length : Int) := by omega
    clear hw hsz
    go_enter Tryd.func3, Tryd.ntmps3
    go_wp2_with fail
    refine HA.out.mono ?_
    rintro e w2 ⟨rfl, hf⟩
    have HF := Lib.hid hf
    clear hf
    go_wp2_with fail
    go_ret
    exact ⟨rfl, HF.out⟩
  · have HF0 := Lib.hid (Fr.refl w (fun _ => False))
    obtain ⟨x, hx⟩ : ∃ x, headD l = x := ⟨_, rfl⟩
    obtain ⟨y, hy⟩ : ∃ y, monthD l = y := ⟨_, rfl⟩
    obtain ⟨z, hz⟩ : ∃ z, showMonthD m = z := ⟨_, rfl⟩
    have C1 := Lib.hid (fun (W : World) => Head_any l W (by omega) _ hx)
    have C2 := Lib.hid (fun (W : World) => rHead_any l W (by omega) _ hx)
    have C3 := Lib.hid (fun (W : World) => Month_any l W (by omega) _ hy)
    have C4 := Lib.hid (fun (W : World) => rMonth_any l W (by omega) _ hy)
    have C5 := Lib.hid (fun (W : World) => ShowMonth_any m W)
    have C6 := Lib.hid (fun (W : World) => rShowMonth_any m W)
    rw [hz] at C5 C6
    have C7 := Lib.hid (fun (W : World) (f : Fr w W (fun _ => False)) => alive_any W (hw.fr f))
    have h2 : (l.length : Int) ≤ 200 := by omega
    clear hx hy hz hw h hsz
    go_enter Tryd.func3, Tryd.ntmps3
    go_wp2_with fail
    refine (C1.out _).mono ?_
    rintro e w1 ⟨rfl, hf⟩
    have HF1 := Lib.hid (ff HF0.out hf)
    clear hf
    go_wp2_with fail
    refine (C2.out _).mono ?_
    rintro e w2 ⟨rfl, hf⟩
    have HF2 := Lib.hid (ff HF1.out hf)
    clear hf
    go_wp2_with fail
    refine (C3.out _).mono ?_
    rintro e w3 ⟨rfl, hf⟩
    have HF3 := Lib.hid (ff HF2.out hf)
    clear hf
    go_wp2_with fail
    refine (C4.out _).mono ?_
    rintro e w4 ⟨rfl, hf⟩
    have HF4 := Lib.hid (ff HF3.out hf)
    clear hf
    go_wp2_with fail
    refine (C5.out _).mono ?_
    rintro e w5 ⟨rfl, hf⟩
    have HF5 := Lib.hid (ff HF4.out hf)
    clear hf
    go_wp2_with fail
    refine (C6.out _).mono ?_
    rintro e w6 ⟨rfl, hf⟩
    have HF6 := Lib.hid (ff HF5.out hf)
    clear hf
    go_wp2_with fail
    refine (C7.out _ HF6.out).mono ?_
    rintro e w7 ⟨rfl, hf⟩
    have HF7 := Lib.hid (ff HF6.out hf)
    clear hf
    go_wp2_with fail
    go_ret
    exact ⟨rfl, HF7.out⟩
end Go.Proofs.YtognobpgagaamaaDoor
