import Derived.Test.YtognobpgagaamaaDoorAli
import Derived.Test.YtognobpgagaamaaDoorRyr
namespace Go.Proofs.YtognobpgagaamaaDoor
open Go.RowKit Go.Mem Go.Kwd Go.Esc

set_option maxRecDepth 100000 in
theorem years_walk (l : Kwd.Bs) (fr tt : Int) (w : World) (hw : WOk w) : Calls Tryd.prog 4 #[strV l, .int .i64 fr, .int .i64 tt] w fun e w' => e = .returned (.bool true) ∧ Fr w w' (fun _ => False) := by
  have hsz := str_size l
  by_cases h : 200 < l.length
  · have HA := Lib.hid (alive_any w hw)
    have h2 : (200 : Int) < (l.length : Int) := by omega
    clear hw hsz
    go_enter Tryd.func4, Tryd.ntmps4
    go_wp2_with fail
    refine HA.out.mono ?_
    rintro e w2 ⟨rfl, hf⟩
    have HF := Lib.hid hf
    clear hf
    go_wp2_with fail
    go_ret
    exact ⟨rfl, HF.out⟩
  · have HF0 := Lib.hid (Fr.refl w (fun _ => False))
    obtain ⟨a, b, hx⟩ : ∃ a b, yearD (parsed l) = (a, b) := ⟨_, _, rfl⟩
    obtain ⟨c, d, hy⟩ : ∃ c d, lastD (endD l) (yearD (parsed l)) fr = (c, d) := ⟨_, _, rfl⟩
    obtain ⟨s, k, hz⟩ : ∃ s k, showToD fr tt = (s, k) := ⟨_, _, rfl⟩
    have C1 := Lib.hid (fun (W : World) (f : Fr w W (fun _ => False)) => (show Calls Tryd.prog 16 #[strV l] W fun e w' => e = .returned (.tuple #[.int .i64 a, .int .i64 b]) ∧ Fr W w' (fun _ => False) from From_any l W (by omega) (hw.fr f) _ hx))
    have C2 := Lib.hid (fun (W : World) => (show Calls Tryd.prog 17 #[strV l] W fun e w' => e = .returned (.tuple #[.int .i64 a, .int .i64 b]) ∧ W = w' from rFrom_any l W (by omega) _ hx))
    have C3 := Lib.hid (fun (W : World) (f : Fr w W (fun _ => False)) => (show Calls Tryd.prog 18 #[strV l, .int .i64 fr] W fun e w' => e = .returned (.tuple #[.int .i64 c, .int .i64 d]) ∧ Fr W w' (fun _ => False) from To_any l fr W (by omega) (hw.fr f) _ hy))
    have C4 := Lib.hid (fun (W : World) => (show Calls Tryd.prog 19 #[strV l, .int .i64 fr] W fun e w' => e = .returned (.tuple #[.int .i64 c, .int .i64 d]) ∧ Fr W w' (fun _ => False) from rTo_any l fr W (by omega) _ hy))
    have C5 := Lib.hid (fun (W : World) (f : Fr w W (fun _ => False)) => ShowTo_any fr tt W (hw.fr f) s k hz)
    have C6 := Lib.hid (fun (W : World) => rShowTo_any fr tt W s k hz)
    have C7 := Lib.hid (fun (W : World) (f : Fr w W (fun _ => False)) => alive_any W (hw.fr f))
    have h2 : (l.length : Int) ≤ 200 := by omega
    clear hx hy hz hw h hsz
    go_enter Tryd.func4, Tryd.ntmps4
    go_wp2_with fail
    refine (C1.out _ HF0.out).mono ?_
    rintro e w1 ⟨rfl, hf⟩
    have HF1 := Lib.hid (ff HF0.out hf)
    clear hf
    go_wp2_with fail
    refine (C2.out _).mono ?_
    rintro e w2 ⟨rfl, hw2⟩
    have hf : Fr w1 w2 (fun _ => False) := by rw [← hw2]; exact Fr.refl _ _
    have HF2 := Lib.hid (ff HF1.out hf)
    clear hf hw2
    go_wp2_with fail
    refine (C3.out _ HF2.out).mono ?_
    rintro e w3 ⟨rfl, hf⟩
    have HF3 := Lib.hid (ff HF2.out hf)
    clear hf
    go_wp2_with fail
    refine (C4.out _).mono ?_
    rintro e w4 ⟨rfl, hf⟩
    have HF4 := Lib.hid (ff HF3.out hf)
    clear hf
    go_wp2_with fail
    refine (C5.out _ HF4.out).mono ?_
    rintro e w5 ⟨rfl, hf⟩
    have HF5 := Lib.hid (ff HF4.out hf)
    clear hf
    go_wp2_with fail
    refine (C6.out _).mono ?_
    rintro e w6 ⟨rfl, hf⟩
    have HF6 := Lib.hid (ff HF5.out hf)
    clear hf
    go_wp2_with fail
    refine (C7.out _ HF6.out).mono ?_
    rintro e w7 ⟨rfl, hf⟩
    have HF7 := Lib.hid (ff HF6.out hf)
    clear hf
    go_wp2_with fail
    go_ret
    exact ⟨rfl, HF7.out⟩
end Go.Proofs.YtognobpgagaamaaDoor
