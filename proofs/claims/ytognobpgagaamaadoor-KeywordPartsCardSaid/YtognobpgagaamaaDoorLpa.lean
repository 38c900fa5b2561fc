import Derived.Test.YtognobpgagaamaaDoorAli
namespace Go.Proofs.YtognobpgagaamaaDoor
open Go.RowKit Go.Mem Go.Kwd Go.Esc

set_option maxRecDepth 100000 in
theorem parts_walk (a b : Kwd.Bs) (w : World) (hw : WOk w) : Calls Tryd.prog 8 #[strV a, strV b] w fun e w' => e = .returned (.bool true) ∧ Fr w w' (fun _ => False) := by
  have HA := Lib.hid (fun (W : World) (f : Fr w W (fun _ => False)) => alive_any W (hw.fr f))
  have HF0 := Lib.hid (Fr.refl w (fun _ => False))
  by_cases ha : 100 < a.length
  · have h2 : (100 : Int) < (a.length : Int) := by omega
    clear hw ha
    go_enter Tryd.func8, Tryd.ntmps8
    go_wp2_with fail
    refine (HA.out _ HF0.out).mono ?_
    rintro e w1 ⟨rfl, hf⟩
    have HF1 := Lib.hid (ff HF0.out hf)
    clear hf
    go_wp2_with fail
    go_ret
    exact ⟨rfl, HF1.out⟩
  · have h2 : (a.length : Int) ≤ 100 := by omega
    by_cases hb : 100 < b.length
    · have h3 : (100 : Int) < (b.length : Int) := by omega
      clear hw ha hb
      go_enter Tryd.func8, Tryd.ntmps8
      go_wp2_with fail
      refine (HA.out _ HF0.out).mono ?_
      rintro e w1 ⟨rfl, hf⟩
      have HF1 := Lib.hid (ff HF0.out hf)
      clear hf
      go_wp2_with fail
      go_ret
      exact ⟨rfl, HF1.out⟩
    · have h3 : (b.length : Int) ≤ 100 := by omega
      obtain ⟨x, hx⟩ : ∃ x, zoneD a = x := ⟨_, rfl⟩
      obtain ⟨y, hy⟩ : ∃ y, zoneD b = y := ⟨_, rfl⟩
      obtain ⟨r, hr⟩ : ∃ r, ruleD a = r := ⟨_, rfl⟩
      have C1 := Lib.hid (fun (W : World) (f : Fr w W (fun _ => False)) => Zone_any a W (by omega) (hw.fr f) _ hx)
      have C2 := Lib.hid (fun (W : World) (f : Fr w W (fun _ => False)) => Zone_any b W (by omega) (hw.fr f) _ hy)
      have C3 := Lib.hid (fun (W : World) => Rule_any a W (by omega) _ hr)
      have s1 := fun W => run_add_str (P := Tryd.prog) W a [47] (by simp; omega)
      have s2 := fun W => run_add_str (P := Tryd.prog) W (a ++ [47]) b (by simp; omega)
      have s3 := fun W => run_add_str (P := Tryd.prog) W [47] a (by simp; omega)
      have s4 := fun W => run_add_str (P := Tryd.prog) W a [47, 98] (by simp; omega)
      have C4 := Lib.hid (fun (W : World) (f : Fr w W (fun _ => False)) => Zone_any (a ++ [47]) W (by simp; omega) (hw.fr f) _ (zone_open a))
      have C5 := Lib.hid (fun (W : World) (f : Fr w W (fun _ => False)) => Zone_any ([47] ++ a) W (by simp; omega) (hw.fr f) _ (zone_slash a))
      have C6 := Lib.hid (fun (W : World) => Rule_any (a ++ [47, 98]) W (by simp; omega) _ (rule_slash a [98]))
      have HJ := Lib.hid (fun (h1 : x = true) (h2 : y = true) => zone_join (hx.trans h1) (hy.trans h2))
      have HRZ := Lib.hid (fun (h : r = true) => hx.symm.trans (rule_zone (hr.trans h)))
      obtain ⟨z, hz⟩ : ∃ z, zoneD (a ++ [47] ++ b) = z := ⟨_, rfl⟩
      have C7 := Lib.hid (fun (W : World) (f : Fr w W (fun _ => False)) => Zone_any (a ++ [47] ++ b) W (by simp; omega) (hw.fr f) _ hz)
      rw [hz] at HJ
      clear hx hy hr hz hw ha hb
      generalize a ++ [47] ++ b = t2 at *
      generalize a ++ [47] = t1 at *
      generalize [47] ++ a = t3 at *
      generalize a ++ [47, 98] = t4 at *
      cases x with
      | false =>
        clear HJ
        cases r with
        | false =>
          clear HRZ
          go_enter Tryd.func8, Tryd.ntmps8
          go_wp2_with fail
          refine (C1.out _ HF0.out).mono ?_
          rintro e w1 ⟨rfl, hf⟩
          have HF1 := Lib.hid (ff HF0.out hf)
          clear hf
          go_wp2_with fail
          refine (C3.out _).mono ?_
          rintro e w2 ⟨rfl, hf⟩
          have HF2 := Lib.hid (ff HF1.out hf)
          clear hf
          go_wp2_with fail
          refine (C4.out _ HF2.out).mono ?_
          rintro e w3 ⟨rfl, hf⟩
          have HF3 := Lib.hid (ff HF2.out hf)
          clear hf
          go_wp2_with fail
          refine (C5.out _ HF3.out).mono ?_
          rintro e w4 ⟨rfl, hf⟩
          have HF4 := Lib.hid (ff HF3.out hf)
          clear hf
          go_wp2_with fail
          refine (C6.out _).mono ?_
          rintro e w5 ⟨rfl, hf⟩
          have HF5 := Lib.hid (ff HF4.out hf)
          clear hf
          go_wp2_with fail
          refine (HA.out _ HF5.out).mono ?_
          rintro e w6 ⟨rfl, hf⟩
          have HF6 := Lib.hid (ff HF5.out hf)
          clear hf
          go_wp2_with fail
          go_ret
          exact ⟨rfl, HF6.out⟩
        | true => exact absurd (HRZ.out rfl) (by decide)
      | true =>
        cases y with
        | false =>
          clear HJ
          cases r with
          | false =>
            clear HRZ
            go_enter Tryd.func8, Tryd.ntmps8
            go_wp2_with fail
            refine (C1.out _ HF0.out).mono ?_
            rintro e w1 ⟨rfl, hf⟩
            have HF1 := Lib.hid (ff HF0.out hf)
            clear hf
            go_wp2_with fail
            refine (C2.out _ HF1.out).mono ?_
            rintro e w2 ⟨rfl, hf⟩
            have HF2 := Lib.hid (ff HF1.out hf)
            clear hf
            go_wp2_with fail
            refine (C3.out _).mono ?_
            rintro e w3 ⟨rfl, hf⟩
            have HF3 := Lib.hid (ff HF2.out hf)
            clear hf
            go_wp2_with fail
            refine (C4.out _ HF3.out).mono ?_
            rintro e w4 ⟨rfl, hf⟩
            have HF4 := Lib.hid (ff HF3.out hf)
            clear hf
            go_wp2_with fail
            refine (C5.out _ HF4.out).mono ?_
            rintro e w5 ⟨rfl, hf⟩
            have HF5 := Lib.hid (ff HF4.out hf)
            clear hf
            go_wp2_with fail
            refine (C6.out _).mono ?_
            rintro e w6 ⟨rfl, hf⟩
            have HF6 := Lib.hid (ff HF5.out hf)
            clear hf
            go_wp2_with fail
            refine (HA.out _ HF6.out).mono ?_
            rintro e w7 ⟨rfl, hf⟩
            have HF7 := Lib.hid (ff HF6.out hf)
            clear hf
            go_wp2_with fail
            go_ret
            exact ⟨rfl, HF7.out⟩
          | true =>
            clear HRZ
            go_enter Tryd.func8, Tryd.ntmps8
            go_wp2_with fail
            refine (C1.out _ HF0.out).mono ?_
            rintro e w1 ⟨rfl, hf⟩
            have HF1 := Lib.hid (ff HF0.out hf)
            clear hf
            go_wp2_with fail
            refine (C2.out _ HF1.out).mono ?_
            rintro e w2 ⟨rfl, hf⟩
            have HF2 := Lib.hid (ff HF1.out hf)
            clear hf
            go_wp2_with fail
            refine (C3.out _).mono ?_
            rintro e w3 ⟨rfl, hf⟩
            have HF3 := Lib.hid (ff HF2.out hf)
            clear hf
            go_wp2_with fail
            refine (C1.out _ HF3.out).mono ?_
            rintro e w4 ⟨rfl, hf⟩
            have HF4 := Lib.hid (ff HF3.out hf)
            clear hf
            go_wp2_with fail
            refine (C4.out _ HF4.out).mono ?_
            rintro e w5 ⟨rfl, hf⟩
            have HF5 := Lib.hid (ff HF4.out hf)
            clear hf
            go_wp2_with fail
            refine (C5.out _ HF5.out).mono ?_
            rintro e w6 ⟨rfl, hf⟩
            have HF6 := Lib.hid (ff HF5.out hf)
            clear hf
            go_wp2_with fail
            refine (C6.out _).mono ?_
            rintro e w7 ⟨rfl, hf⟩
            have HF7 := Lib.hid (ff HF6.out hf)
            clear hf
            go_wp2_with fail
            refine (HA.out _ HF7.out).mono ?_
            rintro e w8 ⟨rfl, hf⟩
            have HF8 := Lib.hid (ff HF7.out hf)
            clear hf
            go_wp2_with fail
            go_ret
            exact ⟨rfl, HF8.out⟩
        | true =>
          have hj := HJ.out rfl rfl
          clear HJ
          by_cases hle : a.length + 1 + b.length ≤ 30
          · have hle2 : (a.length : Int) + 1 + (b.length : Int) ≤ 30 := by omega
            rw [decide_eq_true hle] at hj
            subst hj
            cases r with
            | false =>
              clear HRZ
              go_enter Tryd.func8, Tryd.ntmps8
              go_wp2_with fail
              refine (C1.out _ HF0.out).mono ?_
              rintro e w1 ⟨rfl, hf⟩
              have HF1 := Lib.hid (ff HF0.out hf)
              clear hf
              go_wp2_with fail
              refine (C2.out _ HF1.out).mono ?_
              rintro e w2 ⟨rfl, hf⟩
              have HF2 := Lib.hid (ff HF1.out hf)
              clear hf
              go_wp2_with fail
              refine (C7.out _ HF2.out).mono ?_
              rintro e w3 ⟨rfl, hf⟩
              have HF3 := Lib.hid (ff HF2.out hf)
              clear hf
              go_wp2_with fail
              refine (C3.out _).mono ?_
              rintro e w4 ⟨rfl, hf⟩
              have HF4 := Lib.hid (ff HF3.out hf)
              clear hf
              go_wp2_with fail
              refine (C4.out _ HF4.out).mono ?_
              rintro e w5 ⟨rfl, hf⟩
              have HF5 := Lib.hid (ff HF4.out hf)
              clear hf
              go_wp2_with fail
              refine (C5.out _ HF5.out).mono ?_
              rintro e w6 ⟨rfl, hf⟩
              have HF6 := Lib.hid (ff HF5.out hf)
              clear hf
              go_wp2_with fail
              refine (C6.out _).mono ?_
              rintro e w7 ⟨rfl, hf⟩
              have HF7 := Lib.hid (ff HF6.out hf)
              clear hf
              go_wp2_with fail
              refine (HA.out _ HF7.out).mono ?_
              rintro e w8 ⟨rfl, hf⟩
              have HF8 := Lib.hid (ff HF7.out hf)
              clear hf
              go_wp2_with fail
              go_ret
              exact ⟨rfl, HF8.out⟩
            | true =>
              clear HRZ
              go_enter Tryd.func8, Tryd.ntmps8
              go_wp2_with fail
              refine (C1.out _ HF0.out).mono ?_
              rintro e w1 ⟨rfl, hf⟩
              have HF1 := Lib.hid (ff HF0.out hf)
              clear hf
              go_wp2_with fail
              refine (C2.out _ HF1.out).mono ?_
              rintro e w2 ⟨rfl, hf⟩
              have HF2 := Lib.hid (ff HF1.out hf)
              clear hf
              go_wp2_with fail
              refine (C7.out _ HF2.out).mono ?_
              rintro e w3 ⟨rfl, hf⟩
              have HF3 := Lib.hid (ff HF2.out hf)
              clear hf
              go_wp2_with fail
              refine (C3.out _).mono ?_
              rintro e w4 ⟨rfl, hf⟩
              have HF4 := Lib.hid (ff HF3.out hf)
              clear hf
              go_wp2_with fail
              refine (C1.out _ HF4.out).mono ?_
              rintro e w5 ⟨rfl, hf⟩
              have HF5 := Lib.hid (ff HF4.out hf)
              clear hf
              go_wp2_with fail
              refine (C4.out _ HF5.out).mono ?_
              rintro e w6 ⟨rfl, hf⟩
              have HF6 := Lib.hid (ff HF5.out hf)
              clear hf
              go_wp2_with fail
              refine (C5.out _ HF6.out).mono ?_
              rintro e w7 ⟨rfl, hf⟩
              have HF7 := Lib.hid (ff HF6.out hf)
              clear hf
              go_wp2_with fail
              refine (C6.out _).mono ?_
              rintro e w8 ⟨rfl, hf⟩
              have HF8 := Lib.hid (ff HF7.out hf)
              clear hf
              go_wp2_with fail
              refine (HA.out _ HF8.out).mono ?_
              rintro e w9 ⟨rfl, hf⟩
              have HF9 := Lib.hid (ff HF8.out hf)
              clear hf
              go_wp2_with fail
              go_ret
              exact ⟨rfl, HF9.out⟩
          · have hle2 : ¬ ((a.length : Int) + 1 + (b.length : Int) ≤ 30) := by omega
            rw [decide_eq_false hle] at hj
            subst hj
            cases r with
            | false =>
              clear HRZ
              go_enter Tryd.func8, Tryd.ntmps8
              go_wp2_with fail
              refine (C1.out _ HF0.out).mono ?_
              rintro e w1 ⟨rfl, hf⟩
              have HF1 := Lib.hid (ff HF0.out hf)
              clear hf
              go_wp2_with fail
              refine (C2.out _ HF1.out).mono ?_
              rintro e w2 ⟨rfl, hf⟩
              have HF2 := Lib.hid (ff HF1.out hf)
              clear hf
              go_wp2_with fail
              refine (C7.out _ HF2.out).mono ?_
              rintro e w3 ⟨rfl, hf⟩
              have HF3 := Lib.hid (ff HF2.out hf)
              clear hf
              go_wp2_with fail
              refine (C3.out _).mono ?_
              rintro e w4 ⟨rfl, hf⟩
              have HF4 := Lib.hid (ff HF3.out hf)
              clear hf
              go_wp2_with fail
              refine (C4.out _ HF4.out).mono ?_
              rintro e w5 ⟨rfl, hf⟩
              have HF5 := Lib.hid (ff HF4.out hf)
              clear hf
              go_wp2_with fail
              refine (C5.out _ HF5.out).mono ?_
              rintro e w6 ⟨rfl, hf⟩
              have HF6 := Lib.hid (ff HF5.out hf)
              clear hf
              go_wp2_with fail
              refine (C6.out _).mono ?_
              rintro e w7 ⟨rfl, hf⟩
              have HF7 := Lib.hid (ff HF6.out hf)
              clear hf
              go_wp2_with fail
              refine (HA.out _ HF7.out).mono ?_
              rintro e w8 ⟨rfl, hf⟩
              have HF8 := Lib.hid (ff HF7.out hf)
              clear hf
              go_wp2_with fail
              go_ret
              exact ⟨rfl, HF8.out⟩
            | true =>
              clear HRZ
              go_enter Tryd.func8, Tryd.ntmps8
              go_wp2_with fail
              refine (C1.out _ HF0.out).mono ?_
              rintro e w1 ⟨rfl, hf⟩
              have HF1 := Lib.hid (ff HF0.out hf)
              clear hf
              go_wp2_with fail
              refine (C2.out _ HF1.out).mono ?_
              rintro e w2 ⟨rfl, hf⟩
              have HF2 := Lib.hid (ff HF1.out hf)
              clear hf
              go_wp2_with fail
              refine (C7.out _ HF2.out).mono ?_
              rintro e w3 ⟨rfl, hf⟩
              have HF3 := Lib.hid (ff HF2.out hf)
              clear hf
              go_wp2_with fail
              refine (C3.out _).mono ?_
              rintro e w4 ⟨rfl, hf⟩
              have HF4 := Lib.hid (ff HF3.out hf)
              clear hf
              go_wp2_with fail
              refine (C1.out _ HF4.out).mono ?_
              rintro e w5 ⟨rfl, hf⟩
              have HF5 := Lib.hid (ff HF4.out hf)
              clear hf
              go_wp2_with fail
              refine (C4.out _ HF5.out).mono ?_
              rintro e w6 ⟨rfl, hf⟩
              have HF6 := Lib.hid (ff HF5.out hf)
              clear hf
              go_wp2_with fail
              refine (C5.out _ HF6.out).mono ?_
              rintro e w7 ⟨rfl, hf⟩
              have HF7 := Lib.hid (ff HF6.out hf)
              clear hf
              go_wp2_with fail
              refine (C6.out _).mono ?_
              rintro e w8 ⟨rfl, hf⟩
              have HF8 := Lib.hid (ff HF7.out hf)
              clear hf
              go_wp2_with fail
              refine (HA.out _ HF8.out).mono ?_
              rintro e w9 ⟨rfl, hf⟩
              have HF9 := Lib.hid (ff HF8.out hf)
              clear hf
              go_wp2_with fail
              go_ret
              exact ⟨rfl, HF9.out⟩
end Go.Proofs.YtognobpgagaamaaDoor
