import Derived.Test.YtognobpgagaamaaDoorZon
import Derived.Test.YtognobpgagaamaaDoorYrs
namespace Go.Proofs.YtognobpgagaamaaDoor
open Go.RowKit Go.Mem Go.Kwd Go.Esc

theorem alive_facts : lastD (endD [109, 97]) (yearD (parsed [109, 97])) 2000 = (10000, 0) ∧ lastD (endD [109]) (yearD (parsed [109])) 2000 = (0, 8) ∧ monthD [106, 117] = 0 ∧ monthD [74, 85, 78] = 6 ∧ headD [122] = 2 ∧
    zoneD [69, 117, 114, 111, 112, 101, 47, 80, 97, 114, 105, 115] = true ∧ ruleD [45] = false := by decide +kernel
theorem alive_any (w : World) (hw : WOk w) : Calls Tryd.prog 9 #[] w fun e w' => e = .returned (.bool true) ∧ Fr w w' (fun _ => False) := by
  obtain ⟨a1, a2, a3, a4, a5, a6, a7⟩ := alive_facts
  have HF0 := Lib.hid (Fr.refl w (fun _ => False))
  have C1 := Lib.hid (fun (W : World) (f : Fr w W (fun _ => False)) => To_any [109, 97] 2000 W (by decide) (hw.fr f) _ a1)
  have C2 := Lib.hid (fun (W : World) (f : Fr w W (fun _ => False)) => To_any [109] 2000 W (by decide) (hw.fr f) _ a2)
  have C3 := Lib.hid (fun (W : World) => Month_any [106, 117] W (by decide) _ a3)
  have C4 := Lib.hid (fun (W : World) => Month_any [74, 85, 78] W (by decide) _ a4)
  have C5 := Lib.hid (fun (W : World) => Head_any [122] W (by decide) _ a5)
  have C6 := Lib.hid (fun (W : World) (f : Fr w W (fun _ => False)) => Zone_any [69, 117, 114, 111, 112, 101, 47, 80, 97, 114, 105, 115] W (by decide) (hw.fr f) _ a6)
  have C7 := Lib.hid (fun (W : World) => Rule_any [45] W (by decide) _ a7)
  clear a1 a2 a3 a4 a5 a6 a7 hw
  go_enter Tryd.func9, Tryd.ntmps9
  go_wp2_with fail
  refine (C1.out _ HF0.out).mono ?_
  rintro e w1 ⟨rfl, hf⟩
  have HF1 := Lib.hid (ff HF0.out hf)
  clear hf
  go_wp2_with fail
  refine (C2.out _ HF1.out).mono ?_
  rintro e w2 ⟨rfl, hf⟩
  have HF2 := Lib.hid (ff HF1.out hf)
  clear hf
  go_wp2_with fail
  refine (C3.out _).mono ?_
  rintro e w3 ⟨rfl, hf⟩
  have HF3 := Lib.hid (ff HF2.out hf)
  clear hf
  go_wp2_with fail
  refine (C4.out _).mono ?_
  rintro e w4 ⟨rfl, hf⟩
  have HF4 := Lib.hid (ff HF3.out hf)
  clear hf
  go_wp2_with fail
  refine (C5.out _).mono ?_
  rintro e w5 ⟨rfl, hf⟩
  have HF5 := Lib.hid (ff HF4.out hf)
  clear hf
  go_wp2_with fail
  refine (C6.out _ HF5.out).mono ?_
  rintro e w6 ⟨rfl, hf⟩
  have HF6 := Lib.hid (ff HF5.out hf)
  clear hf
  go_wp2_with fail
  refine (C7.out _).mono ?_
  rintro e w7 ⟨rfl, hf⟩
  have HF7 := Lib.hid (ff HF6.out hf)
  clear hf
  go_wp2_with fail
  go_ret
  exact ⟨rfl, HF7.out⟩
end Go.Proofs.YtognobpgagaamaaDoor
