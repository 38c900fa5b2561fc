import Derived.Test.YtffljhieijnakaaRgn
namespace Go.Proofs.Ytffljhieijnakaa
open Go.RowKit Go.Mem Go.Rope

theorem alive_make : makeD [97, 98, 10, 99, 100] = ([97, 98, 10, 99, 100], 0) := by decide +kernel
theorem alive_off : offsetD [97, 98, 10, 99, 100] 1 1 = (4, 0) := by decide +kernel
theorem alive_spl : spliceD [97, 98, 10, 99, 100] 1 3 [120] = ([97, 120, 99, 100], 0) := by decide +kernel
theorem alive_feeds : feeds [97, 98, 10, 99, 100] = 1 := by decide +kernel
theorem alive_any (w : World) : Calls Try.prog 10 #[] w fun e w' => e = .returned (.bool true) ∧ Fr w w' (fun _ => False) := by
  have HM := Lib.hid (Make_any w _ _ _ alive_make)
  go_enter Try.func10, Try.ntmps10
  go_wp2_with fail
  refine HM.out.mono ?_
  rintro e w2 ⟨v, x, h, rfl, ro, hf⟩
  have HF := Lib.hid hf
  have HR := Lib.hid ro
  have HO := Lib.hid (Offset_any ro (by decide) 1 1 _ _ alive_off)
  have HS := Lib.hid (Splice_any ro (by decide) 1 3 [120] (by decide) _ _ alive_spl)
  clear hf ro
  go_wp2_with fail
  refine HO.out.mono ?_
  rintro e w3 ⟨rfl, rfl⟩
  go_wp2_with fail
  refine HS.out.mono ?_
  rintro e w3 ⟨v3, x3, h3, rfl, ro3, hf3⟩
  have HF3 := Lib.hid (ff HF.out hf3)
  have HR3 := Lib.hid (HR.out.keep hf3)
  have HT := Lib.hid (Text_any ro3 (by decide))
  clear hf3 ro3
  go_wp2_with fail
  refine HT.out.mono ?_
  rintro e w4 ⟨rfl, hf4⟩
  have HF4 := Lib.hid (ff HF3.out hf4)
  have HR4 := Lib.hid (HR3.out.keep hf4)
  have HT4 := Lib.hid (Text_any HR4.out (by decide))
  clear hf4
  go_wp2_with fail
  refine HT4.out.mono ?_
  rintro e w5 ⟨rfl, hf5⟩
  have HF5 := Lib.hid (ff HF4.out hf5)
  have HL5 := Lib.hid (Lines_any (HR4.out.keep hf5) (by decide))
  rw [alive_feeds] at HL5
  clear hf5
  go_wp2_with fail
  refine HL5.out.mono ?_
  rintro e w6 ⟨rfl, rfl⟩
  go_wp2_with fail
  go_ret
  exact ⟨rfl, HF5.out⟩
end Go.Proofs.Ytffljhieijnakaa
