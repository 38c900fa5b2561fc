import Derived.Test.YtbolgodoifbnnaaDoorJow
namespace Go.Proofs.YtbolgodoifbnnaaDoor
open Go.RowKit Go.Mem Go.Esc

theorem ff {a c d : World} (h : Fr a c (fun _ => False)) (h2 : Fr c d (fun _ => False)) : Fr a d (fun _ => False) := h.trans h2 (fun _ _ h => h) (fun _ _ h => h)
theorem alive_fields : fieldsD [97, 32, 34, 98, 32, 99, 34] = .got [[97], [98, 32, 99]] [] := by kernel_rfl
theorem alive_join : joinL [[97], [98, 32, 99]] = [97, 32, 34, 98, 32, 99, 34] := by decide +kernel
theorem alive_quote : quoteL [10] = [34, 92, 110, 34] := by decide +kernel
theorem alive_any (w : World) : Calls Tryd.prog 7 #[] w fun e w' => e = .returned (.bool true) ∧ Fr w w' (fun _ => False) := by
  have HF := Lib.hid (Fields_any ⟨#[97, 32, 34, 98, 32, 99, 34]⟩ w (by show (7 : Nat) ≤ _; omega))
  rw [show (⟨#[97, 32, 34, 98, 32, 99, 34]⟩ : ByteArray).data.toList = [97, 32, 34, 98, 32, 99, 34] from rfl, alive_fields] at HF
  go_enter Tryd.func7, Tryd.ntmps7
  go_wp2_with fail
  refine HF.out.mono ?_
  rintro e w2 ⟨hf2, v2, rfl, hs2⟩
  obtain ⟨A2, c2, rfl, -, -, hrd, -, -⟩ := own_rd hs2
  obtain ⟨b, off, u, rfl, hu, hcell⟩ := hrd.at_ (k := 1) (by decide)
  have hu : strV [98, 32, 99] = u := by simpa using hu
  subst hu
  have HF2 := Lib.hid hf2
  have HJ := Lib.hid (Join_any _ 2 2 [[97], [98, 32, 99]] _ (rd_new w2 9 (0, 0) [strV [97], strV [98, 32, 99]]) ⟨by omega, by simp⟩)
  rw [alive_join] at HJ
  clear hf2 hs2 hrd
  go_wp2_with fail
  refine HJ.out.mono ?_
  rintro e w3 ⟨rfl, hf3⟩
  have hc3 := hf3.cell0 (((Fr.new w2 (.cells #[strV [97], strV [98, 32, 99]] 9) (fun _ => False))).cell0 hcell)
  have HF3 := Lib.hid hf3
  have HQ := Lib.hid (Quote_any ⟨#[10]⟩ w3 (by show (1 : Nat) ≤ _; omega))
  rw [show (⟨#[10]⟩ : ByteArray).data.toList = [10] from rfl, alive_quote] at HQ
  clear hf3 hcell
  go_wp2_with fail
  refine HQ.out.mono ?_
  rintro e w4 ⟨rfl, hf4⟩
  have hc4 := hf4.cell0 hc3
  have HF4 := Lib.hid hf4
  clear hf4 hc3
  go_wp2_with fail
  go_ret
  exact ⟨rfl, ff (ff (ff HF2.out (Fr.new _ _ _)) HF3.out) HF4.out⟩
end Go.Proofs.YtbolgodoifbnnaaDoor
