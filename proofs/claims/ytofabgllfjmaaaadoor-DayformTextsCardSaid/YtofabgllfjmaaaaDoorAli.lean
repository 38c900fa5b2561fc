import Derived.Test.YtofabgllfjmaaaaDoorOfd
import Derived.Test.YtofabgllfjmaaaaDoorRnm
namespace Go.Proofs.YtofabgllfjmaaaaDoor
open Go.RowKit Go.Mem Go.Dfm

theorem day_cells {w w' : World} {k d q : Int} (h : Fr (w.alloc (dayC k d q)) w' (fun _ => False)) : w'.cell? ⟨w.heap.size, 0, none⟩ = some (.int .i64 k) ∧ w'.cell? ⟨w.heap.size, 1, none⟩ = some (.int .i64 d) ∧ w'.cell? ⟨w.heap.size, 2, none⟩ = some (.int .i64 q) := by
  have hb := Blk.made w 23 #[.int .i64 k, .int .i64 d, .int .i64 q]
  exact ⟨h.cell0 (cell_at hb 0), h.cell0 (cell_at hb 1), h.cell0 (cell_at hb 2)⟩
theorem alive_a : parseD [108, 97, 115, 116, 83, 117, 110] = (1, 0, 0, 0) := by
  have h := parse_text (k := 1) (d := 0) (w := 0) (by decide)
  rw [show textD 1 0 0 = [108, 97, 115, 116, 83, 117, 110] by decide] at h
  exact h
theorem alive_b : parseD [83, 117, 110, 62, 61, 56] = (2, 8, 0, 0) := by
  have h := parse_text (k := 2) (d := 8) (w := 0) (by decide)
  have e : textD 2 8 0 = nameI 0 ++ geL ++ Lib.itoa 8 := rfl
  rw [e, itoa_small (by decide) (by decide)] at h
  exact h
theorem alive_k1 : daysK 2024 3 31 = 19813 ∧ daysE 2024 3 31 = 0 := by decide
theorem alive_k2 : daysK 2024 3 10 = 19792 ∧ daysE 2024 3 10 = 0 := by decide
theorem alive_o1 : ofD 1 0 0 2024 3 = (19813, 0) := by decide
theorem alive_o2 : ofD 2 8 0 2024 3 = (19792, 0) := by decide
set_option maxHeartbeats 1600000 in
theorem alive_any (w : World) (hw : WOk w) : Calls Tryd.prog 7 #[] w fun e w' => e = .returned (.bool true) ∧ Fr w w' (fun _ => False) := by
  have H1 := Lib.hid (Parse_any [108, 97, 115, 116, 83, 117, 110] (by decide) w hw 1 0 0 0 alive_a)
  have H2 := Lib.hid (fun W (f : Fr w W (fun _ => False)) => Parse_any [83, 117, 110, 62, 61, 56] (by decide) W (hw.fr f) 2 8 0 0 alive_b)
  have H3 := Lib.hid (fun W (f : Fr w W (fun _ => False)) => Of_any 1 0 0 2024 3 W (hw.fr f) _ _ alive_o1)
  have H4 := Lib.hid (fun W (f : Fr w W (fun _ => False)) => Of_any 2 8 0 2024 3 W (hw.fr f) _ _ alive_o2)
  have H5 := Lib.hid (fun W (f : Fr w W (fun _ => False)) => Days_any 2024 3 31 W (hw.fr f).lok)
  have H6 := Lib.hid (fun W (f : Fr w W (fun _ => False)) => Days_any 2024 3 10 W (hw.fr f).lok)
  rw [alive_k1.1, alive_k1.2] at H5
  rw [alive_k2.1, alive_k2.2] at H6
  clear hw
  go_enter Tryd.func7, Tryd.ntmps7
  go_wp2_with fail
  refine H1.out.mono ?_
  rintro e w2 ⟨rfl, hf2⟩
  have HA2 := Lib.hid (Fr.refl (w2.alloc (dayC 1 0 0)) (fun _ => False))
  have HF2 := Lib.hid (ff hf2 (Fr.new w2 (dayC 1 0 0) (fun _ => False)))
  clear hf2
  go_wp2_with fail
  refine (H2.out _ HF2.out).mono ?_
  rintro e w3 ⟨rfl, hf3⟩
  have HA3 := Lib.hid (ff hf3 (Fr.new w3 (dayC 2 8 0) (fun _ => False)))
  have HB3 := Lib.hid (Fr.refl (w3.alloc (dayC 2 8 0)) (fun _ => False))
  have HF3 := Lib.hid (ff HF2.out HA3.out)
  obtain ⟨c0, c1, c2⟩ := day_cells HA3.out
  clear hf3
  go_wp2_with fail
  refine (H3.out _ HF3.out).mono ?_
  rintro e w4 ⟨rfl, hf4⟩
  have HF4 := Lib.hid (ff HF3.out hf4)
  obtain ⟨d0, d1, d2⟩ := day_cells hf4
  clear hf4
  go_wp2_with fail
  refine (H4.out _ HF4.out).mono ?_
  rintro e w5 ⟨rfl, hf5⟩
  have HF5 := Lib.hid (ff HF4.out hf5)
  clear hf5
  go_wp2_with fail
  refine (H5.out _ HF5.out).mono ?_
  rintro e w6 ⟨rfl, hf6⟩
  have HF6 := Lib.hid (ff HF5.out hf6)
  clear hf6
  go_wp2_with fail
  refine (H6.out _ HF6.out).mono ?_
  rintro e w7 ⟨rfl, hf7⟩
  have HF7 := Lib.hid (ff HF6.out hf7)
  clear hf7
  go_wp2_with fail
  go_ret
  exact ⟨rfl, HF7.out⟩
end Go.Proofs.YtofabgllfjmaaaaDoor
