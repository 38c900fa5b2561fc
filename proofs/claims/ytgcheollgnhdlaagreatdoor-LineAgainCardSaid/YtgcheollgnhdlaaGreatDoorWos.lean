import Derived.Test.YtgcheollgnhdlaaGreatDoorTak
import Derived.Deep.LoopGhost
namespace Go.Proofs.YtgcheollgnhdlaaGreatDoor
open Go.RowKit Go.Mem Go.Lin

theorem slots_of {W : World} (h : LOk W) : W.cell? ⟨3, 0, none⟩ = some (strV [47]) ∧ W.cell? ⟨3, 1, none⟩ = some (strV [37, 115]) ∧ W.cell? ⟨3, 2, none⟩ = some (strV [37, 122]) := ⟨h.slots 0 (by omega), h.slots 1 (by omega), h.slots 2 (by omega)⟩
set_option maxRecDepth 100000 in
set_option maxHeartbeats 1600000 in
theorem without_any (l : Bs) (hl : l.length ≤ 100000) (w : World) (hw : LOk w) (T : Bs) (hT : withoutD slotW l = T) : Calls Tryz.prog 108 #[strV l] w fun e w' => e = .returned (strV T) ∧ Fr w w' (fun _ => False) := by
  obtain ⟨m0, m1, m2⟩ := slots_of hw
  have HC := Lib.hid (fun (m : Bs) (W : World) (f : Fr w W (fun _ => False)) => S6.Cut_any l m (by omega) W (hw.fr f).base)
  have i0 : ∀ w, (Instr.index 164 (.agg #[strV [47], strV [37, 115], strV [37, 122]]) (.int .i64 0)).run Tryz.prog w = .ok (strV [47]) w := fun _ => by kernel_rfl
  have i1 : ∀ w, (Instr.index 164 (.agg #[strV [47], strV [37, 115], strV [37, 122]]) (.int .i64 1)).run Tryz.prog w = .ok (strV [37, 115]) w := fun _ => by kernel_rfl
  have i2 : ∀ w, (Instr.index 164 (.agg #[strV [47], strV [37, 115], strV [37, 122]]) (.int .i64 2)).run Tryz.prog w = .ok (strV [37, 122]) w := fun _ => by kernel_rfl
  have HT := Lib.hid hT
  clear hT hw
  go_enter Tryz.func108, Tryz.ntmps108
  go_wp2_with fail
  go_loopg [9] 3 (fun g v9 wr => ∃ k : Nat, k + g = 3 ∧ v9 = .int .i64 (k : Int) ∧ withoutD (slotW.drop k) l = T ∧ Fr w wr (fun _ => False))
  case atStart => exact ⟨0, rfl, rfl, HT.out, Fr.refl _ _⟩
  case round =>
    obtain ⟨k, hk, rfl, hk2, hf⟩ := hrel
    have HK := Lib.hid hk2
    have HF := Lib.hid hf
    clear hk2 hf HT
    have hk3 : k = 0 ∨ k = 1 ∨ k = 2 ∨ k = 3 := by omega
    rcases hk3 with rfl | rfl | rfl | rfl
    · have HCk := Lib.hid (HC.out [47] _ HF.out)
      obtain ⟨a, ha⟩ : ∃ a, (Go.Lib.cut l [47]).1 = a := ⟨_, rfl⟩
      obtain ⟨c, hc⟩ : ∃ c, (Go.Lib.cut l [47]).2.1 = c := ⟨_, rfl⟩
      obtain ⟨x, hx⟩ : ∃ x, (Go.Lib.cut l [47]).2.2 = x := ⟨_, rfl⟩
      rw [ha, hc, hx] at HCk
      have HX := Lib.hid (show (if x = true then a ++ c else withoutD (slotW.drop 1) l) = T by rw [← ha, ← hc, ← hx]; exact HK.out)
      have HN := Lib.hid (show x = true → a.length + c.length ≤ l.length by rw [← ha, ← hc, ← hx]; exact cut_len)
      obtain rfl : gk = 3 := by omega
      clear ha hc hx HK hk
      cases x with
      | true =>
        have hle := HN.out rfl
        have R1 := fun W : World => S8.run_add_str (P := Tryz.prog) W a c (by omega)
        have hE : a ++ c = T := HX.out
        rw [hE] at R1
        clear HX HN hE
        go_wp2_with fail
        refine HCk.out.mono ?_
        rintro e w2 ⟨rfl, hf2⟩
        have HF2 := Lib.hid (ff HF.out hf2)
        clear hf2
        go_wp2_with fail
        go_ret
        exact ⟨rfl, HF2.out⟩
      | false =>
        have HX := Lib.hid (show withoutD (slotW.drop 1) l = T from HX.out)
        clear HN
        go_wp2_with fail
        refine HCk.out.mono ?_
        rintro e w2 ⟨rfl, hf2⟩
        have HF2 := Lib.hid (ff HF.out hf2)
        clear hf2
        go_wp2_with fail
        go_roundg 2
        case measure => omega
        case rel => exact ⟨1, rfl, rfl, HX.out, HF2.out⟩
    · have HCk := Lib.hid (HC.out [37, 115] _ HF.out)
      obtain ⟨a, ha⟩ : ∃ a, (Go.Lib.cut l [37, 115]).1 = a := ⟨_, rfl⟩
      obtain ⟨c, hc⟩ : ∃ c, (Go.Lib.cut l [37, 115]).2.1 = c := ⟨_, rfl⟩
      obtain ⟨x, hx⟩ : ∃ x, (Go.Lib.cut l [37, 115]).2.2 = x := ⟨_, rfl⟩
      rw [ha, hc, hx] at HCk
      have HX := Lib.hid (show (if x = true then a ++ c else withoutD (slotW.drop 2) l) = T by rw [← ha, ← hc, ← hx]; exact HK.out)
      have HN := Lib.hid (show x = true → a.length + c.length ≤ l.length by rw [← ha, ← hc, ← hx]; exact cut_len)
      obtain rfl : gk = 2 := by omega
      clear ha hc hx HK hk
      cases x with
      | true =>
        have hle := HN.out rfl
        have R1 := fun W : World => S8.run_add_str (P := Tryz.prog) W a c (by omega)
        have hE : a ++ c = T := HX.out
        rw [hE] at R1
        clear HX HN hE
        go_wp2_with fail
        refine HCk.out.mono ?_
        rintro e w2 ⟨rfl, hf2⟩
        have HF2 := Lib.hid (ff HF.out hf2)
        clear hf2
        go_wp2_with fail
        go_ret
        exact ⟨rfl, HF2.out⟩
      | false =>
        have HX := Lib.hid (show withoutD (slotW.drop 2) l = T from HX.out)
        clear HN
        go_wp2_with fail
        refine HCk.out.mono ?_
        rintro e w2 ⟨rfl, hf2⟩
        have HF2 := Lib.hid (ff HF.out hf2)
        clear hf2
        go_wp2_with fail
        go_roundg 1
        case measure => omega
        case rel => exact ⟨2, rfl, rfl, HX.out, HF2.out⟩
    · have HCk := Lib.hid (HC.out [37, 122] _ HF.out)
      obtain ⟨a, ha⟩ : ∃ a, (Go.Lib.cut l [37, 122]).1 = a := ⟨_, rfl⟩
      obtain ⟨c, hc⟩ : ∃ c, (Go.Lib.cut l [37, 122]).2.1 = c := ⟨_, rfl⟩
      obtain ⟨x, hx⟩ : ∃ x, (Go.Lib.cut l [37, 122]).2.2 = x := ⟨_, rfl⟩
      rw [ha, hc, hx] at HCk
      have HX := Lib.hid (show (if x = true then a ++ c else withoutD (slotW.drop 3) l) = T by rw [← ha, ← hc, ← hx]; exact HK.out)
      have HN := Lib.hid (show x = true → a.length + c.length ≤ l.length by rw [← ha, ← hc, ← hx]; exact cut_len)
      obtain rfl : gk = 1 := by omega
      clear ha hc hx HK hk
      cases x with
      | true =>
        have hle := HN.out rfl
        have R1 := fun W : World => S8.run_add_str (P := Tryz.prog) W a c (by omega)
        have hE : a ++ c = T := HX.out
        rw [hE] at R1
        clear HX HN hE
        go_wp2_with fail
        refine HCk.out.mono ?_
        rintro e w2 ⟨rfl, hf2⟩
        have HF2 := Lib.hid (ff HF.out hf2)
        clear hf2
        go_wp2_with fail
        go_ret
        exact ⟨rfl, HF2.out⟩
      | false =>
        have HX := Lib.hid (show withoutD (slotW.drop 3) l = T from HX.out)
        clear HN
        go_wp2_with fail
        refine HCk.out.mono ?_
        rintro e w2 ⟨rfl, hf2⟩
        have HF2 := Lib.hid (ff HF.out hf2)
        clear hf2
        go_wp2_with fail
        go_roundg 0
        case measure => omega
        case rel => exact ⟨3, rfl, rfl, HX.out, HF2.out⟩
    · have hE : l = T := HK.out
      subst hE
      clear HK
      go_wp2_with fail
      go_ret
      exact ⟨rfl, HF.out⟩
end Go.Proofs.YtgcheollgnhdlaaGreatDoor
