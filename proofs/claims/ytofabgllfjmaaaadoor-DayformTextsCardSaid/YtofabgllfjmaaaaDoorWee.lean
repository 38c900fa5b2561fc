import Derived.Test.YtofabgllfjmaaaaDoorLcs
namespace Go.Proofs.YtofabgllfjmaaaaDoor
open Go.RowKit Go.Mem Go.Dfm

theorem names_of {w : World} (hw : WOk w) : w.cell? ⟨1, 0, none⟩ = some (strV [83, 117, 110]) ∧ w.cell? ⟨1, 1, none⟩ = some (strV [77, 111, 110]) ∧ w.cell? ⟨1, 2, none⟩ = some (strV [84, 117, 101]) ∧ w.cell? ⟨1, 3, none⟩ = some (strV [87, 101, 100]) ∧ w.cell? ⟨1, 4, none⟩ = some (strV [84, 104, 117]) ∧ w.cell? ⟨1, 5, none⟩ = some (strV [70, 114, 105]) ∧ w.cell? ⟨1, 6, none⟩ = some (strV [83, 97, 116]) :=
  ⟨hw.names 0 (by decide), hw.names 1 (by decide), hw.names 2 (by decide), hw.names 3 (by decide), hw.names 4 (by decide), hw.names 5 (by decide), hw.names 6 (by decide)⟩
theorem week_none {l : Bs} {z : Int} (h : weekI l = z) (ha : ∀ j, j < 7 → namesT.getD j [] ≠ l) : z = -1 := by
  have h0 : ∀ j, j < 7 → ¬ l = namesT.getD j [] := fun j hj e => ha j hj e.symm
  have a0 : ¬ l = [83, 117, 110] := h0 0 (by decide)
  have a1 : ¬ l = [77, 111, 110] := h0 1 (by decide)
  have a2 : ¬ l = [84, 117, 101] := h0 2 (by decide)
  have a3 : ¬ l = [87, 101, 100] := h0 3 (by decide)
  have a4 : ¬ l = [84, 104, 117] := h0 4 (by decide)
  have a5 : ¬ l = [70, 114, 105] := h0 5 (by decide)
  have a6 : ¬ l = [83, 97, 116] := h0 6 (by decide)
  rw [← h, weekI, if_neg a0, if_neg a1, if_neg a2, if_neg a3, if_neg a4, if_neg a5, if_neg a6]
set_option maxRecDepth 100000 in
theorem week_any (l : Bs) (w : World) (hw : WOk w) : Calls Tryd.prog 31 #[strV l] w fun e w' => e = .returned (.int .i64 (weekI l)) ∧ w = w' := by
  obtain ⟨c0, c1, c2, c3, c4, c5, c6⟩ := names_of hw
  have i0 : ∀ w, (Instr.index 43 (.agg #[strV [83, 117, 110], strV [77, 111, 110], strV [84, 117, 101], strV [87, 101, 100], strV [84, 104, 117], strV [70, 114, 105], strV [83, 97, 116]]) (.int .i64 0)).run Tryd.prog w = .ok (strV [83, 117, 110]) w := fun _ => by kernel_rfl
  have i1 : ∀ w, (Instr.index 43 (.agg #[strV [83, 117, 110], strV [77, 111, 110], strV [84, 117, 101], strV [87, 101, 100], strV [84, 104, 117], strV [70, 114, 105], strV [83, 97, 116]]) (.int .i64 1)).run Tryd.prog w = .ok (strV [77, 111, 110]) w := fun _ => by kernel_rfl
  have i2 : ∀ w, (Instr.index 43 (.agg #[strV [83, 117, 110], strV [77, 111, 110], strV [84, 117, 101], strV [87, 101, 100], strV [84, 104, 117], strV [70, 114, 105], strV [83, 97, 116]]) (.int .i64 2)).run Tryd.prog w = .ok (strV [84, 117, 101]) w := fun _ => by kernel_rfl
  have i3 : ∀ w, (Instr.index 43 (.agg #[strV [83, 117, 110], strV [77, 111, 110], strV [84, 117, 101], strV [87, 101, 100], strV [84, 104, 117], strV [70, 114, 105], strV [83, 97, 116]]) (.int .i64 3)).run Tryd.prog w = .ok (strV [87, 101, 100]) w := fun _ => by kernel_rfl
  have i4 : ∀ w, (Instr.index 43 (.agg #[strV [83, 117, 110], strV [77, 111, 110], strV [84, 117, 101], strV [87, 101, 100], strV [84, 104, 117], strV [70, 114, 105], strV [83, 97, 116]]) (.int .i64 4)).run Tryd.prog w = .ok (strV [84, 104, 117]) w := fun _ => by kernel_rfl
  have i5 : ∀ w, (Instr.index 43 (.agg #[strV [83, 117, 110], strV [77, 111, 110], strV [84, 117, 101], strV [87, 101, 100], strV [84, 104, 117], strV [70, 114, 105], strV [83, 97, 116]]) (.int .i64 5)).run Tryd.prog w = .ok (strV [70, 114, 105]) w := fun _ => by kernel_rfl
  have i6 : ∀ w, (Instr.index 43 (.agg #[strV [83, 117, 110], strV [77, 111, 110], strV [84, 117, 101], strV [87, 101, 100], strV [84, 104, 117], strV [70, 114, 105], strV [83, 97, 116]]) (.int .i64 6)).run Tryd.prog w = .ok (strV [83, 97, 116]) w := fun _ => by kernel_rfl
  obtain ⟨z, hz⟩ : ∃ z, weekI l = z := ⟨_, rfl⟩
  have HZ := Lib.hid hz
  rw [hz]
  clear hz hw
  go_enter Tryd.func31, Tryd.ntmps31
  go_wp2_with fail
  go_loop [6] (fun v6 => ∃ k : Int, 0 ≤ k ∧ k ≤ 7 ∧ v6 = .int .i64 k ∧ ∀ j : Nat, (j : Int) < k → namesT.getD j [] ≠ l) (fun v6 => 7 - (intOf v6).toNat)
  case atStart => exact ⟨0, by omega, by omega, rfl, fun j h => absurd h (by omega)⟩
  case round =>
    obtain ⟨k, hk0, hk, rfl, hall⟩ := hrel
    have HA := Lib.hid hall
    clear hall
    have hk7 : k = 0 ∨ k = 1 ∨ k = 2 ∨ k = 3 ∨ k = 4 ∨ k = 5 ∨ k = 6 ∨ k = 7 := by omega
    clear hk hk0
    rcases hk7 with rfl | rfl | rfl | rfl | rfl | rfl | rfl | rfl
    · by_cases h : [83, 117, 110] = l
      · have hz : z = 0 := by rw [← HZ.out, ← h]; rfl
        subst hz h
        go_wp2_with fail
        go_ret
        exact ⟨rfl, rfl⟩
      · have h1 : (([83, 117, 110] : Bs) == l) = false := beq_eq_false_iff_ne.2 h
        have HN := Lib.hid h
        clear h
        go_wp2_with fail
        go_round
        case rel => exact ⟨1, by omega, by omega, by rfl, fun j hj => by
          by_cases e : j = 0
          · subst e; exact HN.out
          · exact HA.out j (by omega)⟩
        case measure => simp [intOf]
    · by_cases h : [77, 111, 110] = l
      · have hz : z = 1 := by rw [← HZ.out, ← h]; rfl
        subst hz h
        go_wp2_with fail
        go_ret
        exact ⟨rfl, rfl⟩
      · have h1 : (([77, 111, 110] : Bs) == l) = false := beq_eq_false_iff_ne.2 h
        have HN := Lib.hid h
        clear h
        go_wp2_with fail
        go_round
        case rel => exact ⟨2, by omega, by omega, by rfl, fun j hj => by
          by_cases e : j = 1
          · subst e; exact HN.out
          · exact HA.out j (by omega)⟩
        case measure => simp [intOf]
    · by_cases h : [84, 117, 101] = l
      · have hz : z = 2 := by rw [← HZ.out, ← h]; rfl
        subst hz h
        go_wp2_with fail
        go_ret
        exact ⟨rfl, rfl⟩
      · have h1 : (([84, 117, 101] : Bs) == l) = false := beq_eq_false_iff_ne.2 h
        have HN := Lib.hid h
        clear h
        go_wp2_with fail
        go_round
        case rel => exact ⟨3, by omega, by omega, by rfl, fun j hj => by
          by_cases e : j = 2
          · subst e; exact HN.out
          · exact HA.out j (by omega)⟩
        case measure => simp [intOf]
    · by_cases h : [87, 101, 100] = l
      · have hz : z = 3 := by rw [← HZ.out, ← h]; rfl
        subst hz h
        go_wp2_with fail
        go_ret
        exact ⟨rfl, rfl⟩
      · have h1 : (([87, 101, 100] : Bs) == l) = false := beq_eq_false_iff_ne.2 h
        have HN := Lib.hid h
        clear h
        go_wp2_with fail
        go_round
        case rel => exact ⟨4, by omega, by omega, by rfl, fun j hj => by
          by_cases e : j = 3
          · subst e; exact HN.out
          · exact HA.out j (by omega)⟩
        case measure => simp [intOf]
    · by_cases h : [84, 104, 117] = l
      · have hz : z = 4 := by rw [← HZ.out, ← h]; rfl
        subst hz h
        go_wp2_with fail
        go_ret
        exact ⟨rfl, rfl⟩
      · have h1 : (([84, 104, 117] : Bs) == l) = false := beq_eq_false_iff_ne.2 h
        have HN := Lib.hid h
        clear h
        go_wp2_with fail
        go_round
        case rel => exact ⟨5, by omega, by omega, by rfl, fun j hj => by
          by_cases e : j = 4
          · subst e; exact HN.out
          · exact HA.out j (by omega)⟩
        case measure => simp [intOf]
    · by_cases h : [70, 114, 105] = l
      · have hz : z = 5 := by rw [← HZ.out, ← h]; rfl
        subst hz h
        go_wp2_with fail
        go_ret
        exact ⟨rfl, rfl⟩
      · have h1 : (([70, 114, 105] : Bs) == l) = false := beq_eq_false_iff_ne.2 h
        have HN := Lib.hid h
        clear h
        go_wp2_with fail
        go_round
        case rel => exact ⟨6, by omega, by omega, by rfl, fun j hj => by
          by_cases e : j = 5
          · subst e; exact HN.out
          · exact HA.out j (by omega)⟩
        case measure => simp [intOf]
    · by_cases h : [83, 97, 116] = l
      · have hz : z = 6 := by rw [← HZ.out, ← h]; rfl
        subst hz h
        go_wp2_with fail
        go_ret
        exact ⟨rfl, rfl⟩
      · have h1 : (([83, 97, 116] : Bs) == l) = false := beq_eq_false_iff_ne.2 h
        have HN := Lib.hid h
        clear h
        go_wp2_with fail
        go_round
        case rel => exact ⟨7, by omega, by omega, by rfl, fun j hj => by
          by_cases e : j = 6
          · subst e; exact HN.out
          · exact HA.out j (by omega)⟩
        case measure => simp [intOf]
    · have hz : z = -1 := week_none HZ.out (fun j hj => HA.out j (by omega))
      subst hz
      go_wp2_with fail
      go_ret
      exact ⟨rfl, rfl⟩
end Go.Proofs.YtofabgllfjmaaaaDoor
