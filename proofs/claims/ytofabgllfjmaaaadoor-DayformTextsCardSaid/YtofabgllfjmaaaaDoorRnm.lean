import Derived.Test.YtofabgllfjmaaaaDoorWee
namespace Go.Proofs.YtofabgllfjmaaaaDoor
open Go.RowKit Go.Mem Go.Dfm

abbrev namesA : Array Value := #[strV [83, 117, 110], strV [77, 111, 110], strV [84, 117, 101], strV [87, 101, 100], strV [84, 104, 117], strV [70, 114, 105], strV [83, 97, 116]]
/-- the slice at b holds the names of days -/
def NamesAt (w : World) (b : Nat) : Prop := Blk w b 9 namesA
theorem rnames_any (w : World) : Calls Tryd.prog 24 #[] w fun e w' => ∃ b, e = .returned (.slice (some ⟨b, 0, none⟩) 7 7) ∧ Fr w w' (fun _ => False) ∧ NamesAt w' b := by
  go_enter Tryd.func24, Tryd.ntmps24
  go_wp2_with fail
  go_ret
  exact ⟨w.heap.size, rfl, Fr.new _ _ _, Blk.made _ _ _⟩
theorem names_cells {w : World} {b : Nat} (h : NamesAt w b) : w.cell? ⟨b, 0, none⟩ = some (strV [83, 117, 110]) ∧ w.cell? ⟨b, 1, none⟩ = some (strV [77, 111, 110]) ∧ w.cell? ⟨b, 2, none⟩ = some (strV [84, 117, 101]) ∧ w.cell? ⟨b, 3, none⟩ = some (strV [87, 101, 100]) ∧ w.cell? ⟨b, 4, none⟩ = some (strV [84, 104, 117]) ∧ w.cell? ⟨b, 5, none⟩ = some (strV [70, 114, 105]) ∧ w.cell? ⟨b, 6, none⟩ = some (strV [83, 97, 116]) :=
  ⟨cell_at h 0, cell_at h 1, cell_at h 2, cell_at h 3, cell_at h 4, cell_at h 5, cell_at h 6⟩
set_option maxRecDepth 100000 in
theorem rname_any (l : Bs) (w : World) : Calls Tryd.prog 20 #[strV l] w fun e w' => e = .returned (.int .i64 (weekI l)) ∧ Fr w w' (fun _ => False) := by
  have HR := Lib.hid (rnames_any w)
  obtain ⟨z, hz⟩ : ∃ z, weekI l = z := ⟨_, rfl⟩
  have HZ := Lib.hid hz
  rw [hz]
  clear hz
  go_enter Tryd.func20, Tryd.ntmps20
  go_wp2_with fail
  refine HR.out.mono ?_
  rintro e w2 ⟨b, rfl, hf2, hb⟩
  have HF2 := Lib.hid hf2
  obtain ⟨c0, c1, c2, c3, c4, c5, c6⟩ := names_cells hb
  clear hf2 hb HR
  go_wp2_with fail
  go_loop [4] (fun v4 => ∃ k : Int, 0 ≤ k ∧ k ≤ 7 ∧ v4 = .int .i64 k ∧ ∀ j : Nat, (j : Int) < k → namesT.getD j [] ≠ l) (fun v4 => 7 - (intOf v4).toNat)
  case atStart => exact ⟨0, by omega, by omega, rfl, fun j h => absurd h (by omega)⟩
  case round =>
    obtain ⟨k, hk0, hk, rfl, hall⟩ := hrel
    have HA := Lib.hid hall
    clear hall
    have hk7 : k = 0 ∨ k = 1 ∨ k = 2 ∨ k = 3 ∨ k = 4 ∨ k = 5 ∨ k = 6 ∨ k = 7 := by omega
    clear hk hk0
    rcases hk7 with rfl | rfl | rfl | rfl | rfl | rfl | rfl | rfl
    · by_cases h : [83, 117, 110] = l
      · have hz : z = 0 := by rw [← HZ.out, ← h]; rfl
        subst hz h
        go_wp2_with fail
        go_ret
        exact ⟨rfl, HF2.out⟩
      · have h1 : (([83, 117, 110] : Bs) == l) = false := beq_eq_false_iff_ne.2 h
        have HN := Lib.hid h
        clear h
        go_wp2_with fail
        go_round
        case rel => exact ⟨1, by omega, by omega, by rfl, fun j hj => by
          by_cases e : j = 0
          · subst e; exact HN.out
          · exact HA.out j (by omega)⟩
        case measure => simp [intOf]
    · by_cases h : [77, 111, 110] = l
      · have hz : z = 1 := by rw [← HZ.out, ← h]; rfl
        subst hz h
        go_wp2_with fail
        go_ret
        exact ⟨rfl, HF2.out⟩
      · have h1 : (([77, 111, 110] : Bs) == l) = false := beq_eq_false_iff_ne.2 h
        have HN := Lib.hid h
        clear h
        go_wp2_with fail
        go_round
        case rel => exact ⟨2, by omega, by omega, by rfl, fun j hj => by
          by_cases e : j = 1
          · subst e; exact HN.out
          · exact HA.out j (by omega)⟩
        case measure => simp [intOf]
    · by_cases h : [84, 117, 101] = l
      · have hz : z = 2 := by rw [← HZ.out, ← h]; rfl
        subst hz h
        go_wp2_with fail
        go_ret
        exact ⟨rfl, HF2.out⟩
      · have h1 : (([84, 117, 101] : Bs) == l) = false := beq_eq_false_iff_ne.2 h
        have HN := Lib.hid h
        clear h
        go_wp2_with fail
        go_round
        case rel => exact ⟨3, by omega, by omega, by rfl, fun j hj => by
          by_cases e : j = 2
          · subst e; exact HN.out
          · exact HA.out j (by omega)⟩
        case measure => simp [intOf]
    · by_cases h : [87, 101, 100] = l
      · have hz : z = 3 := by rw [← HZ.out, ← h]; rfl
        subst hz h
        go_wp2_with fail
        go_ret
        exact ⟨rfl, HF2.out⟩
      · have h1 : (([87, 101, 100] : Bs) == l) = false := beq_eq_false_iff_ne.2 h
        have HN := Lib.hid h
        clear h
        go_wp2_with fail
        go_round
        case rel => exact ⟨4, by omega, by omega, by rfl, fun j hj => by
          by_cases e : j = 3
          · subst e; exact HN.out
          · exact HA.out j (by omega)⟩
        case measure => simp [intOf]
    · by_cases h : [84, 104, 117] = l
      · have hz : z = 4 := by rw [← HZ.out, ← h]; rfl
        subst hz h
        go_wp2_with fail
        go_ret
        exact ⟨rfl, HF2.out⟩
      · have h1 : (([84, 104, 117] : Bs) == l) = false := beq_eq_false_iff_ne.2 h
        have HN := Lib.hid h
        clear h
        go_wp2_with fail
        go_round
        case rel => exact ⟨5, by omega, by omega, by rfl, fun j hj => by
          by_cases e : j = 4
          · subst e; exact HN.out
          · exact HA.out j (by omega)⟩
        case measure => simp [intOf]
    · by_cases h : [70, 114, 105] = l
      · have hz : z = 5 := by rw [← HZ.out, ← h]; rfl
        subst hz h
        go_wp2_with fail
        go_ret
        exact ⟨rfl, HF2.out⟩
      · have h1 : (([70, 114, 105] : Bs) == l) = false := beq_eq_false_iff_ne.2 h
        have HN := Lib.hid h
        clear h
        go_wp2_with fail
        go_round
        case rel => exact ⟨6, by omega, by omega, by rfl, fun j hj => by
          by_cases e : j = 5
          · subst e; exact HN.out
          · exact HA.out j (by omega)⟩
        case measure => simp [intOf]
    · by_cases h : [83, 97, 116] = l
      · have hz : z = 6 := by rw [← HZ.out, ← h]; rfl
        subst hz h
        go_wp2_with fail
        go_ret
        exact ⟨rfl, HF2.out⟩
      · have h1 : (([83, 97, 116] : Bs) == l) = false := beq_eq_false_iff_ne.2 h
        have HN := Lib.hid h
        clear h
        go_wp2_with fail
        go_round
        case rel => exact ⟨7, by omega, by omega, by rfl, fun j hj => by
          by_cases e : j = 6
          · subst e; exact HN.out
          · exact HA.out j (by omega)⟩
        case measure => simp [intOf]
    · have hz : z = -1 := week_none HZ.out (fun j hj => HA.out j (by omega))
      subst hz
      go_wp2_with fail
      go_ret
      exact ⟨rfl, HF2.out⟩
end Go.Proofs.YtofabgllfjmaaaaDoor
