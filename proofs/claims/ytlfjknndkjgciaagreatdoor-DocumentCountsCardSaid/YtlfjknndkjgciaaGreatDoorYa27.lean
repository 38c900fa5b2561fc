import Derived.Test.YtlfjknndkjgciaaGreatDoorYa26
import Derived.Test.YtlfjknndkjgciaaGreatDoorYa07
namespace Go.Proofs.YtlfjknndkjgciaaGreatDoor
open Go.RowKit Go.Mem Go.Lin Go.Dcm

theorem infoDiag1 : (Tryz.prog.info? 65).map (·.size) = some 4 := by kernel_rfl
theorem infoRR1 : (Tryz.prog.info? 61).map (·.size) = some 12 := by kernel_rfl
theorem infoRL1 : (Tryz.prog.info? 63).map (·.size) = some 3 := by kernel_rfl
theorem infoRZ1 : (Tryz.prog.info? 69).map (·.size) = some 3 := by kernel_rfl
theorem int_at {w : World} {A : Option Addr} {l : List Int} (h : Rd w 1 A l.length (l.flatMap intL)) {i : Nat} (hi : i < l.length) : ∃ b off, A = some ⟨b, off, none⟩ ∧ w.cell? ⟨b, off + i, none⟩ = some (intV l[i]) := int_cell h hi
set_option maxRecDepth 100000 in
set_option maxHeartbeats 1600000 in
theorem Diags_any (l : List DiagL) (A B : Option Addr) (ca cb : Nat) (w : World) (h1 : Rd w 4 A l.length (l.flatMap diagL)) (h2 : Rd w 4 B l.length (l.flatMap diagL)) (hm : l.length ≤ 1000000) : Calls Tryz.prog 22 #[.slice A l.length ca, .slice B l.length cb] w (TrueR w) := by
  have H1 := Lib.hid h1
  have H2 := Lib.hid h2
  clear h1 h2
  go_enter Tryz.func22, Tryz.ntmps22
  go_wp2_with fail
  go_loopg [5] l.length (fun k v5 wr => ∃ i : Nat, i + k = l.length ∧ v5 = intV (i : Int) ∧ Fr w wr (fun _ => False))
  case atStart => exact ⟨0, by simp, rfl, Fr.refl _ _⟩
  case round =>
    obtain ⟨i, hik, rfl, hf⟩ := hrel
    by_cases hlt : i < l.length
    · have hi1 : (i : Int) < (l.length : Int) := by omega
      obtain ⟨b1, o1, rfl, c1⟩ := elem_at diagL_len (Rd.fr H1.out hf (fun _ _ _ _ h => h)) hlt
      obtain ⟨b2, o2, rfl, c2⟩ := elem_at diagL_len (Rd.fr H2.out hf (fun _ _ _ _ h => h)) hlt
      obtain ⟨x, hx⟩ : ∃ x, l[i] = x := ⟨_, rfl⟩
      rw [hx] at c1 c2
      have HF := Lib.hid hf
      have C1 := Lib.hid c1
      have C2 := Lib.hid c2
      clear c1 c2
      clear hx hf
      go_wp2_with fail
      refine wp_region_held_drew (S := fun w' => Fr wr w' (fun _ => False)) (by kernel_rfl) (Fr.drew wr _) (fun hHeld => ?_)
      refine wpAnyH_take (i := 0) (v := ?_) rfl (by kernel_rfl) (by kernel_rfl) (by kernel_rfl) (fun _ _ _ h => h) (Or.inl ⟨by rfl, ?_⟩) (by assumption) ?_
      rotate_left
      · intro w' hSw
        skip
        go_simp
        try with_reducible rfl
      try simp only [Act.put, List.setIfInBounds_toArray, List.set_cons_zero, List.set_cons_succ, List.getElem_toArray, List.getElem_cons_zero]
      refine wpAnyH_take (i := 1) (v := ?_) rfl (by kernel_rfl) (by kernel_rfl) (by kernel_rfl) (fun _ _ _ h => h) (Or.inl ⟨by rfl, ?_⟩) (by assumption) ?_
      rotate_left
      · intro w' hSw
        skip
        go_simp
        try with_reducible rfl
      try simp only [Act.put, List.setIfInBounds_toArray, List.set_cons_zero, List.set_cons_succ, List.getElem_toArray, List.getElem_cons_succ, List.getElem_cons_zero]
      refine wpAnyH_take (i := 2) (v := ?_) rfl (by kernel_rfl) (by kernel_rfl) (by kernel_rfl) (fun _ _ _ h => h) (Or.inl ⟨by rfl, ?_⟩) (by assumption) ?_
      rotate_left
      · intro w' hSw
        skip
        go_simp
        try with_reducible rfl
      try simp only [Act.put, List.setIfInBounds_toArray, List.set_cons_zero, List.set_cons_succ, List.getElem_toArray, List.getElem_cons_succ, List.getElem_cons_zero]
      refine wpAnyH_take (i := 3) (v := _) rfl (by kernel_rfl) (by kernel_rfl) (by kernel_rfl) (fun _ _ _ h => h) (yields_at 65 _ b1 (o1 + i * 4) (diagL x).toArray _ (by rfl) rfl (by rfl) (fun w' h => cells_far h C1.out (Nat.le_refl _) (fun h => h)) Tryz.underlying65 rfl infoDiag1) (by assumption) ?_
      try simp only [Act.put, List.setIfInBounds_toArray, List.set_cons_zero, List.set_cons_succ, List.getElem_toArray, List.getElem_cons_succ, List.getElem_cons_zero]
      refine wpAnyH_take (i := 4) (v := ?_) rfl (by kernel_rfl) (by kernel_rfl) (by kernel_rfl) (fun _ _ _ h => h) (Or.inl ⟨by rfl, ?_⟩) (by assumption) ?_
      rotate_left
      · intro w' hSw
        skip
        go_simp
        try with_reducible rfl
      try simp only [Act.put, List.setIfInBounds_toArray, List.set_cons_zero, List.set_cons_succ, List.getElem_toArray, List.getElem_cons_succ, List.getElem_cons_zero]
      refine wpAnyH_take (i := 5) (v := ?_) rfl (by kernel_rfl) (by kernel_rfl) (by kernel_rfl) (fun _ _ _ h => h) (Or.inl ⟨by rfl, ?_⟩) (by assumption) ?_
      rotate_left
      · intro w' hSw
        skip
        go_simp
        try with_reducible rfl
      try simp only [Act.put, List.setIfInBounds_toArray, List.set_cons_zero, List.set_cons_succ, List.getElem_toArray, List.getElem_cons_succ, List.getElem_cons_zero]
      refine wpAnyH_take (i := 6) (v := ?_) rfl (by kernel_rfl) (by kernel_rfl) (by kernel_rfl) (fun _ _ _ h => h) (Or.inl ⟨by rfl, ?_⟩) (by assumption) ?_
      rotate_left
      · intro w' hSw
        skip
        go_simp
        try with_reducible rfl
      try simp only [Act.put, List.setIfInBounds_toArray, List.set_cons_zero, List.set_cons_succ, List.getElem_toArray, List.getElem_cons_succ, List.getElem_cons_zero]
      refine wpAnyH_take (i := 7) (v := _) rfl (by kernel_rfl) (by kernel_rfl) (by kernel_rfl) (fun _ _ _ h => h) (yields_at 65 _ b2 (o2 + i * 4) (diagL x).toArray _ (by rfl) rfl (by rfl) (fun w' h => cells_far h C2.out (Nat.le_refl _) (fun h => h)) Tryz.underlying65 rfl infoDiag1) (by assumption) ?_
      try simp only [Act.put, List.setIfInBounds_toArray, List.set_cons_zero, List.set_cons_succ, List.getElem_toArray, List.getElem_cons_succ, List.getElem_cons_zero]
      refine wpAnyH_take (i := 8) (v := _) rfl (by kernel_rfl) (by kernel_rfl) (by kernel_rfl) (fun _ _ _ h => h) (yields_neq (by rfl) rfl (by rfl) (by rfl) (guard_diag _ _ _ _) (same_diag x)) (by assumption) ?_
      try simp only [Act.put, List.setIfInBounds_toArray, List.set_cons_zero, List.set_cons_succ, List.getElem_toArray, List.getElem_cons_succ, List.getElem_cons_zero]
      refine wpAnyH_done (by kernel_rfl) ?_ _
      clear hHeld
      have HD := Lib.hid (ff0 HF.out (Fr.drew wr (fun _ => False)))
      go_wp2_with fail
      go_roundg (l.length - (i + 1))
      case measure => omega
      case rel => exact ⟨i + 1, by omega, by go_num, HD.out⟩
    · obtain rfl : i = l.length := by omega
      have hi1 : (l.length : Int) ≤ (l.length : Int) := Int.le_refl _
      have HF := Lib.hid hf
      clear hf
      go_wp2_with fail
      go_ret
      exact ⟨rfl, HF.out⟩
set_option maxRecDepth 100000 in
set_option maxHeartbeats 1600000 in
theorem Eras_any (l : List EraL) (A B : Option Addr) (ca cb : Nat) (w : World) (h1 : Rd w 13 A l.length (l.flatMap eraL)) (h2 : Rd w 13 B l.length (l.flatMap eraL)) (hm : l.length ≤ 1000000) : Calls Tryz.prog 23 #[.slice A l.length ca, .slice B l.length cb] w (TrueR w) := by
  have H1 := Lib.hid h1
  have H2 := Lib.hid h2
  clear h1 h2
  go_enter Tryz.func23, Tryz.ntmps23
  go_wp2_with fail
  go_loopg [5] l.length (fun k v5 wr => ∃ i : Nat, i + k = l.length ∧ v5 = intV (i : Int) ∧ Fr w wr (fun _ => False))
  case atStart => exact ⟨0, by simp, rfl, Fr.refl _ _⟩
  case round =>
    obtain ⟨i, hik, rfl, hf⟩ := hrel
    by_cases hlt : i < l.length
    · have hi1 : (i : Int) < (l.length : Int) := by omega
      obtain ⟨b1, o1, rfl, c1⟩ := elem_at eraL_len (Rd.fr H1.out hf (fun _ _ _ _ h => h)) hlt
      obtain ⟨b2, o2, rfl, c2⟩ := elem_at eraL_len (Rd.fr H2.out hf (fun _ _ _ _ h => h)) hlt
      obtain ⟨x, hx⟩ : ∃ x, l[i] = x := ⟨_, rfl⟩
      rw [hx] at c1 c2
      have HF := Lib.hid hf
      have C1 := Lib.hid c1
      have C2 := Lib.hid c2
      clear c1 c2
      clear hx hf
      go_wp2_with fail
      refine wp_region_held_drew (S := fun w' => Fr wr w' (fun _ => False)) (by kernel_rfl) (Fr.drew wr _) (fun hHeld => ?_)
      refine wpAnyH_take (i := 0) (v := ?_) rfl (by kernel_rfl) (by kernel_rfl) (by kernel_rfl) (fun _ _ _ h => h) (Or.inl ⟨by rfl, ?_⟩) (by assumption) ?_
      rotate_left
      · intro w' hSw
        skip
        go_simp
        try with_reducible rfl
      try simp only [Act.put, List.setIfInBounds_toArray, List.set_cons_zero, List.set_cons_succ, List.getElem_toArray, List.getElem_cons_zero]
      refine wpAnyH_take (i := 1) (v := ?_) rfl (by kernel_rfl) (by kernel_rfl) (by kernel_rfl) (fun _ _ _ h => h) (Or.inl ⟨by rfl, ?_⟩) (by assumption) ?_
      rotate_left
      · intro w' hSw
        skip
        go_simp
        try with_reducible rfl
      try simp only [Act.put, List.setIfInBounds_toArray, List.set_cons_zero, List.set_cons_succ, List.getElem_toArray, List.getElem_cons_succ, List.getElem_cons_zero]
      refine wpAnyH_take (i := 2) (v := ?_) rfl (by kernel_rfl) (by kernel_rfl) (by kernel_rfl) (fun _ _ _ h => h) (Or.inl ⟨by rfl, ?_⟩) (by assumption) ?_
      rotate_left
      · intro w' hSw
        skip
        go_simp
        try with_reducible rfl
      try simp only [Act.put, List.setIfInBounds_toArray, List.set_cons_zero, List.set_cons_succ, List.getElem_toArray, List.getElem_cons_succ, List.getElem_cons_zero]
      refine wpAnyH_take (i := 3) (v := _) rfl (by kernel_rfl) (by kernel_rfl) (by kernel_rfl) (fun _ _ _ h => h) (yields_at 55 _ b1 (o1 + i * 13) (eraL x).toArray _ (by rfl) rfl (by rfl) (fun w' h => cells_far h C1.out (Nat.le_refl _) (fun h => h)) Tryz.underlying55 rfl (show _ = some 13 by kernel_rfl)) (by assumption) ?_
      try simp only [Act.put, List.setIfInBounds_toArray, List.set_cons_zero, List.set_cons_succ, List.getElem_toArray, List.getElem_cons_succ, List.getElem_cons_zero]
      refine wpAnyH_take (i := 4) (v := ?_) rfl (by kernel_rfl) (by kernel_rfl) (by kernel_rfl) (fun _ _ _ h => h) (Or.inl ⟨by rfl, ?_⟩) (by assumption) ?_
      rotate_left
      · intro w' hSw
        skip
        go_simp
        try with_reducible rfl
      try simp only [Act.put, List.setIfInBounds_toArray, List.set_cons_zero, List.set_cons_succ, List.getElem_toArray, List.getElem_cons_succ, List.getElem_cons_zero]
      refine wpAnyH_take (i := 5) (v := ?_) rfl (by kernel_rfl) (by kernel_rfl) (by kernel_rfl) (fun _ _ _ h => h) (Or.inl ⟨by rfl, ?_⟩) (by assumption) ?_
      rotate_left
      · intro w' hSw
        skip
        go_simp
        try with_reducible rfl
      try simp only [Act.put, List.setIfInBounds_toArray, List.set_cons_zero, List.set_cons_succ, List.getElem_toArray, List.getElem_cons_succ, List.getElem_cons_zero]
      refine wpAnyH_take (i := 6) (v := ?_) rfl (by kernel_rfl) (by kernel_rfl) (by kernel_rfl) (fun _ _ _ h => h) (Or.inl ⟨by rfl, ?_⟩) (by assumption) ?_
      rotate_left
      · intro w' hSw
        skip
        go_simp
        try with_reducible rfl
      try simp only [Act.put, List.setIfInBounds_toArray, List.set_cons_zero, List.set_cons_succ, List.getElem_toArray, List.getElem_cons_succ, List.getElem_cons_zero]
      refine wpAnyH_take (i := 7) (v := _) rfl (by kernel_rfl) (by kernel_rfl) (by kernel_rfl) (fun _ _ _ h => h) (yields_at 55 _ b2 (o2 + i * 13) (eraL x).toArray _ (by rfl) rfl (by rfl) (fun w' h => cells_far h C2.out (Nat.le_refl _) (fun h => h)) Tryz.underlying55 rfl (show _ = some 13 by kernel_rfl)) (by assumption) ?_
      try simp only [Act.put, List.setIfInBounds_toArray, List.set_cons_zero, List.set_cons_succ, List.getElem_toArray, List.getElem_cons_succ, List.getElem_cons_zero]
      refine wpAnyH_take (i := 8) (v := _) rfl (by kernel_rfl) (by kernel_rfl) (by kernel_rfl) (fun _ _ _ h => h) (yields_neq (by rfl) rfl (by rfl) (by rfl) (guard_era _ _ _ _) (show ∀ w, (binOp .neq 55 (.agg (eraL x).toArray) (.agg (eraL x).toArray)).run Tryz.prog w = .ok (.bool false) w from same_era x)) (by assumption) ?_
      try simp only [Act.put, List.setIfInBounds_toArray, List.set_cons_zero, List.set_cons_succ, List.getElem_toArray, List.getElem_cons_succ, List.getElem_cons_zero]
      refine wpAnyH_done (by kernel_rfl) ?_ _
      clear hHeld
      have HD := Lib.hid (ff0 HF.out (Fr.drew wr (fun _ => False)))
      go_wp2_with fail
      go_roundg (l.length - (i + 1))
      case measure => omega
      case rel => exact ⟨i + 1, by omega, by go_num, HD.out⟩
    · obtain rfl : i = l.length := by omega
      have hi1 : (l.length : Int) ≤ (l.length : Int) := Int.le_refl _
      have HF := Lib.hid hf
      clear hf
      go_wp2_with fail
      go_ret
      exact ⟨rfl, HF.out⟩
set_option maxRecDepth 100000 in
set_option maxHeartbeats 1600000 in
theorem Ints_any (l : List Int) (A B : Option Addr) (ca cb : Nat) (w : World) (h1 : Rd w 1 A l.length (l.flatMap intL)) (h2 : Rd w 1 B l.length (l.flatMap intL)) (hm : l.length ≤ 1000000) : Calls Tryz.prog 24 #[.slice A l.length ca, .slice B l.length cb] w (TrueR w) := by
  have H1 := Lib.hid h1
  have H2 := Lib.hid h2
  clear h1 h2
  go_enter Tryz.func24, Tryz.ntmps24
  go_wp2_with fail
  go_loopg [5] l.length (fun k v5 wr => ∃ i : Nat, i + k = l.length ∧ v5 = intV (i : Int) ∧ Fr w wr (fun _ => False))
  case atStart => exact ⟨0, by simp, rfl, Fr.refl _ _⟩
  case round =>
    obtain ⟨i, hik, rfl, hf⟩ := hrel
    by_cases hlt : i < l.length
    · have hi1 : (i : Int) < (l.length : Int) := by omega
      obtain ⟨b1, o1, rfl, c1⟩ := int_at (Rd.fr H1.out hf (fun _ _ _ _ h => h)) hlt
      obtain ⟨b2, o2, rfl, c2⟩ := int_at (Rd.fr H2.out hf (fun _ _ _ _ h => h)) hlt
      obtain ⟨x, hx⟩ : ∃ x, l[i] = x := ⟨_, rfl⟩
      rw [hx] at c1 c2
      have HF := Lib.hid hf
      clear hx hf
      go_wp2_with fail
      refine wp_region_held_drew (S := fun w' => Fr wr w' (fun _ => False)) (by kernel_rfl) (Fr.drew wr _) (fun hHeld => ?_)
      refine wpAnyH_take (i := 0) (v := ?_) rfl (by kernel_rfl) (by kernel_rfl) (by kernel_rfl) (fun _ _ _ h => h) (Or.inl ⟨by rfl, ?_⟩) (by assumption) ?_
      rotate_left
      · intro w' hSw
        skip
        go_simp
        try with_reducible rfl
      try simp only [Act.put, List.setIfInBounds_toArray, List.set_cons_zero, List.set_cons_succ, List.getElem_toArray, List.getElem_cons_zero]
      refine wpAnyH_take (i := 1) (v := ?_) rfl (by kernel_rfl) (by kernel_rfl) (by kernel_rfl) (fun _ _ _ h => h) (Or.inl ⟨by rfl, ?_⟩) (by assumption) ?_
      rotate_left
      · intro w' hSw
        skip
        go_simp
        try with_reducible rfl
      try simp only [Act.put, List.setIfInBounds_toArray, List.set_cons_zero, List.set_cons_succ, List.getElem_toArray, List.getElem_cons_succ, List.getElem_cons_zero]
      refine wpAnyH_take (i := 2) (v := ?_) rfl (by kernel_rfl) (by kernel_rfl) (by kernel_rfl) (fun _ _ _ h => h) (Or.inl ⟨by rfl, ?_⟩) (by assumption) ?_
      rotate_left
      · intro w' hSw
        skip
        go_simp
        try with_reducible rfl
      try simp only [Act.put, List.setIfInBounds_toArray, List.set_cons_zero, List.set_cons_succ, List.getElem_toArray, List.getElem_cons_succ, List.getElem_cons_zero]
      refine wpAnyH_take (i := 3) (v := ?_) rfl (by kernel_rfl) (by kernel_rfl) (by kernel_rfl) (fun _ _ _ h => h) (Or.inl ⟨by rfl, ?_⟩) (by assumption) ?_
      rotate_left
      · intro w' hSw
        have k1 := cell_far hSw c1 (fun h => h)
        go_simp
        try with_reducible rfl
      try simp only [Act.put, List.setIfInBounds_toArray, List.set_cons_zero, List.set_cons_succ, List.getElem_toArray, List.getElem_cons_succ, List.getElem_cons_zero]
      refine wpAnyH_take (i := 4) (v := ?_) rfl (by kernel_rfl) (by kernel_rfl) (by kernel_rfl) (fun _ _ _ h => h) (Or.inl ⟨by rfl, ?_⟩) (by assumption) ?_
      rotate_left
      · intro w' hSw
        skip
        go_simp
        try with_reducible rfl
      try simp only [Act.put, List.setIfInBounds_toArray, List.set_cons_zero, List.set_cons_succ, List.getElem_toArray, List.getElem_cons_succ, List.getElem_cons_zero]
      refine wpAnyH_take (i := 5) (v := ?_) rfl (by kernel_rfl) (by kernel_rfl) (by kernel_rfl) (fun _ _ _ h => h) (Or.inl ⟨by rfl, ?_⟩) (by assumption) ?_
      rotate_left
      · intro w' hSw
        skip
        go_simp
        try with_reducible rfl
      try simp only [Act.put, List.setIfInBounds_toArray, List.set_cons_zero, List.set_cons_succ, List.getElem_toArray, List.getElem_cons_succ, List.getElem_cons_zero]
      refine wpAnyH_take (i := 6) (v := ?_) rfl (by kernel_rfl) (by kernel_rfl) (by kernel_rfl) (fun _ _ _ h => h) (Or.inl ⟨by rfl, ?_⟩) (by assumption) ?_
      rotate_left
      · intro w' hSw
        skip
        go_simp
        try with_reducible rfl
      try simp only [Act.put, List.setIfInBounds_toArray, List.set_cons_zero, List.set_cons_succ, List.getElem_toArray, List.getElem_cons_succ, List.getElem_cons_zero]
      refine wpAnyH_take (i := 7) (v := ?_) rfl (by kernel_rfl) (by kernel_rfl) (by kernel_rfl) (fun _ _ _ h => h) (Or.inl ⟨by rfl, ?_⟩) (by assumption) ?_
      rotate_left
      · intro w' hSw
        have k2 := cell_far hSw c2 (fun h => h)
        go_simp
        try with_reducible rfl
      try simp only [Act.put, List.setIfInBounds_toArray, List.set_cons_zero, List.set_cons_succ, List.getElem_toArray, List.getElem_cons_succ, List.getElem_cons_zero]
      refine wpAnyH_take (i := 8) (v := ?_) rfl (by kernel_rfl) (by kernel_rfl) (by kernel_rfl) (fun _ _ _ h => h) (Or.inl ⟨by rfl, ?_⟩) (by assumption) ?_
      rotate_left
      · intro w' hSw
        skip
        go_simp
        try with_reducible rfl
      try simp only [Act.put, List.setIfInBounds_toArray, List.set_cons_zero, List.set_cons_succ, List.getElem_toArray, List.getElem_cons_succ, List.getElem_cons_zero]
      refine wpAnyH_done (by kernel_rfl) ?_ _
      clear hHeld
      have HD := Lib.hid (ff0 HF.out (Fr.drew wr (fun _ => False)))
      go_wp2_with fail
      go_roundg (l.length - (i + 1))
      case measure => omega
      case rel => exact ⟨i + 1, by omega, by go_num, HD.out⟩
    · obtain rfl : i = l.length := by omega
      have hi1 : (l.length : Int) ≤ (l.length : Int) := Int.le_refl _
      have HF := Lib.hid hf
      clear hf
      go_wp2_with fail
      go_ret
      exact ⟨rfl, HF.out⟩
end Go.Proofs.YtlfjknndkjgciaaGreatDoor
namespace Go.Proofs.YtlfjknndkjgciaaGreatDoor
open Go.RowKit Go.Mem Go.Lin Go.Dcm

theorem diag_cells {w : World} {A : Option Addr} {l : List DiagL} (h : Rd w 4 A l.length (l.flatMap diagL)) {i : Nat} (hi : i < l.length) : ∃ b off, A = some ⟨b, off, none⟩ ∧ w.cell? ⟨b, off + i * 4 + 3, none⟩ = some (intV l[i].k) := by
  obtain ⟨b, off, e, hc⟩ := rows_at diagL_len h (List.getElem?_eq_getElem hi)
  exact ⟨b, off, e, hc 3 (by omega)⟩
theorem rule_cells {w : World} {A : Option Addr} {l : List (RuleL × Int)} (h : Rd w 12 A l.length (l.flatMap ruleL)) {i : Nat} (hi : i < l.length) : ∃ b off, A = some ⟨b, off, none⟩ ∧ ∀ j, j < 12 → w.cell? ⟨b, off + i * 12 + j, none⟩ = (ruleL l[i])[j]? := rows_at ruleL_len h (List.getElem?_eq_getElem hi)
theorem rule_part (r : RuleL × Int) : ∀ j, j < (ruleC r.1).size → (ruleL r)[j]? = (ruleC r.1)[j]? := by
  intro j hj
  unfold ruleL
  rw [List.getElem?_append_left (by simpa using hj)]
  simp
theorem doc_d {tr tz tl : TypeId} {w : World} {B : Nat} {d : DocL} {vr vz vl : Value} {Ad : Option Addr} {n cd : Nat} (h : DocAt tr tz tl w B vr vz vl (.slice Ad n cd) d) : Rd w 4 Ad d.diags.length (d.diags.flatMap diagL) := by
  obtain ⟨A, c, e, -, -, hr⟩ := h.g.rd
  injection e with e
  subst e
  exact hr
theorem doc_r {tr tz tl : TypeId} {w : World} {B : Nat} {d : DocL} {vd vz vl : Value} {Ad : Option Addr} {n cd : Nat} (h : DocAt tr tz tl w B (.slice Ad n cd) vz vl vd d) : Rd w 12 Ad d.rules.length (d.rules.flatMap ruleL) := by
  obtain ⟨A, c, e, -, -, hr⟩ := h.r.rd
  injection e with e
  subst e
  exact hr
/-- a rule's line is one of the lines -/
theorem run_rules : ∀ (ps : List (Int × LineL)) (s : StL) (r : RuleL × Int), r ∈ (runD s ps).rules → r ∈ s.rules ∨ ∃ p ∈ ps, r.2 = p.1
  | [], _, _, h => .inl h
  | p :: ps, s, r, h => by
    rcases run_rules ps (stepD s p) r h with h | ⟨q, hq, e⟩
    · have hb : ∀ i, (brk s i).rules = s.rules := fun i => (brk_parts s i).1
      unfold stepD at h
      split at h
      · have h : r ∈ s.rules ++ [(p.2.rule, p.1)] := h
        rcases List.mem_append.1 h with h | h
        · exact .inl h
        · have h : r = (p.2.rule, p.1) := by simpa using h
          exact .inr ⟨p, List.mem_cons_self, by rw [h]⟩
      split at h
      · exact .inl (by rw [← hb p.1]; exact h)
      split at h
      · refine .inl ?_
        unfold moreD at h
        split at h
        · split at h <;> exact h
        · exact h
      split at h
      · exact .inl (by rw [← hb p.1]; exact h)
      split at h
      · exact .inl h
      · exact .inl h
    · exact .inr ⟨q, List.mem_cons_of_mem _ hq, e⟩
theorem num_range : ∀ (l : List LineL) (i : Int) (p : Int × LineL), p ∈ num i l → i ≤ p.1 ∧ p.1 < i + l.length
  | [], _, _, h => by simp [num] at h
  | x :: l, i, p, h => by
    rcases List.mem_cons.1 h with h | h
    · rw [h]; simp only [List.length_cons]; constructor <;> omega
    · have := num_range l (i + 1) p h
      simp only [List.length_cons]
      omega
theorem rule_range (l : List LineL) (r : RuleL × Int) (h : r ∈ (ofD l).rules) : 0 ≤ r.2 ∧ r.2 < l.length := by
  have hr : (ofD l).rules = (ofS l).rules := by unfold ofD endD endS StL.doc; split <;> rfl
  rw [hr] at h
  rcases run_rules _ _ _ h with h | ⟨p, hp, e⟩
  · simp [stZ] at h
  · have := num_range l 0 p hp
    rw [e]
    omega
theorem infoDR : (Tryz.prog.info? 72).map (·.size) = some 12 := by kernel_rfl
theorem run_sum3 (s t : Bs) (h : s.length + t.length ≤ 900000) : (∀ w, (Op.stringOp .add ⟨s.toArray⟩ ⟨#[10]⟩).run Tryz.prog w = .ok (strV (s ++ [10])) w) ∧ ∀ w, (Op.stringOp .add ⟨(s ++ [10]).toArray⟩ ⟨t.toArray⟩).run Tryz.prog w = .ok (strV (s ++ [10] ++ t)) w :=
  ⟨fun w => S7.run_add_str w s [10] (by simp; omega), fun w => S7.run_add_str w (s ++ [10]) t (by simp; omega)⟩
set_option maxRecDepth 100000 in
set_option maxHeartbeats 3200000 in
theorem joins_long (s t : Bs) (w : World) (hw : LOk w) (hs : s.length ≤ maxLen) (ht : t.length ≤ maxLen) (h : 1500 < s.length ∨ 1500 < t.length) : Calls Tryz.prog 8 #[strV s, strV t] w (TrueR w) := by
  unfold maxLen at hs ht
  have HW := Lib.hid (alive10_any w hw)
  have hz1 := str_size s
  have hz2 := str_size t
  by_cases h1 : 1500 < s.length
  · have h1i : (1500 : Int) < (s.length : Int) := by omega
    clear h hw
    go_enter Tryz.func8, Tryz.ntmps8
    go_wp2_with fail
    refine HW.out.mono ?_
    rintro e w2 ⟨rfl, hf2⟩
    have HF2 := Lib.hid hf2
    clear hf2
    go_wp2_with fail
    go_ret
    exact ⟨rfl, HF2.out⟩
  · have h1i : (s.length : Int) ≤ 1500 := by omega
    have h2i : (1500 : Int) < (t.length : Int) := by omega
    clear h hw
    go_enter Tryz.func8, Tryz.ntmps8
    go_wp2_with fail
    refine HW.out.mono ?_
    rintro e w2 ⟨rfl, hf2⟩
    have HF2 := Lib.hid hf2
    clear hf2
    go_wp2_with fail
    go_ret
    exact ⟨rfl, HF2.out⟩
/-- what is known once both texts are parsed -/
structure J2 (w W : World) (p q : Nat) (da db : DocL) (ar az al ad br bz bl bd : Value) : Prop where
  a : DVar 72 71 78 37 W p da ar az al ad
  b : DVar 72 71 78 37 W q db br bz bl bd
  f : Fr w W (fun _ => False)
theorem J2.kept {w W W' : World} {p q : Nat} {da db : DocL} {ar az al ad br bz bl bd : Value} (h : J2 w W p q da db ar az al ad br bz bl bd) (hf : Fr W W' (fun _ => False)) : J2 w W' p q da db ar az al ad br bz bl bd := ⟨h.a.kept hf, h.b.kept hf, ff0 h.f hf⟩
set_option maxRecDepth 100000 in
set_option maxHeartbeats 6400000 in
theorem joins_short (s t : Bs) (w : World) (hw : LOk w) (hs : s.length ≤ 1500) (ht : t.length ≤ 1500) : Calls Tryz.prog 8 #[strV s, strV t] w (TrueR w) := by
  have HW := Lib.hid (fun (W : World) (f : Fr w W (fun _ => False)) => alive10_any W (hw.fr f))
  have HP := Lib.hid (fun (l : Bs) (hl : l.length ≤ 30000) (W : World) (f : Fr w W (fun _ => False)) => dcParse_any l W (hw.fr f) hl)
  have HLn := Lib.hid (fun (W : World) (f : Fr w W (fun _ => False)) => dLines_any s W (hw.fr f).kwd (by omega))
  have hz1 := str_size s
  have hz2 := str_size t
  have h1i : (s.length : Int) ≤ 1500 := by omega
  have h2i : (t.length : Int) ≤ 1500 := by omega
  obtain ⟨hc1, hc2⟩ := run_sum3 s t (by omega)
  have hj := joins_of ((linesD s).map parseL) ((linesD t).map parseL)
  rw [← List.map_append, ← linesD_two, List.length_map] at hj
  have szA := sizes_of ((linesD s).map parseL)
  have szB := sizes_of ((linesD t).map parseL)
  have hn1 := (linesD_le s).1
  have hn2 := (linesD_le t).1
  rw [List.length_map] at szA szB
  obtain ⟨L, hL⟩ : ∃ L, linesD s = L := ⟨_, rfl⟩
  have HPs := Lib.hid (HP.out s (by omega))
  have HPt := Lib.hid (HP.out t (by omega))
  have HPc := Lib.hid (HP.out (s ++ [10] ++ t) (by simp; omega))
  rw [show s ++ [10] ++ t = s ++ 10 :: t by simp] at HPc
  rw [hL] at hj szA hn1 HPs HLn
  obtain ⟨da, hda⟩ : ∃ d, ofD (L.map parseL) = d := ⟨_, rfl⟩
  obtain ⟨db, hdb⟩ : ∃ d, ofD ((linesD t).map parseL) = d := ⟨_, rfl⟩
  obtain ⟨dc, hdc⟩ : ∃ d, ofD ((linesD (s ++ 10 :: t)).map parseL) = d := ⟨_, rfl⟩
  rw [hda] at szA HPs hj
  rw [hdb] at szB HPt hj
  rw [hdc] at HPc hj
  rw [show s ++ [10] ++ t = s ++ 10 :: t by simp] at hc2
  have HJ := Lib.hid hj
  have hrr := rule_range ((linesD t).map parseL)
  rw [hdb, List.length_map] at hrr
  have HRR := Lib.hid hrr
  have htn : ((linesD t).length : Int) ≤ 1501 := by omega
  clear hrr
  have hLn : L.length ≤ 1501 := by omega
  clear hw HP hda hdb hdc hL hj hn1 hn2 hs ht
  go_enter Tryz.func8, Tryz.ntmps8
  go_wp2_with fail
  refine (HPs.out w (Fr.refl _ _)).mono ?_
  rintro e w2 ⟨ar, az, al, ad, rfl, hd2, hf2⟩
  have HF2 := Lib.hid hf2
  have HD2 := Lib.hid hd2
  clear hf2 hd2
  go_wp2_with fail
  refine (HPt.out w2 HF2.out).mono ?_
  rintro e w3 ⟨br, bz, bl, bd, rfl, hd3, hf3⟩
  obtain ⟨Aar, car, Aaz, caz, Aal, cal, Aad, cad, rfl, rfl, rfl, rfl⟩ := doc_slices HD2.out
  obtain ⟨Abr, cbr, Abz, cbz, Abl, cbl, Abd, cbd, rfl, rfl, rfl, rfl⟩ := doc_slices hd3
  have hn1 := Fr.new w3 (.cells #[.slice none 0 0, .slice none 0 0, .slice none 0 0, .slice none 0 0] 37) (fun _ => False)
  have hn2 := Fr.new (w3.alloc (.cells #[.slice none 0 0, .slice none 0 0, .slice none 0 0, .slice none 0 0] 37)) (.cells #[.slice none 0 0, .slice none 0 0, .slice none 0 0, .slice none 0 0] 37) (fun _ => False)
  have HB1 := Lib.hid (hn2.blk (Blk.made w3 37 #[.slice none 0 0, .slice none 0 0, .slice none 0 0, .slice none 0 0]) (fun h => h))
  have HB2 := Lib.hid (Blk.made (w3.alloc (.cells #[.slice none 0 0, .slice none 0 0, .slice none 0 0, .slice none 0 0] 37)) 37 #[.slice none 0 0, .slice none 0 0, .slice none 0 0, .slice none 0 0])
  have hsz3 : (w3.alloc (.cells #[.slice none 0 0, .slice none 0 0, .slice none 0 0, .slice none 0 0] 37)).heap.size = w3.heap.size + 1 := by simp
  rw [hsz3] at HB2
  have HDA := Lib.hid ((doc_base HD2.out (Nat.zero_le _)).kept (ff0 (ff0 hf3 hn1) hn2))
  have HDB := Lib.hid ((doc_base hd3 (Nat.zero_le _)).kept (ff0 hn1 hn2))
  have HF3 := Lib.hid (ff0 (ff0 (ff0 HF2.out hf3) hn1) hn2)
  have hws : w.heap.size ≤ w3.heap.size := Nat.le_trans HF2.out.size hf3.size
  clear hd3 hf3 hn1 hn2 hsz3
  go_wp2_with (first
    | (refine wpList_store_blk 37 _ _ w3.heap.size 0 37 _ #[.slice Aar da.rules.length car, .slice Aaz da.zones.length caz, .slice Aal da.links.length cal, .slice Aad da.diags.length cad] _ (by rfl) rfl rfl rfl rfl HB1.out infoDoc (doc_one HDA.out) (show 0 + 4 ≤ 4 by decide) rfl ?_
       intro W4 hf4 hb4
       have HA4 := Lib.hid hb4
       have HB4 := Lib.hid (hf4.blk HB2.out (fun e => by omega))
       have HDA4 := Lib.hid (doc_far HDA.out hf4 HB1.out)
       have HDB4 := Lib.hid (doc_far HDB.out hf4 HB1.out)
       have HF4 := Lib.hid (HF3.out.fresh hf4 (fun i e => by have e : i = w3.heap.size := e; omega))
       clear hf4 hb4)
    | (refine wpList_store_blk 37 _ _ (w3.heap.size + 1) 0 37 _ #[.slice Abr db.rules.length cbr, .slice Abz db.zones.length cbz, .slice Abl db.links.length cbl, .slice Abd db.diags.length cbd] _ (by rfl) rfl rfl rfl rfl HB4.out infoDoc (doc_one HDB.out) (show 0 + 4 ≤ 4 by decide) rfl ?_
       intro W5 hf5 hb5
       have HJ5 := Lib.hid (show J2 w W5 w3.heap.size (w3.heap.size + 1) da db _ _ _ _ _ _ _ _ from ⟨⟨hf5.blk HA4.out (fun e => by omega), doc_far HDA4.out hf5 HB4.out⟩, ⟨hb5, doc_far HDB4.out hf5 HB4.out⟩, HF4.out.fresh hf5 (fun i e => by have e : i = w3.heap.size + 1 := e; omega)⟩)
       clear hf5 hb5))
  clear HB1 HB2 HDA HDB HF3 HA4 HB4 HDA4 HDB4 HF4 HF2 HD2
  have a3 := blkc HJ5.out.a.b 3 _ rfl
  go_loopg [7] da.diags.length (fun k v7 wr => ∃ i : Nat, i + k = da.diags.length ∧ v7 = intV (i : Int) ∧ (∀ g ∈ da.diags.take i, g.k ≠ 21) ∧ W5 = wr)
  case atStart => exact ⟨0, by simp, rfl, by simp, rfl⟩
  case round =>
    obtain ⟨i, hik, rfl, hall, rfl⟩ := hrel
    by_cases hlt : i < da.diags.length
    · obtain ⟨bd, od, rfl, cd⟩ := diag_cells (doc_d HJ5.out.a.d) hlt
      have hi1 : (i : Int) < (da.diags.length : Int) := by omega
      by_cases hk : da.diags[i].k = 21
      · rw [hk] at cd
        have HA := Lib.hid (HW.out W5 HJ5.out.f)
        clear hall
        go_wp2_with fail
        refine HA.out.mono ?_
        rintro e w9 ⟨rfl, hf9⟩
        have HF9 := Lib.hid (ff0 HJ5.out.f hf9)
        clear hf9
        go_wp2_with fail
        go_ret
        exact ⟨rfl, HF9.out⟩
      · have HN := Lib.hid (show ∀ g ∈ da.diags.take (i + 1), g.k ≠ 21 by
          rw [List.take_succ_eq_append_getElem hlt]
          intro g hg
          rcases List.mem_append.1 hg with hg | hg
          · exact hall g hg
          · have hg : g = da.diags[i] := by simpa using hg
            rw [hg]
            exact hk)
        have hk2 : (da.diags[i].k == 21) = false := by simpa using hk
        obtain ⟨kk, hkk⟩ : ∃ k, da.diags[i].k = k := ⟨_, rfl⟩
        rw [hkk] at cd hk2
        clear hall hkk hk
        go_wp2_with fail
        go_roundg (da.diags.length - (i + 1))
        case measure => omega
        case rel => exact ⟨i + 1, by omega, by go_num, HN.out, rfl⟩
    · obtain rfl : i = da.diags.length := by omega
      rw [List.take_length] at hall
      obtain ⟨jr, jz, jl, jd⟩ := HJ.out hall
      have j0 : dc.rules.length = da.rules.length + db.rules.length := by rw [jr, List.length_append, List.length_map]
      have HPC := Lib.hid (HPc.out W5 HJ5.out.f)
      have HJR := Lib.hid jr
      have hi1 : (da.diags.length : Int) ≤ (da.diags.length : Int) := Int.le_refl _
      clear hall jr
      go_wp2_with fail
      refine HPC.out.mono ?_
      rintro e w6 ⟨cr, cz, cl, cdd, rfl, hd6, hf6⟩
      clear a3
      obtain ⟨Acr, ccr, Acz, ccz, Acl, ccl, Acd, ccd, e1, e2, e3, e4⟩ := doc_slices hd6
      rw [j0] at e1
      rw [jz] at e2
      rw [jl] at e3
      rw [jd] at e4
      subst e1 e2 e3 e4
      have hv := dvar_new 37 hd6
      have hn := Fr.new w6 (.cells #[.slice Acr (da.rules.length + db.rules.length) ccr, .slice Acz (da.zones.length + db.zones.length) ccz, .slice Acl (da.links.length + db.links.length) ccl, .slice Acd (da.diags.length + db.diags.length) ccd] 37) (fun _ => False)
      have hj7 := HJ5.out.kept (ff0 hf6 hn)
      have a0 := blkc hj7.a.b 0 _ rfl
      have a1 := blkc hj7.a.b 1 _ rfl
      have a2 := blkc hj7.a.b 2 _ rfl
      have a3 := blkc hj7.a.b 3 _ rfl
      have b0 := blkc hj7.b.b 0 _ rfl
      have b1 := blkc hj7.b.b 1 _ rfl
      have b2 := blkc hj7.b.b 2 _ rfl
      have b3 := blkc hj7.b.b 3 _ rfl
      have c0 := blkc hv.b 0 _ rfl
      have c1 := blkc hv.b 1 _ rfl
      have c2 := blkc hv.b 2 _ rfl
      have c3 := blkc hv.b 3 _ rfl
      have HV := Lib.hid hv
      have HJ7 := Lib.hid hj7
      have HL7 := Lib.hid (HLn.out _ hj7.f)
      clear hd6 hf6 hv hn hj7 j0 jz jl jd
      go_wp2_with fail
      refine HL7.out.mono ?_
      rintro e w8 ⟨bs, cs, rfl, -, -, hf8⟩
      have HV8 := Lib.hid (HV.out.kept hf8)
      have HJ8 := Lib.hid (HJ7.out.kept hf8)
      clear hf8 a0 a1 a2 a3 b0 b1 b2 b3 c0 c1 c2 c3
      go_wp2_with fail
      go_loopg [10] db.rules.length (fun k v10 wr => ∃ i : Nat, i + k = db.rules.length ∧ v10 = intV (i : Int) ∧ J2 w wr w3.heap.size (w3.heap.size + 1) da db (.slice Aar da.rules.length car) (.slice Aaz da.zones.length caz) (.slice Aal da.links.length cal) (.slice Aad da.diags.length cad) (.slice Abr db.rules.length cbr) (.slice Abz db.zones.length cbz) (.slice Abl db.links.length cbl) (.slice Abd db.diags.length cbd) ∧
        DVar 72 71 78 37 wr w6.heap.size dc (.slice Acr (da.rules.length + db.rules.length) ccr) (.slice Acz (da.zones.length + db.zones.length) ccz) (.slice Acl (da.links.length + db.links.length) ccl) (.slice Acd (da.diags.length + db.diags.length) ccd))
      case atStart => exact ⟨0, by simp, rfl, HJ8.out, HV8.out⟩
      case round =>
        obtain ⟨i, hik, rfl, hj, hv⟩ := hrel
        have a0 := blkc hj.a.b 0 _ rfl
        have b0 := blkc hj.b.b 0 _ rfl
        have c0 := blkc hv.b 0 _ rfl
        by_cases hlt : i < db.rules.length
        · have e0 : dc.rules.length = da.rules.length + db.rules.length := by rw [HJR.out, List.length_append, List.length_map]
          have hltc : da.rules.length + i < dc.rules.length := by omega
          obtain ⟨bc, oc, rfl, hcc⟩ := rule_cells (doc_r hv.d) hltc
          obtain ⟨bb, ob, rfl, hcb⟩ := rule_cells (doc_r hj.b.d) hlt
          have ey : dc.rules[da.rules.length + i] = ((db.rules[i]).1, (db.rules[i]).2 + (L.length : Int)) := by
            simp only [HJR.out]
            rw [List.getElem_append_right (Nat.le_add_right _ _)]
            simp [mvR]
          have hyr := HRR.out db.rules[i] (List.getElem_mem hlt)
          obtain ⟨⟨y1, y2⟩, hy⟩ : ∃ y, db.rules[i] = y := ⟨_, rfl⟩
          rw [ey, hy] at hcc
          rw [hy] at hcb hyr
          have hcc : ∀ j, j < (ruleL (y1, y2 + (L.length : Int))).toArray.size → wr.cell? ⟨bc, oc + (da.rules.length + i) * 12 + j, none⟩ = (ruleL (y1, y2 + (L.length : Int))).toArray[j]? := fun j hj => (hcc j hj).trans (by simp)
          obtain ⟨hy0, hy2⟩ : 0 ≤ y2 ∧ y2 < ((linesD t).length : Int) := hyr
          have hyi : y2 ≤ 1501 := by omega
          have hLi : (L.length : Int) ≤ 1501 := by omega
          have hi1 : (i : Int) < (db.rules.length : Int) := by omega
          have hw64 := Lib.hid ((IntWalk.i64_left _).trans (IntWalk.wrap64_in (y2 + (L.length : Int)) (by omega)))
          have HC := Lib.hid hcc
          have HBb := Lib.hid hcb
          have HJw := Lib.hid hj
          have HVw := Lib.hid hv
          have HZ := Lib.hid (show Blk _ wr.heap.size 72 (ruleL (ruleZ, 0)).toArray from Blk.made wr 72 #[.string ⟨#[]⟩, intV 0, intV 0, intV 0, intV 0, intV 0, intV 0, intV 0, intV 0, intV 0, .string ⟨#[]⟩, intV 0])
          have HN := Lib.hid (Fr.new wr (.cells #[.string ⟨#[]⟩, intV 0, intV 0, intV 0, intV 0, intV 0, intV 0, intV 0, intV 0, intV 0, .string ⟨#[]⟩, intV 0] 72) (fun _ => False))
          have H1 := Lib.hid (show (ruleL (y1, y2 + (L.length : Int))).toArray.all (·.oneCell') = true by simp [ruleL, ruleC, Value.oneCell'])
          clear hcc hcb hj hv e0 hltc ey hy
          go_wp2_with (first
            | (refine wpList_load_at 72 _ bc (oc + (da.rules.length + i) * 12) (ruleL (y1, y2 + (L.length : Int))).toArray _ (by rfl) rfl rfl HC.out Tryz.underlying72 rfl infoDR ?_)
            | (refine wpList_store_blk 72 _ _ wr.heap.size 0 72 (ruleL (ruleZ, 0)).toArray (ruleL (y1, y2 + (L.length : Int))).toArray (ruleL (y1, y2 + (L.length : Int))).toArray (by rfl) rfl rfl rfl rfl HZ.out infoDR H1.out (show 0 + 12 ≤ 12 by decide) (put_all rfl) ?_
               intro W9 hf9 hb9
               have hfr := HN.out.fresh hf9 (fun i e => by have e : i = wr.heap.size := e; omega)
               have HU := Lib.hid hb9
               have HFR := Lib.hid hfr
               clear hf9 hb9 hfr))
          have hj9 := HJw.out.kept HFR.out
          have hv9 := HVw.out.kept HFR.out
          have HB9 := Lib.hid (fun j (hj : j < 12) => (show W9.cell? ⟨bb, ob + i * 12 + j, none⟩ = (ruleL (y1, y2))[j]? by
            have h := HBb.out j hj
            rw [List.getElem?_eq_getElem (show j < (ruleL (y1, y2)).length from hj)] at h ⊢
            exact cell_far HFR.out h (fun h => h)))
          have b09 := blkc hj9.b.b 0 _ rfl
          have HJ9 := Lib.hid hj9
          have HV9 := Lib.hid hv9
          clear hj9 hv9
          refine wp_region_held_drew (S := fun w' => Fr W9 w' (fun _ => False)) (by kernel_rfl) (Fr.drew W9 _) (fun hHeld => ?_)
          refine wpAnyH_take (i := 0) (v := ?_) rfl (by kernel_rfl) (by kernel_rfl) (by kernel_rfl) (fun _ _ _ h => h) (Or.inl ⟨by rfl, ?_⟩) (by assumption) ?_
          rotate_left
          · intro w' hSw
            skip
            go_simp
            try with_reducible rfl
          try simp only [Act.put, List.setIfInBounds_toArray, List.set_cons_zero, List.set_cons_succ, List.getElem_toArray, List.getElem_cons_zero]
          refine wpAnyH_take (i := 1) (v := _) rfl (by kernel_rfl) (by kernel_rfl) (by kernel_rfl) (fun _ _ _ h => h) (yields_at 51 _ wr.heap.size 0 (ruleC y1) _ (by rfl) rfl rfl (fun w' h j hj => (cells_far (off := 0) h (k := (ruleC y1).size) (cs := (ruleC y1)) (fun j hj => by rw [cell_at HU.out]; rw [Nat.zero_add, List.getElem?_toArray]; exact rule_part (y1, y2 + (L.length : Int)) j hj) (Nat.le_refl _) (fun h => h) j hj)) Tryz.underlying51 rfl (infoR _)) (by assumption) ?_
          try simp only [Act.put, List.setIfInBounds_toArray, List.set_cons_zero, List.set_cons_succ, List.getElem_toArray, List.getElem_cons_succ, List.getElem_cons_zero]
          refine wpAnyH_take (i := 2) (v := ?_) rfl (by kernel_rfl) (by kernel_rfl) (by kernel_rfl) (fun _ _ _ h => h) (Or.inl ⟨by rfl, ?_⟩) (by assumption) ?_
          rotate_left
          · intro w' hSw
            skip
            go_simp
            try with_reducible rfl
          try simp only [Act.put, List.setIfInBounds_toArray, List.set_cons_zero, List.set_cons_succ, List.getElem_toArray, List.getElem_cons_succ, List.getElem_cons_zero]
          refine wpAnyH_take (i := 3) (v := ?_) rfl (by kernel_rfl) (by kernel_rfl) (by kernel_rfl) (fun _ _ _ h => h) (Or.inl ⟨by rfl, ?_⟩) (by assumption) ?_
          rotate_left
          · intro w' hSw
            have kb := cell_far hSw b09 (fun h => h)
            go_simp
            try with_reducible rfl
          try simp only [Act.put, List.setIfInBounds_toArray, List.set_cons_zero, List.set_cons_succ, List.getElem_toArray, List.getElem_cons_succ, List.getElem_cons_zero]
          refine wpAnyH_take (i := 4) (v := ?_) rfl (by kernel_rfl) (by kernel_rfl) (by kernel_rfl) (fun _ _ _ h => h) (Or.inl ⟨by rfl, ?_⟩) (by assumption) ?_
          rotate_left
          · intro w' hSw
            skip
            go_simp
            try with_reducible rfl
          try simp only [Act.put, List.setIfInBounds_toArray, List.set_cons_zero, List.set_cons_succ, List.getElem_toArray, List.getElem_cons_succ, List.getElem_cons_zero]
          refine wpAnyH_take (i := 5) (v := ?_) rfl (by kernel_rfl) (by kernel_rfl) (by kernel_rfl) (fun _ _ _ h => h) (Or.inl ⟨by rfl, ?_⟩) (by assumption) ?_
          rotate_left
          · intro w' hSw
            skip
            go_simp
            try with_reducible rfl
          try simp only [Act.put, List.setIfInBounds_toArray, List.set_cons_zero, List.set_cons_succ, List.getElem_toArray, List.getElem_cons_succ, List.getElem_cons_zero]
          refine wpAnyH_take (i := 6) (v := ?_) rfl (by kernel_rfl) (by kernel_rfl) (by kernel_rfl) (fun _ _ _ h => h) (Or.inl ⟨by rfl, ?_⟩) (by assumption) ?_
          rotate_left
          · intro w' hSw
            skip
            go_simp
            try with_reducible rfl
          try simp only [Act.put, List.setIfInBounds_toArray, List.set_cons_zero, List.set_cons_succ, List.getElem_toArray, List.getElem_cons_succ, List.getElem_cons_zero]
          refine wpAnyH_take (i := 7) (v := _) rfl (by kernel_rfl) (by kernel_rfl) (by kernel_rfl) (fun _ _ _ h => h) (yields_at 51 _ bb (ob + i * 12) (ruleC y1) _ (by rfl) rfl (by rfl) (fun w' h j hj => (cells_far h (k := (ruleC y1).size) (cs := (ruleC y1)) (fun j hj => (HB9.out j (Nat.lt_of_lt_of_le hj (show 11 ≤ 12 by decide))).trans (rule_part (y1, y2) j hj)) (Nat.le_refl _) (fun h => h) j hj)) Tryz.underlying51 rfl (infoR _)) (by assumption) ?_
          try simp only [Act.put, List.setIfInBounds_toArray, List.set_cons_zero, List.set_cons_succ, List.getElem_toArray, List.getElem_cons_succ, List.getElem_cons_zero]
          refine wpAnyH_take (i := 8) (v := _) rfl (by kernel_rfl) (by kernel_rfl) (by kernel_rfl) (fun _ _ _ h => h) (yields_neq (by rfl) rfl (by rfl) (by rfl) (guard_rule _ _ _ _) (same_rule y1)) (by assumption) ?_
          try simp only [Act.put, List.setIfInBounds_toArray, List.set_cons_zero, List.set_cons_succ, List.getElem_toArray, List.getElem_cons_succ, List.getElem_cons_zero]
          refine wpAnyH_take (i := 9) (v := ?_) rfl (by kernel_rfl) (by kernel_rfl) (by kernel_rfl) (fun _ _ _ h => h) (Or.inl ⟨by rfl, ?_⟩) (by assumption) ?_
          rotate_left
          · intro w' hSw
            skip
            go_simp
            try with_reducible rfl
          try simp only [Act.put, List.setIfInBounds_toArray, List.set_cons_zero, List.set_cons_succ, List.getElem_toArray, List.getElem_cons_succ, List.getElem_cons_zero]
          refine wpAnyH_take (i := 10) (v := ?_) rfl (by kernel_rfl) (by kernel_rfl) (by kernel_rfl) (fun _ _ _ h => h) (Or.inl ⟨by rfl, ?_⟩) (by assumption) ?_
          rotate_left
          · intro w' hSw
            skip
            go_simp
            try with_reducible rfl
          try simp only [Act.put, List.setIfInBounds_toArray, List.set_cons_zero, List.set_cons_succ, List.getElem_toArray, List.getElem_cons_succ, List.getElem_cons_zero]
          refine wpAnyH_take (i := 11) (v := ?_) rfl (by kernel_rfl) (by kernel_rfl) (by kernel_rfl) (fun _ _ _ h => h) (Or.inl ⟨by rfl, ?_⟩) (by assumption) ?_
          rotate_left
          · intro w' hSw
            have ku := cell_far hSw (blkc HU.out 11 (intV (y2 + (L.length : Int))) rfl) (fun h => h); have kb := cell_far hSw b09 (fun h => h); have ky := cell_far hSw (HB9.out 11 (by omega)) (fun h => h)
            go_simp
            try with_reducible rfl
          try simp only [Act.put, List.setIfInBounds_toArray, List.set_cons_zero, List.set_cons_succ, List.getElem_toArray, List.getElem_cons_succ, List.getElem_cons_zero]
          refine wpAnyH_take (i := 12) (v := ?_) rfl (by kernel_rfl) (by kernel_rfl) (by kernel_rfl) (fun _ _ _ h => h) (Or.inl ⟨by rfl, ?_⟩) (by assumption) ?_
          rotate_left
          · intro w' hSw
            skip
            go_simp
            try with_reducible rfl
          try simp only [Act.put, List.setIfInBounds_toArray, List.set_cons_zero, List.set_cons_succ, List.getElem_toArray, List.getElem_cons_succ, List.getElem_cons_zero]
          refine wpAnyH_take (i := 13) (v := ?_) rfl (by kernel_rfl) (by kernel_rfl) (by kernel_rfl) (fun _ _ _ h => h) (Or.inl ⟨by rfl, ?_⟩) (by assumption) ?_
          rotate_left
          · intro w' hSw
            have ku := cell_far hSw (blkc HU.out 11 (intV (y2 + (L.length : Int))) rfl) (fun h => h); have kb := cell_far hSw b09 (fun h => h); have ky := cell_far hSw (HB9.out 11 (by omega)) (fun h => h)
            go_simp
            try with_reducible rfl
          try simp only [Act.put, List.setIfInBounds_toArray, List.set_cons_zero, List.set_cons_succ, List.getElem_toArray, List.getElem_cons_succ, List.getElem_cons_zero]
          refine wpAnyH_take (i := 14) (v := ?_) rfl (by kernel_rfl) (by kernel_rfl) (by kernel_rfl) (fun _ _ _ h => h) (Or.inl ⟨by rfl, ?_⟩) (by assumption) ?_
          rotate_left
          · intro w' hSw
            skip
            go_simp
            try with_reducible rfl
          try simp only [Act.put, List.setIfInBounds_toArray, List.set_cons_zero, List.set_cons_succ, List.getElem_toArray, List.getElem_cons_succ, List.getElem_cons_zero]
          refine wpAnyH_take (i := 15) (v := ?_) rfl (by kernel_rfl) (by kernel_rfl) (by kernel_rfl) (fun _ _ _ h => h) (Or.inl ⟨by rfl, ?_⟩) (by assumption) ?_
          rotate_left
          · intro w' hSw
            skip
            go_simp
            try with_reducible rfl
          try simp only [Act.put, List.setIfInBounds_toArray, List.set_cons_zero, List.set_cons_succ, List.getElem_toArray, List.getElem_cons_succ, List.getElem_cons_zero]
          refine wpAnyH_take (i := 16) (v := ?_) rfl (by kernel_rfl) (by kernel_rfl) (by kernel_rfl) (fun _ _ _ h => h) (Or.inl ⟨by rfl, ?_⟩) (by assumption) ?_
          rotate_left
          · intro w' hSw
            skip
            go_simp
            try with_reducible rfl
          try simp only [Act.put, List.setIfInBounds_toArray, List.set_cons_zero, List.set_cons_succ, List.getElem_toArray, List.getElem_cons_succ, List.getElem_cons_zero]
          refine wpAnyH_take (i := 17) (v := ?_) rfl (by kernel_rfl) (by kernel_rfl) (by kernel_rfl) (fun _ _ _ h => h) (Or.inl ⟨by rfl, ?_⟩) (by assumption) ?_
          rotate_left
          · intro w' hSw
            have ku := cell_far hSw (blkc HU.out 11 (intV (y2 + (L.length : Int))) rfl) (fun h => h); have kb := cell_far hSw b09 (fun h => h); have ky := cell_far hSw (HB9.out 11 (by omega)) (fun h => h)
            go_simp
            try with_reducible rfl
          try simp only [Act.put, List.setIfInBounds_toArray, List.set_cons_zero, List.set_cons_succ, List.getElem_toArray, List.getElem_cons_succ, List.getElem_cons_zero]
          refine wpAnyH_take (i := 18) (v := ?_) rfl (by kernel_rfl) (by kernel_rfl) (by kernel_rfl) (fun _ _ _ h => h) (Or.inl ⟨by rfl, ?_⟩) (by assumption) ?_
          rotate_left
          · intro w' hSw
            skip
            go_simp
            try with_reducible rfl
          try simp only [Act.put, List.setIfInBounds_toArray, List.set_cons_zero, List.set_cons_succ, List.getElem_toArray, List.getElem_cons_succ, List.getElem_cons_zero]
          refine wpAnyH_take (i := 19) (v := ?_) rfl (by kernel_rfl) (by kernel_rfl) (by kernel_rfl) (fun _ _ _ h => h) (Or.inl ⟨by rfl, ?_⟩) (by assumption) ?_
          rotate_left
          · intro w' hSw
            have kw := hw64.out
            go_simp
            try with_reducible rfl
          try simp only [Act.put, List.setIfInBounds_toArray, List.set_cons_zero, List.set_cons_succ, List.getElem_toArray, List.getElem_cons_succ, List.getElem_cons_zero]
          refine wpAnyH_take (i := 20) (v := ?_) rfl (by kernel_rfl) (by kernel_rfl) (by kernel_rfl) (fun _ _ _ h => h) (Or.inl ⟨by rfl, ?_⟩) (by assumption) ?_
          rotate_left
          · intro w' hSw
            have kw := hw64.out
            go_simp
            try with_reducible rfl
          try simp only [Act.put, List.setIfInBounds_toArray, List.set_cons_zero, List.set_cons_succ, List.getElem_toArray, List.getElem_cons_succ, List.getElem_cons_zero]
          refine wpAnyH_take (i := 21) (v := ?_) rfl (by kernel_rfl) (by kernel_rfl) (by kernel_rfl) (fun _ _ _ h => h) (Or.inl ⟨by rfl, ?_⟩) (by assumption) ?_
          rotate_left
          · intro w' hSw
            skip
            go_simp
            try with_reducible rfl
          try simp only [Act.put, List.setIfInBounds_toArray, List.set_cons_zero, List.set_cons_succ, List.getElem_toArray, List.getElem_cons_succ, List.getElem_cons_zero]
          refine wpAnyH_done (by kernel_rfl) ?_ _
          clear hHeld
          have HF9 := Lib.hid (Fr.drew W9 (fun _ => False))
          go_wp2_with fail
          go_roundg (db.rules.length - (i + 1))
          case measure => omega
          case rel => exact ⟨i + 1, by omega, by go_num, HJ9.out.kept HF9.out, HV9.out.kept HF9.out⟩
        · obtain rfl : i = db.rules.length := by omega
          have HA := Lib.hid (HW.out wr hj.f)
          have HFj := Lib.hid hj.f
          clear hj hv
          go_wp2_with fail
          refine HA.out.mono ?_
          rintro e w9 ⟨rfl, hf9⟩
          have HF9 := Lib.hid (ff0 HFj.out hf9)
          clear hf9
          go_wp2_with fail
          go_ret
          exact ⟨rfl, HF9.out⟩
theorem joins_any (s t : Bs) (w : World) (hw : LOk w) (hs : s.length ≤ maxLen) (ht : t.length ≤ maxLen) : Calls Tryz.prog 8 #[strV s, strV t] w (TrueR w) := by
  by_cases h1 : 1500 < s.length
  · exact joins_long s t w hw hs ht (.inl h1)
  · by_cases h2 : 1500 < t.length
    · exact joins_long s t w hw hs ht (.inr h2)
    · exact joins_short s t w hw (by omega) (by omega)
end Go.Proofs.YtlfjknndkjgciaaGreatDoor
