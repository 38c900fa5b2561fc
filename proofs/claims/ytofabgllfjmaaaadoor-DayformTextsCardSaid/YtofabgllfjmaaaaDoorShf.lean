import Derived.Test.YtofabgllfjmaaaaDoorSho
import Derived.Deep.RegionHeld3
namespace Go.Proofs.YtofabgllfjmaaaaDoor
open Go.RowKit Go.Mem Go.Dfm

set_option maxHeartbeats 1600000 in
theorem show_from (d : Int) (n : Nat) (w : World) (hw : WOk w) (h : rightB 2 d n = true) (hn : n < 7) (h1 : 1 ≤ d) (h2 : d ≤ 31) : Calls Tryd.prog 10 #[dayV 2 d n] w (ShowR (nameI n ++ [62, 61] ++ Lib.itoa d) 0 w) := by
  have HT := Lib.hid (fun W => right_any 2 d n W)
  rw [h] at HT
  have HB := Lib.hid (Blk.made w 23 #[.int .i64 2, .int .i64 d, .int .i64 n])
  have hl := name_len (w := (n : Int)) (by omega) (by omega)
  have HW := Lib.hid hw
  have HN := Lib.hid (fun (W : World) (f : Fr w W (fun _ => False)) => name_at (hw.fr f) hn)
  have HI := Lib.hid (fun (W : World) (f : Fr w W (fun _ => False)) => Itoa_any d (by omega) (by omega) W (hw.fr f))
  have hd : (Lib.itoa d).length ≤ 2 := by
    rw [itoa_small h1 h2, decL]
    split <;> simp
  generalize nameI (n : Int) = t at *
  generalize Lib.itoa d = u at *
  have ha := fun w => run_add_str (P := Tryd.prog) w t [62, 61] (by simp; omega)
  have hc := fun w => run_add_str (P := Tryd.prog) w (t ++ [62, 61]) u (by simp; omega)
  simp only [List.append_assoc, List.cons_append, List.nil_append] at ha hc ⊢
  clear h hw hl hd
  go_enter Tryd.func10, Tryd.ntmps10
  go_wp2_with fail
  refine (HT.out _).mono ?_
  rintro e w2 ⟨rfl, hf2⟩
  have hfr2 := ff (Fr.new w _ _) hf2
  have HF2 := Lib.hid hfr2
  have hb2 := hf2.blk HB.out (fun h => h)
  have c0 := cell_at hb2 0
  have c1 := cell_at hb2 1
  have c2 := cell_at hb2 2
  simp at c0 c1 c2
  obtain ⟨m1, m2, m3⟩ := marks_of (HW.out.fr hfr2)
  have m4 := HN.out w2 hfr2
  have base : Fr w w2 (fun _ => False) ∧ w2.cell? ⟨w.heap.size, 0, none⟩ = some (.int .i64 2) ∧ w2.cell? ⟨w.heap.size, 1, none⟩ = some (.int .i64 d) ∧ w2.cell? ⟨w.heap.size, 2, none⟩ = some (.int .i64 (n : Int)) ∧ w2.cell? ⟨0, 2, none⟩ = some (strV [62, 61]) ∧ w2.cell? ⟨1, n, none⟩ = some (strV t) := ⟨hfr2, c0, c1, c2, m2, m4⟩
  have BASE := Lib.hid base
  have hn7 : (n : Int) < 7 := by omega
  have hn0 : (0 : Int) ≤ (n : Int) := by omega
  clear hf2 hb2 hfr2 base
  go_wp2_with fail
  go_region_held3 (fun w' => Fr w w' (fun _ => False) ∧ w'.cell? ⟨w.heap.size, 0, none⟩ = some (.int .i64 2) ∧ w'.cell? ⟨w.heap.size, 1, none⟩ = some (.int .i64 d) ∧ w'.cell? ⟨w.heap.size, 2, none⟩ = some (.int .i64 (n : Int)) ∧ w'.cell? ⟨0, 2, none⟩ = some (strV [62, 61]) ∧ w'.cell? ⟨1, n, none⟩ = some (strV t))
    (first | with_reducible exact kp5 BASE.out (Fr.drew _ _) | with_reducible exact kp5 hS hf6 | with_reducible exact kp5 BASE.out hf6 | with_reducible assumption)
    ((go_at_call 21; rename_i hS _ _; refine (HI.out _ hS.1).mono ?_; rintro e w6 ⟨rfl, hf6⟩))
  rename_i hS
  have HS := Lib.hid hS.1
  clear hS
  go_wp2_with fail
  go_ret2
  exact ⟨rfl, HS.out⟩
set_option maxHeartbeats 1600000 in
theorem show_upto (d : Int) (n : Nat) (w : World) (hw : WOk w) (h : rightB 3 d n = true) (hn : n < 7) (h1 : 1 ≤ d) (h2 : d ≤ 31) : Calls Tryd.prog 10 #[dayV 3 d n] w (ShowR (nameI n ++ [60, 61] ++ Lib.itoa d) 0 w) := by
  have HT := Lib.hid (fun W => right_any 3 d n W)
  rw [h] at HT
  have HB := Lib.hid (Blk.made w 23 #[.int .i64 3, .int .i64 d, .int .i64 n])
  have hl := name_len (w := (n : Int)) (by omega) (by omega)
  have HW := Lib.hid hw
  have HN := Lib.hid (fun (W : World) (f : Fr w W (fun _ => False)) => name_at (hw.fr f) hn)
  have HI := Lib.hid (fun (W : World) (f : Fr w W (fun _ => False)) => Itoa_any d (by omega) (by omega) W (hw.fr f))
  have hd : (Lib.itoa d).length ≤ 2 := by
    rw [itoa_small h1 h2, decL]
    split <;> simp
  generalize nameI (n : Int) = t at *
  generalize Lib.itoa d = u at *
  have ha := fun w => run_add_str (P := Tryd.prog) w t [60, 61] (by simp; omega)
  have hc := fun w => run_add_str (P := Tryd.prog) w (t ++ [60, 61]) u (by simp; omega)
  simp only [List.append_assoc, List.cons_append, List.nil_append] at ha hc ⊢
  clear h hw hl hd
  go_enter Tryd.func10, Tryd.ntmps10
  go_wp2_with fail
  refine (HT.out _).mono ?_
  rintro e w2 ⟨rfl, hf2⟩
  have hfr2 := ff (Fr.new w _ _) hf2
  have HF2 := Lib.hid hfr2
  have hb2 := hf2.blk HB.out (fun h => h)
  have c0 := cell_at hb2 0
  have c1 := cell_at hb2 1
  have c2 := cell_at hb2 2
  simp at c0 c1 c2
  obtain ⟨m1, m2, m3⟩ := marks_of (HW.out.fr hfr2)
  have m4 := HN.out w2 hfr2
  have base : Fr w w2 (fun _ => False) ∧ w2.cell? ⟨w.heap.size, 0, none⟩ = some (.int .i64 3) ∧ w2.cell? ⟨w.heap.size, 1, none⟩ = some (.int .i64 d) ∧ w2.cell? ⟨w.heap.size, 2, none⟩ = some (.int .i64 (n : Int)) ∧ w2.cell? ⟨0, 3, none⟩ = some (strV [60, 61]) ∧ w2.cell? ⟨1, n, none⟩ = some (strV t) := ⟨hfr2, c0, c1, c2, m3, m4⟩
  have BASE := Lib.hid base
  have hn7 : (n : Int) < 7 := by omega
  have hn0 : (0 : Int) ≤ (n : Int) := by omega
  clear hf2 hb2 hfr2 base
  go_wp2_with fail
  go_region_held3 (fun w' => Fr w w' (fun _ => False) ∧ w'.cell? ⟨w.heap.size, 0, none⟩ = some (.int .i64 3) ∧ w'.cell? ⟨w.heap.size, 1, none⟩ = some (.int .i64 d) ∧ w'.cell? ⟨w.heap.size, 2, none⟩ = some (.int .i64 (n : Int)) ∧ w'.cell? ⟨0, 3, none⟩ = some (strV [60, 61]) ∧ w'.cell? ⟨1, n, none⟩ = some (strV t))
    (first | with_reducible exact kp5 BASE.out (Fr.drew _ _) | with_reducible exact kp5 hS hf6 | with_reducible exact kp5 BASE.out hf6 | with_reducible assumption)
    ((go_at_call 21; rename_i hS _ _; refine (HI.out _ hS.1).mono ?_; rintro e w6 ⟨rfl, hf6⟩))
  rename_i hS
  have HS := Lib.hid hS.1
  clear hS
  go_wp2_with fail
  go_ret2
  exact ⟨rfl, HS.out⟩
theorem Show_any (k d q : Int) (w : World) (hw : WOk w) (t : Bs) (j : Int) (h : showD k d q = (t, j)) : Calls Tryd.prog 10 #[dayV k d q] w (ShowR t j w) := by
  unfold showD at h
  by_cases hr : rightB k d q = true
  · rw [if_pos hr] at h
    injection h with h1 h2
    subst h1 h2
    rcases rightB_iff.1 hr with ⟨rfl, a1, a2, rfl⟩ | ⟨rfl, rfl, a1, a2⟩ | ⟨hk, a1, a2, a3, a4⟩
    · exact show_plain d w hw hr a1 a2
    · obtain ⟨n, rfl⟩ : ∃ n : Nat, q = (n : Int) := ⟨q.toNat, by omega⟩
      exact show_last n w hw hr (by omega)
    · obtain ⟨n, rfl⟩ : ∃ n : Nat, q = (n : Int) := ⟨q.toNat, by omega⟩
      rcases hk with rfl | rfl
      · exact show_from d n w hw hr (by omega) a1 a2
      · exact show_upto d n w hw hr (by omega) a1 a2
  · rw [if_neg hr] at h
    injection h with h1 h2
    subst h1 h2
    exact show_bad k d q w (by simpa using hr)
end Go.Proofs.YtofabgllfjmaaaaDoor
