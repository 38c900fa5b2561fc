import Derived.Test.YtofabgllfjmaaaaDoorPar
namespace Go.Proofs.YtofabgllfjmaaaaDoor
open Go.RowKit Go.Mem Go.Dfm

theorem kp5 {w a b : World} {p1 p2 p3 p4 p5 o1 o2 o3 o4 o5 : Nat} {v1 v2 v3 v4 v5 : Value} (h : Fr w a (fun _ => False) ∧ a.cell? ⟨p1, o1, none⟩ = some v1 ∧ a.cell? ⟨p2, o2, none⟩ = some v2 ∧ a.cell? ⟨p3, o3, none⟩ = some v3 ∧ a.cell? ⟨p4, o4, none⟩ = some v4 ∧ a.cell? ⟨p5, o5, none⟩ = some v5) (hf : Fr a b (fun _ => False)) :
    Fr w b (fun _ => False) ∧ b.cell? ⟨p1, o1, none⟩ = some v1 ∧ b.cell? ⟨p2, o2, none⟩ = some v2 ∧ b.cell? ⟨p3, o3, none⟩ = some v3 ∧ b.cell? ⟨p4, o4, none⟩ = some v4 ∧ b.cell? ⟨p5, o5, none⟩ = some v5 :=
  ⟨ff h.1 hf, hf.cell0 h.2.1, hf.cell0 h.2.2.1, hf.cell0 h.2.2.2.1, hf.cell0 h.2.2.2.2.1, hf.cell0 h.2.2.2.2.2⟩
/-- what Show answers -/
def ShowR (t : Bs) (j : Int) (w : World) (e : Ending) (w' : World) : Prop := e = .returned (.tuple #[strV t, .int .i64 j]) ∧ Fr w w' (fun _ => False)
theorem name_at {w : World} (hw : WOk w) {n : Nat} (hn : n < 7) : w.cell? ⟨1, n, none⟩ = some (strV (nameI (n : Int))) := hw.names n hn
theorem show_bad (k d q : Int) (w : World) (h : rightB k d q = false) : Calls Tryd.prog 10 #[dayV k d q] w (ShowR [] 1 w) := by
  have HT := Lib.hid (fun W => right_any k d q W)
  rw [h] at HT
  clear h
  go_enter Tryd.func10, Tryd.ntmps10
  go_wp2_with fail
  refine (HT.out _).mono ?_
  rintro e w2 ⟨rfl, hf2⟩
  have HF2 := Lib.hid (ff (Fr.new w _ _) hf2)
  clear hf2
  go_wp2_with fail
  go_ret2
  exact ⟨rfl, HF2.out⟩
theorem show_plain (d : Int) (w : World) (hw : WOk w) (h : rightB 0 d 0 = true) (h1 : 1 ≤ d) (h2 : d ≤ 31) : Calls Tryd.prog 10 #[dayV 0 d 0] w (ShowR (Lib.itoa d) 0 w) := by
  have HT := Lib.hid (fun W => right_any 0 d 0 W)
  rw [h] at HT
  have HI := Lib.hid (fun (W : World) (f : Fr w W (fun _ => False)) => Itoa_any d (by omega) (by omega) W (hw.fr f))
  have HB := Lib.hid (Blk.made w 23 #[.int .i64 0, .int .i64 d, .int .i64 0])
  clear h hw
  generalize Lib.itoa d = t at *
  go_enter Tryd.func10, Tryd.ntmps10
  go_wp2_with fail
  refine (HT.out _).mono ?_
  rintro e w2 ⟨rfl, hf2⟩
  have HF2 := Lib.hid (ff (Fr.new w _ _) hf2)
  have hb2 := hf2.blk HB.out (fun h => h)
  have c0 := cell_at hb2 0
  have c1 := cell_at hb2 1
  have c2 := cell_at hb2 2
  simp at c0 c1 c2
  clear hf2 hb2
  go_wp2_with fail
  refine (HI.out _ HF2.out).mono ?_
  rintro e w3 ⟨rfl, hf3⟩
  have HF3 := Lib.hid (ff HF2.out hf3)
  clear hf3
  go_wp2_with fail
  go_ret2
  exact ⟨rfl, HF3.out⟩
theorem show_last (n : Nat) (w : World) (hw : WOk w) (h : rightB 1 0 n = true) (hn : n < 7) : Calls Tryd.prog 10 #[dayV 1 0 n] w (ShowR (lastL ++ nameI n) 0 w) := by
  have HT := Lib.hid (fun W => right_any 1 0 n W)
  rw [h] at HT
  have HB := Lib.hid (Blk.made w 23 #[.int .i64 1, .int .i64 0, .int .i64 n])
  have hl := name_len (w := (n : Int)) (by omega) (by omega)
  have HW := Lib.hid hw
  have HN := Lib.hid (fun (W : World) (f : Fr w W (fun _ => False)) => name_at (hw.fr f) hn)
  generalize nameI (n : Int) = t at *
  have ha := fun w => run_add_str (P := Tryd.prog) w lastL t (by simp; omega)
  simp only [List.cons_append, List.nil_append] at ha ⊢
  clear h hw hl
  go_enter Tryd.func10, Tryd.ntmps10
  go_wp2_with fail
  refine (HT.out _).mono ?_
  rintro e w2 ⟨rfl, hf2⟩
  have hfr2 := ff (Fr.new w _ _) hf2
  have HF2 := Lib.hid hfr2
  have hb2 := hf2.blk HB.out (fun h => h)
  have c0 := cell_at hb2 0
  have c1 := cell_at hb2 1
  have c2 := cell_at hb2 2
  simp at c0 c1 c2
  obtain ⟨m1, m2, m3⟩ := marks_of (HW.out.fr hfr2)
  have m4 := HN.out w2 hfr2
  clear hf2 hb2 hfr2
  go_wp2_with fail
  go_quiet (fail)
  go_wp2_with fail
  go_ret2
  exact ⟨rfl, ff HF2.out (Fr.drewN _ _ _)⟩
end Go.Proofs.YtofabgllfjmaaaaDoor
