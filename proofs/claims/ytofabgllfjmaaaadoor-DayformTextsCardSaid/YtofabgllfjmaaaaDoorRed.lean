import Derived.Test.YtofabgllfjmaaaaDoorRea
import Derived.LoopN
namespace Go.Proofs.YtofabgllfjmaaaaDoor
open Go.RowKit Go.Mem Go.Dfm

theorem infoDay2 : (Tryd.prog.info? 23).map (·.size) = some 3 := by kernel_rfl
theorem load_day {w : World} {g : Nat} {x y z : Value} (h : Blk w g 23 #[x, y, z]) : (loadVar 23 ⟨g, 0, none⟩).run Tryd.prog w = .ok (.agg #[x, y, z]) w := run_loadVar_row w g 23 23 #[x, y, z] (0, 0) _ h Tryd.underlying23 rfl infoDay2
/-- a day that is stored where one stood -/
theorem day_put {w0 w2 : World} {b : Nat} {x y z : Value} (k d q : Value) (h : Fr w0 w2 (fun _ => False)) (hb : Blk w2 b 23 #[x, y, z]) (hge : w0.heap.size ≤ b) :
    Fr w0 (((w2.setCell ⟨b, 0, none⟩ k).setCell ⟨b, 1, none⟩ d).setCell ⟨b, 2, none⟩ q) (fun _ => False) ∧ Blk (((w2.setCell ⟨b, 0, none⟩ k).setCell ⟨b, 1, none⟩ d).setCell ⟨b, 2, none⟩ q) b 23 #[k, d, q] := by
  have f1 := h.fresh (Fr.set (S := (· = b)) (a := ⟨b, 0, none⟩) (v := k) rfl) (fun i e => by omega)
  have f2 := f1.fresh (Fr.set (S := (· = b)) (a := ⟨b, 1, none⟩) (v := d) rfl) (fun i e => by omega)
  have f3 := f2.fresh (Fr.set (S := (· = b)) (a := ⟨b, 2, none⟩) (v := q) rfl) (fun i e => by omega)
  exact ⟨f3, ((hb.put' (cs' := #[k, y, z]) 0 k (by simp)).put' (cs' := #[k, d, z]) 1 d (by simp)).put' (cs' := #[k, d, q]) 2 q (by simp)⟩
theorem marks_of {w : World} (hw : WOk w) : w.cell? ⟨0, 1, none⟩ = some (strV [108, 97, 115, 116]) ∧ w.cell? ⟨0, 2, none⟩ = some (strV [62, 61]) ∧ w.cell? ⟨0, 3, none⟩ = some (strV [60, 61]) :=
  ⟨hw.marks 1 (by decide), hw.marks 2 (by decide), hw.marks 3 (by decide)⟩
theorem cut_len (l p : Bs) : (Lib.cut l p).2.1.length ≤ l.length := by
  unfold Lib.cut
  split
  · simp
  · simp
/-- what a call answers that answers a day -/
def DayR (x : Int × Int × Int) (w : World) (e : Ending) (w' : World) : Prop := e = .returned (dayV x.1 x.2.1 x.2.2) ∧ Fr w w' (fun _ => False)
abbrev day0 : Obj := dayC 0 0 0
theorem res_read {w : World} {b : Nat} {x y z : Value} (hb : Blk w b 23 #[x, y, z]) (tmps : Array Value) (hp : tmps.getD 2 undef = .pointer (some ⟨b, 0, none⟩)) : (results Tryd.f17 tmps).run Tryd.prog w = .ok (.agg #[x, y, z]) w :=
  results_cell_row (P := Tryd.prog) (fn := Tryd.f17) (p := 2) (ty := 23) rfl tmps _ b 23 #[x, y, z] (0, 0) _ hp hb Tryd.underlying23 rfl infoDay2
set_option maxHeartbeats 800000 in
theorem read_last (l : Bs) (_hl : l.length ≤ 100000) (w : World) (hw : WOk w) (h : Lib.hasPrefix l lastL = true) : Calls Tryd.prog 17 #[strV l] w (DayR (1, 0, weekI (Lib.trimPrefix l lastL)) w) := by
  have hf0 := Fr.new w day0 (fun _ => False)
  have hw0 := hw.fr hf0
  obtain ⟨m1, m2, m3⟩ := marks_of hw0
  have HP := Lib.hid (CutPrefix_any l lastL (w.alloc day0))
  rw [h] at HP
  have HK := Lib.hid (week_any (Lib.trimPrefix l lastL) (w.alloc day0) hw0)
  have hb := Blk.made w 23 #[.int .i64 0, .int .i64 0, .int .i64 0]
  have c0 := cell_at hb 0
  have c1 := cell_at hb 1
  have c2 := cell_at hb 2
  have f0 := free_at hb 0
  have f1 := free_at hb 1
  have f2 := free_at hb 2
  simp at c0 c1 c2
  have HB := Lib.hid hb
  have HF := Lib.hid hf0
  generalize weekI (Lib.trimPrefix l lastL) = z at *
  generalize Lib.trimPrefix l lastL = t at *
  clear hw hw0 hb hf0 h
  go_enter Tryd.func17, Tryd.ntmps17
  go_wp2_with fail
  refine HP.out.mono ?_
  rintro e w2 ⟨rfl, rfl⟩
  go_wp2_with fail
  refine HK.out.mono ?_
  rintro e w2 ⟨rfl, rfl⟩
  go_wp2_with fail
  (try simp only [Exit.inBlock, Exit.then])
  exact bodyPost_ret (res_read (Blk.made _ _ _) _ rfl) rfl ⟨rfl, Fr.new _ _ _⟩
set_option maxRecDepth 100000 in
set_option maxHeartbeats 1600000 in
theorem read_ge (l : Bs) (hl : l.length ≤ 100000) (w : World) (hw : WOk w) (h : Lib.hasPrefix l lastL = false) (h1 : (Lib.cut l geL).2.2 = true) : Calls Tryd.prog 17 #[strV l] w (DayR (2, numD (Lib.cut l geL).2.1, weekI (Lib.cut l geL).1) w) := by
  have hf0 := Fr.new w day0 (fun _ => False)
  have hw0 := hw.fr hf0
  obtain ⟨m1, m2, m3⟩ := marks_of hw0
  have HP := Lib.hid (CutPrefix_any l lastL (w.alloc day0))
  rw [h] at HP
  have HW := Lib.hid hw
  have HC1 := Lib.hid (Cut_any l geL (by omega) (w.alloc day0) hw0)
  have HC2 := Lib.hid (fun W (f : Fr w W (fun _ => False)) => Cut_any l leL (by omega) W (hw.fr f))
  have HK := Lib.hid (fun t W (f : Fr w W (fun _ => False)) => week_any t W (hw.fr f))
  have HN := Lib.hid (fun t (ht : t.length ≤ 1000000) W (f : Fr w W (fun _ => False)) => number_any t ht W (hw.fr f))
  have hb := Blk.made w 23 #[.int .i64 0, .int .i64 0, .int .i64 0]
  have f0 := free_at hb 0
  have f1 := free_at hb 1
  have f2 := free_at hb 2
  have HB := Lib.hid hb
  have HF := Lib.hid hf0
  have hq1 := cut_len l geL
  have hq2 := cut_len l leL
  have j0 : ∀ w, (Instr.index 57 (.agg #[.int .i64 2, .int .i64 3]) (.int .i64 0)).run Tryd.prog w = .ok (.int .i64 2) w := fun _ => by kernel_rfl
  have j1 : ∀ w, (Instr.index 57 (.agg #[.int .i64 2, .int .i64 3]) (.int .i64 1)).run Tryd.prog w = .ok (.int .i64 3) w := fun _ => by kernel_rfl
  generalize Lib.cut l geL = P1 at *
  obtain ⟨p1, q1, b1⟩ := P1
  obtain rfl : b1 = true := h1
  simp only at HC1 hq1
  simp only
  have HN1 := Lib.hid (HN.out q1 (by omega))
  have HK1 := Lib.hid (HK.out p1)
  generalize numD q1 = n1 at *
  generalize weekI p1 = z1 at *
  clear hw hw0 hb hf0 h
  go_enter Tryd.func17, Tryd.ntmps17
  go_wp2_with fail
  refine HP.out.mono ?_
  rintro e w2 ⟨rfl, rfl⟩
  go_wp2_with fail
  refine wp_loop_rounds 3 ?_
  rw [rounds_succ]
  go_wp2_with fail
  refine HC1.out.mono ?_
  rintro e w2 ⟨rfl, hf2⟩
  have hfr2 := ff HF.out hf2
  have HF2 := Lib.hid hfr2
  have hb2 := hf2.blk HB.out (fun h => h)
  clear HB HF
  have c0 := cell_at hb2 0
  have c1 := cell_at hb2 1
  have c2 := cell_at hb2 2
  have f0 := free_at hb2 0
  have f1 := free_at hb2 1
  have f2 := free_at hb2 2
  simp at c0 c1 c2
  have HB2 := Lib.hid hb2
  obtain ⟨m1, m2, m3⟩ := marks_of (HW.out.fr hfr2)
  clear hf2 hfr2 hb2
  go_wp2_with fail
  refine (HN1.out _ HF2.out).mono ?_
  rintro e w5 ⟨rfl, hf5⟩
  have hfr5 := ff HF2.out hf5
  have HF5 := Lib.hid hfr5
  have hb5 := hf5.blk HB2.out (fun h => h)
  have c0 := cell_at hb5 0
  have c1 := cell_at hb5 1
  have c2 := cell_at hb5 2
  have f0 := free_at hb5 0
  have f1 := free_at hb5 1
  have f2 := free_at hb5 2
  simp at c0 c1 c2
  have HB5 := Lib.hid hb5
  clear hf5 hfr5 hb5
  go_wp2_with fail
  refine (HK1.out _ HF5.out).mono ?_
  rintro e w6 ⟨rfl, rfl⟩
  go_wp2_with fail
  (try simp only [Exit.inBlock, Exit.then])
  obtain ⟨hf9, hb9⟩ := day_put (.int .i64 2) (.int .i64 n1) (.int .i64 z1) HF5.out HB5.out (Nat.le_refl _)
  exact bodyPost_ret (res_read hb9 _ rfl) rfl ⟨rfl, hf9⟩
set_option maxRecDepth 100000 in
set_option maxHeartbeats 1600000 in
theorem read_le (l : Bs) (hl : l.length ≤ 100000) (w : World) (hw : WOk w) (h : Lib.hasPrefix l lastL = false) (h1 : (Lib.cut l geL).2.2 = false) (h2 : (Lib.cut l leL).2.2 = true) : Calls Tryd.prog 17 #[strV l] w (DayR (3, numD (Lib.cut l leL).2.1, weekI (Lib.cut l leL).1) w) := by
  have hf0 := Fr.new w day0 (fun _ => False)
  have hw0 := hw.fr hf0
  obtain ⟨m1, m2, m3⟩ := marks_of hw0
  have HP := Lib.hid (CutPrefix_any l lastL (w.alloc day0))
  rw [h] at HP
  have HW := Lib.hid hw
  have HC1 := Lib.hid (Cut_any l geL (by omega) (w.alloc day0) hw0)
  have HC2 := Lib.hid (fun W (f : Fr w W (fun _ => False)) => Cut_any l leL (by omega) W (hw.fr f))
  have HK := Lib.hid (fun t W (f : Fr w W (fun _ => False)) => week_any t W (hw.fr f))
  have HN := Lib.hid (fun t (ht : t.length ≤ 1000000) W (f : Fr w W (fun _ => False)) => number_any t ht W (hw.fr f))
  have hb := Blk.made w 23 #[.int .i64 0, .int .i64 0, .int .i64 0]
  have f0 := free_at hb 0
  have f1 := free_at hb 1
  have f2 := free_at hb 2
  have HB := Lib.hid hb
  have HF := Lib.hid hf0
  have hq1 := cut_len l geL
  have hq2 := cut_len l leL
  have j0 : ∀ w, (Instr.index 57 (.agg #[.int .i64 2, .int .i64 3]) (.int .i64 0)).run Tryd.prog w = .ok (.int .i64 2) w := fun _ => by kernel_rfl
  have j1 : ∀ w, (Instr.index 57 (.agg #[.int .i64 2, .int .i64 3]) (.int .i64 1)).run Tryd.prog w = .ok (.int .i64 3) w := fun _ => by kernel_rfl
  generalize Lib.cut l geL = P1 at *
  obtain ⟨p1, q1, b1⟩ := P1
  obtain rfl : b1 = false := h1
  simp only at HC1 hq1
  generalize Lib.cut l leL = P2 at *
  obtain ⟨p2, q2, b2⟩ := P2
  obtain rfl : b2 = true := h2
  simp only at HC2 hq2
  simp only
  have HN1 := Lib.hid (HN.out q2 (by omega))
  have HK1 := Lib.hid (HK.out p2)
  generalize numD q2 = n2 at *
  generalize weekI p2 = z2 at *
  clear hw hw0 hb hf0 h
  go_enter Tryd.func17, Tryd.ntmps17
  go_wp2_with fail
  refine HP.out.mono ?_
  rintro e w2 ⟨rfl, rfl⟩
  go_wp2_with fail
  refine wp_loop_rounds 3 ?_
  rw [rounds_succ]
  go_wp2_with fail
  refine HC1.out.mono ?_
  rintro e w2 ⟨rfl, hf2⟩
  have hfr2 := ff HF.out hf2
  have HF2 := Lib.hid hfr2
  have hb2 := hf2.blk HB.out (fun h => h)
  clear HB HF
  have c0 := cell_at hb2 0
  have c1 := cell_at hb2 1
  have c2 := cell_at hb2 2
  have f0 := free_at hb2 0
  have f1 := free_at hb2 1
  have f2 := free_at hb2 2
  simp at c0 c1 c2
  have HB2 := Lib.hid hb2
  obtain ⟨m1, m2, m3⟩ := marks_of (HW.out.fr hfr2)
  clear hf2 hfr2 hb2
  go_wp2_with fail
  rw [rounds_succ]
  go_wp2_with fail
  refine (HC2.out _ HF2.out).mono ?_
  rintro e w3 ⟨rfl, hf3⟩
  have hfr3 := ff HF2.out hf3
  have HF3 := Lib.hid hfr3
  have hb3 := hf3.blk HB2.out (fun h => h)
  have c0 := cell_at hb3 0
  have c1 := cell_at hb3 1
  have c2 := cell_at hb3 2
  have f0 := free_at hb3 0
  have f1 := free_at hb3 1
  have f2 := free_at hb3 2
  simp at c0 c1 c2
  have HB3 := Lib.hid hb3
  clear hf3 hfr3 hb3
  go_wp2_with fail
  refine (HN1.out _ HF3.out).mono ?_
  rintro e w5 ⟨rfl, hf5⟩
  have hfr5 := ff HF3.out hf5
  have HF5 := Lib.hid hfr5
  have hb5 := hf5.blk HB3.out (fun h => h)
  have c0 := cell_at hb5 0
  have c1 := cell_at hb5 1
  have c2 := cell_at hb5 2
  have f0 := free_at hb5 0
  have f1 := free_at hb5 1
  have f2 := free_at hb5 2
  simp at c0 c1 c2
  have HB5 := Lib.hid hb5
  clear hf5 hfr5 hb5
  go_wp2_with fail
  refine (HK1.out _ HF5.out).mono ?_
  rintro e w6 ⟨rfl, rfl⟩
  go_wp2_with fail
  (try simp only [Exit.inBlock, Exit.then])
  obtain ⟨hf9, hb9⟩ := day_put (.int .i64 3) (.int .i64 n2) (.int .i64 z2) HF5.out HB5.out (Nat.le_refl _)
  exact bodyPost_ret (res_read hb9 _ rfl) rfl ⟨rfl, hf9⟩
set_option maxRecDepth 100000 in
set_option maxHeartbeats 1600000 in
theorem read_no (l : Bs) (hl : l.length ≤ 100000) (w : World) (hw : WOk w) (h : Lib.hasPrefix l lastL = false) (h1 : (Lib.cut l geL).2.2 = false) (h2 : (Lib.cut l leL).2.2 = false) : Calls Tryd.prog 17 #[strV l] w (DayR (0, numD l, 0) w) := by
  have hf0 := Fr.new w day0 (fun _ => False)
  have hw0 := hw.fr hf0
  obtain ⟨m1, m2, m3⟩ := marks_of hw0
  have HP := Lib.hid (CutPrefix_any l lastL (w.alloc day0))
  rw [h] at HP
  have HW := Lib.hid hw
  have HC1 := Lib.hid (Cut_any l geL (by omega) (w.alloc day0) hw0)
  have HC2 := Lib.hid (fun W (f : Fr w W (fun _ => False)) => Cut_any l leL (by omega) W (hw.fr f))
  have HK := Lib.hid (fun t W (f : Fr w W (fun _ => False)) => week_any t W (hw.fr f))
  have HN := Lib.hid (fun t (ht : t.length ≤ 1000000) W (f : Fr w W (fun _ => False)) => number_any t ht W (hw.fr f))
  have hb := Blk.made w 23 #[.int .i64 0, .int .i64 0, .int .i64 0]
  have f0 := free_at hb 0
  have f1 := free_at hb 1
  have f2 := free_at hb 2
  have HB := Lib.hid hb
  have HF := Lib.hid hf0
  have hq1 := cut_len l geL
  have hq2 := cut_len l leL
  have j0 : ∀ w, (Instr.index 57 (.agg #[.int .i64 2, .int .i64 3]) (.int .i64 0)).run Tryd.prog w = .ok (.int .i64 2) w := fun _ => by kernel_rfl
  have j1 : ∀ w, (Instr.index 57 (.agg #[.int .i64 2, .int .i64 3]) (.int .i64 1)).run Tryd.prog w = .ok (.int .i64 3) w := fun _ => by kernel_rfl
  generalize Lib.cut l geL = P1 at *
  obtain ⟨p1, q1, b1⟩ := P1
  obtain rfl : b1 = false := h1
  simp only at HC1 hq1
  generalize Lib.cut l leL = P2 at *
  obtain ⟨p2, q2, b2⟩ := P2
  obtain rfl : b2 = false := h2
  simp only at HC2 hq2
  have HN1 := Lib.hid (HN.out l (by omega))
  generalize numD l = n3 at *
  clear hw hw0 hb hf0 h
  go_enter Tryd.func17, Tryd.ntmps17
  go_wp2_with fail
  refine HP.out.mono ?_
  rintro e w2 ⟨rfl, rfl⟩
  go_wp2_with fail
  refine wp_loop_rounds 3 ?_
  rw [rounds_succ]
  go_wp2_with fail
  refine HC1.out.mono ?_
  rintro e w2 ⟨rfl, hf2⟩
  have hfr2 := ff HF.out hf2
  have HF2 := Lib.hid hfr2
  have hb2 := hf2.blk HB.out (fun h => h)
  clear HB HF
  have c0 := cell_at hb2 0
  have c1 := cell_at hb2 1
  have c2 := cell_at hb2 2
  have f0 := free_at hb2 0
  have f1 := free_at hb2 1
  have f2 := free_at hb2 2
  simp at c0 c1 c2
  have HB2 := Lib.hid hb2
  obtain ⟨m1, m2, m3⟩ := marks_of (HW.out.fr hfr2)
  clear hf2 hfr2 hb2
  go_wp2_with fail
  rw [rounds_succ]
  go_wp2_with fail
  refine (HC2.out _ HF2.out).mono ?_
  rintro e w3 ⟨rfl, hf3⟩
  have hfr3 := ff HF2.out hf3
  have HF3 := Lib.hid hfr3
  have hb3 := hf3.blk HB2.out (fun h => h)
  have c0 := cell_at hb3 0
  have c1 := cell_at hb3 1
  have c2 := cell_at hb3 2
  have f0 := free_at hb3 0
  have f1 := free_at hb3 1
  have f2 := free_at hb3 2
  simp at c0 c1 c2
  have HB3 := Lib.hid hb3
  clear hf3 hfr3 hb3
  go_wp2_with fail
  rw [rounds_succ]
  go_wp2_with fail
  refine (HN1.out _ HF3.out).mono ?_
  rintro e w5 ⟨rfl, hf5⟩
  have hfr5 := ff HF3.out hf5
  have HF5 := Lib.hid hfr5
  have hb5 := hf5.blk HB3.out (fun h => h)
  have c0 := cell_at hb5 0
  have c1 := cell_at hb5 1
  have c2 := cell_at hb5 2
  have f0 := free_at hb5 0
  have f1 := free_at hb5 1
  have f2 := free_at hb5 2
  simp at c0 c1 c2
  have HB5 := Lib.hid hb5
  clear hf5 hfr5 hb5
  go_wp2_with fail
  (try simp only [Exit.inBlock, Exit.then])
  obtain ⟨hf9, hb9⟩ := day_put (.int .i64 0) (.int .i64 n3) (.int .i64 0) HF5.out HB5.out (Nat.le_refl _)
  exact bodyPost_ret (res_read hb9 _ rfl) rfl ⟨rfl, hf9⟩
theorem read_any (l : Bs) (hl : l.length ≤ 100000) (w : World) (hw : WOk w) : Calls Tryd.prog 17 #[strV l] w (DayR (readD l) w) := by
  unfold readD
  by_cases h : Lib.hasPrefix l lastL = true
  · rw [if_pos h]
    exact read_last l hl w hw h
  · rw [if_neg h]
    simp only [Bool.not_eq_true] at h
    by_cases h1 : (Lib.cut l geL).2.2 = true
    · rw [if_pos h1]
      exact read_ge l hl w hw h h1
    · rw [if_neg h1]
      simp only [Bool.not_eq_true] at h1
      by_cases h2 : (Lib.cut l leL).2.2 = true
      · rw [if_pos h2]
        exact read_le l hl w hw h h1 h2
      · rw [if_neg h2]
        simp only [Bool.not_eq_true] at h2
        exact read_no l hl w hw h h1 h2
end Go.Proofs.YtofabgllfjmaaaaDoor
