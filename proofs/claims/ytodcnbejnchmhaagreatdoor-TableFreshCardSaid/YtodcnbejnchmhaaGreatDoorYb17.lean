import Derived.Test.YtodcnbejnchmhaaGreatDoorYb16
import Derived.LoopN
import Derived.Test.YtodcnbejnchmhaaGreatDoorProg
import Derived.Test.YtodcnbejnchmhaaGreatDoorYb10
import Derived.Test.YtodcnbejnchmhaaGreatDoorYb01
import Derived.BigQuiet
import Derived.Deep.QuietTactic
import Derived.WalkLawsBesides
import Derived.IntWalk
import Derived.Lib.Hide
import Derived.Tactics2
import Derived.Deep.LoopGhost
namespace Go.Proofs.YtodcnbejnchmhaaGreatDoor.S6
open Go.RowKit Go.Mem Go.Dfm

theorem between_any (a b : Int) (w : World) (ha : 0 ≤ a ∧ a < 7) (hb : 0 ≤ b ∧ b < 7) : Calls Tryz.prog 220 #[.int .i64 a, .int .i64 b] w fun e w' => e = .returned (.int .i64 ((b - a + 7) % 7)) ∧ w = w' := by
  obtain ⟨ha0, ha1⟩ := ha
  obtain ⟨hb0, hb1⟩ := hb
  have h1 : 0 ≤ b - a + 7 := by omega
  go_enter Tryz.func220, Tryz.ntmps220
  go_wp2_with fail
  go_ret
  exact ⟨rfl, rfl⟩
theorem begin_day (k d q y m : Int) (w : World) (hw : WOk w) : Calls Tryz.prog 219 #[dayV k d q, .int .i64 y, .int .i64 m] w fun e w' => e = .returned (.int .i64 (if k = 1 then Go.Civil.longI y m else d)) ∧ Fr w w' (fun _ => False) := by
  have HL := Lib.hid (fun (W : World) (f : Fr w W (fun _ => False)) => Long_any y m W (hw.fr f).lok)
  clear hw
  by_cases h : k = 1
  · rw [if_pos h]
    subst h
    go_enter Tryz.func219, Tryz.ntmps219
    go_wp2_with fail
    refine (HL.out _ (Fr.new _ _ _)).mono ?_
    rintro e w2 ⟨rfl, rfl⟩
    go_wp2_with fail
    go_ret
    exact ⟨rfl, Fr.new _ _ _⟩
  · rw [if_neg h]
    have h1 : (k == 1) = false := beq_eq_false_iff_ne.2 h
    clear h HL
    go_enter Tryz.func219, Tryz.ntmps219
    go_wp2_with fail
    go_ret
    exact ⟨rfl, Fr.new _ _ _⟩
end Go.Proofs.YtodcnbejnchmhaaGreatDoor.S6
namespace Go.Proofs.YtodcnbejnchmhaaGreatDoor.S6
open Go.RowKit Go.Mem Go.Dfm

theorem infoDay2 : (Tryz.prog.info? 61).map (·.size) = some 3 := by kernel_rfl
theorem load_day {w : World} {g : Nat} {x y z : Value} (h : Blk w g 61 #[x, y, z]) : (loadVar 61 ⟨g, 0, none⟩).run Tryz.prog w = .ok (.agg #[x, y, z]) w := run_loadVar_row w g 61 61 #[x, y, z] (0, 0) _ h Tryz.underlying61 rfl infoDay2
/-- a day that is stored where one stood -/
theorem day_put {w0 w2 : World} {b : Nat} {x y z : Value} (k d q : Value) (h : Fr w0 w2 (fun _ => False)) (hb : Blk w2 b 61 #[x, y, z]) (hge : w0.heap.size ≤ b) :
    Fr w0 (((w2.setCell ⟨b, 0, none⟩ k).setCell ⟨b, 1, none⟩ d).setCell ⟨b, 2, none⟩ q) (fun _ => False) ∧ Blk (((w2.setCell ⟨b, 0, none⟩ k).setCell ⟨b, 1, none⟩ d).setCell ⟨b, 2, none⟩ q) b 61 #[k, d, q] := by
  have f1 := h.fresh (Fr.set (S := (· = b)) (a := ⟨b, 0, none⟩) (v := k) rfl) (fun i e => by omega)
  have f2 := f1.fresh (Fr.set (S := (· = b)) (a := ⟨b, 1, none⟩) (v := d) rfl) (fun i e => by omega)
  have f3 := f2.fresh (Fr.set (S := (· = b)) (a := ⟨b, 2, none⟩) (v := q) rfl) (fun i e => by omega)
  exact ⟨f3, ((hb.put' (cs' := #[k, y, z]) 0 k (by simp)).put' (cs' := #[k, d, z]) 1 d (by simp)).put' (cs' := #[k, d, q]) 2 q (by simp)⟩
theorem marks_of {w : World} (hw : WOk w) : w.cell? ⟨5, 1, none⟩ = some (strV [108, 97, 115, 116]) ∧ w.cell? ⟨5, 2, none⟩ = some (strV [62, 61]) ∧ w.cell? ⟨5, 3, none⟩ = some (strV [60, 61]) :=
  ⟨hw.marks 1 (by decide), hw.marks 2 (by decide), hw.marks 3 (by decide)⟩
theorem cut_len (l p : Bs) : (Lib.cut l p).2.1.length ≤ l.length := by
  unfold Lib.cut
  split
  · simp
  · simp
/-- what a call answers that answers a day -/
def DayR (x : Int × Int × Int) (w : World) (e : Ending) (w' : World) : Prop := e = .returned (dayV x.1 x.2.1 x.2.2) ∧ Fr w w' (fun _ => False)
abbrev day0 : Obj := dayC 0 0 0
theorem res_read {w : World} {b : Nat} {x y z : Value} (hb : Blk w b 61 #[x, y, z]) (tmps : Array Value) (hp : tmps.getD 2 undef = .pointer (some ⟨b, 0, none⟩)) : (results Tryz.f216 tmps).run Tryz.prog w = .ok (.agg #[x, y, z]) w :=
  results_cell_row (P := Tryz.prog) (fn := Tryz.f216) (p := 2) (ty := 61) rfl tmps _ b 61 #[x, y, z] (0, 0) _ hp hb Tryz.underlying61 rfl infoDay2
set_option maxHeartbeats 800000 in
theorem read_last (l : Bs) (_hl : l.length ≤ 100000) (w : World) (hw : WOk w) (h : Lib.hasPrefix l lastL = true) : Calls Tryz.prog 216 #[strV l] w (DayR (1, 0, weekI (Lib.trimPrefix l lastL)) w) := by
  have hf0 := Fr.new w day0 (fun _ => False)
  have hw0 := hw.fr hf0
  obtain ⟨m1, m2, m3⟩ := marks_of hw0
  have HP := Lib.hid (CutPrefix_any l lastL (w.alloc day0))
  rw [h] at HP
  have HK := Lib.hid (week_any (Lib.trimPrefix l lastL) (w.alloc day0) hw0)
  have hb := Blk.made w 61 #[.int .i64 0, .int .i64 0, .int .i64 0]
  have c0 := cell_at hb 0
  have c1 := cell_at hb 1
  have c2 := cell_at hb 2
  have f0 := free_at hb 0
  have f1 := free_at hb 1
  have f2 := free_at hb 2
  simp at c0 c1 c2
  have HB := Lib.hid hb
  have HF := Lib.hid hf0
  generalize weekI (Lib.trimPrefix l lastL) = z at *
  generalize Lib.trimPrefix l lastL = t at *
  clear hw hw0 hb hf0 h
  go_enter Tryz.func216, Tryz.ntmps216
  go_wp2_with fail
  refine HP.out.mono ?_
  rintro e w2 ⟨rfl, rfl⟩
  go_wp2_with fail
  refine HK.out.mono ?_
  rintro e w2 ⟨rfl, rfl⟩
  go_wp2_with fail
  (try simp only [Exit.inBlock, Exit.then])
  exact bodyPost_ret (res_read (Blk.made _ _ _) _ rfl) rfl ⟨rfl, Fr.new _ _ _⟩
set_option maxRecDepth 100000 in
set_option maxHeartbeats 1600000 in
theorem read_ge (l : Bs) (hl : l.length ≤ 100000) (w : World) (hw : WOk w) (h : Lib.hasPrefix l lastL = false) (h1 : (Lib.cut l geL).2.2 = true) : Calls Tryz.prog 216 #[strV l] w (DayR (2, numD (Lib.cut l geL).2.1, weekI (Lib.cut l geL).1) w) := by
  have hf0 := Fr.new w day0 (fun _ => False)
  have hw0 := hw.fr hf0
  obtain ⟨m1, m2, m3⟩ := marks_of hw0
  have HP := Lib.hid (CutPrefix_any l lastL (w.alloc day0))
  rw [h] at HP
  have HW := Lib.hid hw
  have HC1 := Lib.hid (Cut_any l geL (by omega) (w.alloc day0) hw0)
  have HC2 := Lib.hid (fun W (f : Fr w W (fun _ => False)) => Cut_any l leL (by omega) W (hw.fr f))
  have HK := Lib.hid (fun t W (f : Fr w W (fun _ => False)) => week_any t W (hw.fr f))
  have HN := Lib.hid (fun t (ht : t.length ≤ 1000000) W (f : Fr w W (fun _ => False)) => number_any t ht W (hw.fr f))
  have hb := Blk.made w 61 #[.int .i64 0, .int .i64 0, .int .i64 0]
  have f0 := free_at hb 0
  have f1 := free_at hb 1
  have f2 := free_at hb 2
  have HB := Lib.hid hb
  have HF := Lib.hid hf0
  have hq1 := cut_len l geL
  have hq2 := cut_len l leL
  have j0 : ∀ w, (Instr.index 270 (.agg #[.int .i64 2, .int .i64 3]) (.int .i64 0)).run Tryz.prog w = .ok (.int .i64 2) w := fun _ => by kernel_rfl
  have j1 : ∀ w, (Instr.index 270 (.agg #[.int .i64 2, .int .i64 3]) (.int .i64 1)).run Tryz.prog w = .ok (.int .i64 3) w := fun _ => by kernel_rfl
  generalize Lib.cut l geL = P1 at *
  obtain ⟨p1, q1, b1⟩ := P1
  obtain rfl : b1 = true := h1
  simp only at HC1 hq1
  simp only
  have HN1 := Lib.hid (HN.out q1 (by omega))
  have HK1 := Lib.hid (HK.out p1)
  generalize numD q1 = n1 at *
  generalize weekI p1 = z1 at *
  clear hw hw0 hb hf0 h
  go_enter Tryz.func216, Tryz.ntmps216
  go_wp2_with fail
  refine HP.out.mono ?_
  rintro e w2 ⟨rfl, rfl⟩
  go_wp2_with fail
  refine wp_loop_rounds 3 ?_
  rw [rounds_succ]
  go_wp2_with fail
  refine HC1.out.mono ?_
  rintro e w2 ⟨rfl, hf2⟩
  have hfr2 := ff HF.out hf2
  have HF2 := Lib.hid hfr2
  have hb2 := hf2.blk HB.out (fun h => h)
  clear HB HF
  have c0 := cell_at hb2 0
  have c1 := cell_at hb2 1
  have c2 := cell_at hb2 2
  have f0 := free_at hb2 0
  have f1 := free_at hb2 1
  have f2 := free_at hb2 2
  simp at c0 c1 c2
  have HB2 := Lib.hid hb2
  obtain ⟨m1, m2, m3⟩ := marks_of (HW.out.fr hfr2)
  clear hf2 hfr2 hb2
  go_wp2_with fail
  refine (HN1.out _ HF2.out).mono ?_
  rintro e w5 ⟨rfl, hf5⟩
  have hfr5 := ff HF2.out hf5
  have HF5 := Lib.hid hfr5
  have hb5 := hf5.blk HB2.out (fun h => h)
  have c0 := cell_at hb5 0
  have c1 := cell_at hb5 1
  have c2 := cell_at hb5 2
  have f0 := free_at hb5 0
  have f1 := free_at hb5 1
  have f2 := free_at hb5 2
  simp at c0 c1 c2
  have HB5 := Lib.hid hb5
  clear hf5 hfr5 hb5
  go_wp2_with fail
  refine (HK1.out _ HF5.out).mono ?_
  rintro e w6 ⟨rfl, rfl⟩
  go_wp2_with fail
  (try simp only [Exit.inBlock, Exit.then])
  obtain ⟨hf9, hb9⟩ := day_put (.int .i64 2) (.int .i64 n1) (.int .i64 z1) HF5.out HB5.out (Nat.le_refl _)
  exact bodyPost_ret (res_read hb9 _ rfl) rfl ⟨rfl, hf9⟩
set_option maxRecDepth 100000 in
set_option maxHeartbeats 1600000 in
theorem read_le (l : Bs) (hl : l.length ≤ 100000) (w : World) (hw : WOk w) (h : Lib.hasPrefix l lastL = false) (h1 : (Lib.cut l geL).2.2 = false) (h2 : (Lib.cut l leL).2.2 = true) : Calls Tryz.prog 216 #[strV l] w (DayR (3, numD (Lib.cut l leL).2.1, weekI (Lib.cut l leL).1) w) := by
  have hf0 := Fr.new w day0 (fun _ => False)
  have hw0 := hw.fr hf0
  obtain ⟨m1, m2, m3⟩ := marks_of hw0
  have HP := Lib.hid (CutPrefix_any l lastL (w.alloc day0))
  rw [h] at HP
  have HW := Lib.hid hw
  have HC1 := Lib.hid (Cut_any l geL (by omega) (w.alloc day0) hw0)
  have HC2 := Lib.hid (fun W (f : Fr w W (fun _ => False)) => Cut_any l leL (by omega) W (hw.fr f))
  have HK := Lib.hid (fun t W (f : Fr w W (fun _ => False)) => week_any t W (hw.fr f))
  have HN := Lib.hid (fun t (ht : t.length ≤ 1000000) W (f : Fr w W (fun _ => False)) => number_any t ht W (hw.fr f))
  have hb := Blk.made w 61 #[.int .i64 0, .int .i64 0, .int .i64 0]
  have f0 := free_at hb 0
  have f1 := free_at hb 1
  have f2 := free_at hb 2
  have HB := Lib.hid hb
  have HF := Lib.hid hf0
  have hq1 := cut_len l geL
  have hq2 := cut_len l leL
  have j0 : ∀ w, (Instr.index 270 (.agg #[.int .i64 2, .int .i64 3]) (.int .i64 0)).run Tryz.prog w = .ok (.int .i64 2) w := fun _ => by kernel_rfl
  have j1 : ∀ w, (Instr.index 270 (.agg #[.int .i64 2, .int .i64 3]) (.int .i64 1)).run Tryz.prog w = .ok (.int .i64 3) w := fun _ => by kernel_rfl
  generalize Lib.cut l geL = P1 at *
  obtain ⟨p1, q1, b1⟩ := P1
  obtain rfl : b1 = false := h1
  simp only at HC1 hq1
  generalize Lib.cut l leL = P2 at *
  obtain ⟨p2, q2, b2⟩ := P2
  obtain rfl : b2 = true := h2
  simp only at HC2 hq2
  simp only
  have HN1 := Lib.hid (HN.out q2 (by omega))
  have HK1 := Lib.hid (HK.out p2)
  generalize numD q2 = n2 at *
  generalize weekI p2 = z2 at *
  clear hw hw0 hb hf0 h
  go_enter Tryz.func216, Tryz.ntmps216
  go_wp2_with fail
  refine HP.out.mono ?_
  rintro e w2 ⟨rfl, rfl⟩
  go_wp2_with fail
  refine wp_loop_rounds 3 ?_
  rw [rounds_succ]
  go_wp2_with fail
  refine HC1.out.mono ?_
  rintro e w2 ⟨rfl, hf2⟩
  have hfr2 := ff HF.out hf2
  have HF2 := Lib.hid hfr2
  have hb2 := hf2.blk HB.out (fun h => h)
  clear HB HF
  have c0 := cell_at hb2 0
  have c1 := cell_at hb2 1
  have c2 := cell_at hb2 2
  have f0 := free_at hb2 0
  have f1 := free_at hb2 1
  have f2 := free_at hb2 2
  simp at c0 c1 c2
  have HB2 := Lib.hid hb2
  obtain ⟨m1, m2, m3⟩ := marks_of (HW.out.fr hfr2)
  clear hf2 hfr2 hb2
  go_wp2_with fail
  rw [rounds_succ]
  go_wp2_with fail
  refine (HC2.out _ HF2.out).mono ?_
  rintro e w3 ⟨rfl, hf3⟩
  have hfr3 := ff HF2.out hf3
  have HF3 := Lib.hid hfr3
  have hb3 := hf3.blk HB2.out (fun h => h)
  have c0 := cell_at hb3 0
  have c1 := cell_at hb3 1
  have c2 := cell_at hb3 2
  have f0 := free_at hb3 0
  have f1 := free_at hb3 1
  have f2 := free_at hb3 2
  simp at c0 c1 c2
  have HB3 := Lib.hid hb3
  clear hf3 hfr3 hb3
  go_wp2_with fail
  refine (HN1.out _ HF3.out).mono ?_
  rintro e w5 ⟨rfl, hf5⟩
  have hfr5 := ff HF3.out hf5
  have HF5 := Lib.hid hfr5
  have hb5 := hf5.blk HB3.out (fun h => h)
  have c0 := cell_at hb5 0
  have c1 := cell_at hb5 1
  have c2 := cell_at hb5 2
  have f0 := free_at hb5 0
  have f1 := free_at hb5 1
  have f2 := free_at hb5 2
  simp at c0 c1 c2
  have HB5 := Lib.hid hb5
  clear hf5 hfr5 hb5
  go_wp2_with fail
  refine (HK1.out _ HF5.out).mono ?_
  rintro e w6 ⟨rfl, rfl⟩
  go_wp2_with fail
  (try simp only [Exit.inBlock, Exit.then])
  obtain ⟨hf9, hb9⟩ := day_put (.int .i64 3) (.int .i64 n2) (.int .i64 z2) HF5.out HB5.out (Nat.le_refl _)
  exact bodyPost_ret (res_read hb9 _ rfl) rfl ⟨rfl, hf9⟩
set_option maxRecDepth 100000 in
set_option maxHeartbeats 1600000 in
theorem read_no (l : Bs) (hl : l.length ≤ 100000) (w : World) (hw : WOk w) (h : Lib.hasPrefix l lastL = false) (h1 : (Lib.cut l geL).2.2 = false) (h2 : (Lib.cut l leL).2.2 = false) : Calls Tryz.prog 216 #[strV l] w (DayR (0, numD l, 0) w) := by
  have hf0 := Fr.new w day0 (fun _ => False)
  have hw0 := hw.fr hf0
  obtain ⟨m1, m2, m3⟩ := marks_of hw0
  have HP := Lib.hid (CutPrefix_any l lastL (w.alloc day0))
  rw [h] at HP
  have HW := Lib.hid hw
  have HC1 := Lib.hid (Cut_any l geL (by omega) (w.alloc day0) hw0)
  have HC2 := Lib.hid (fun W (f : Fr w W (fun _ => False)) => Cut_any l leL (by omega) W (hw.fr f))
  have HK := Lib.hid (fun t W (f : Fr w W (fun _ => False)) => week_any t W (hw.fr f))
  have HN := Lib.hid (fun t (ht : t.length ≤ 1000000) W (f : Fr w W (fun _ => False)) => number_any t ht W (hw.fr f))
  have hb := Blk.made w 61 #[.int .i64 0, .int .i64 0, .int .i64 0]
  have f0 := free_at hb 0
  have f1 := free_at hb 1
  have f2 := free_at hb 2
  have HB := Lib.hid hb
  have HF := Lib.hid hf0
  have hq1 := cut_len l geL
  have hq2 := cut_len l leL
  have j0 : ∀ w, (Instr.index 270 (.agg #[.int .i64 2, .int .i64 3]) (.int .i64 0)).run Tryz.prog w = .ok (.int .i64 2) w := fun _ => by kernel_rfl
  have j1 : ∀ w, (Instr.index 270 (.agg #[.int .i64 2, .int .i64 3]) (.int .i64 1)).run Tryz.prog w = .ok (.int .i64 3) w := fun _ => by kernel_rfl
  generalize Lib.cut l geL = P1 at *
  obtain ⟨p1, q1, b1⟩ := P1
  obtain rfl : b1 = false := h1
  simp only at HC1 hq1
  generalize Lib.cut l leL = P2 at *
  obtain ⟨p2, q2, b2⟩ := P2
  obtain rfl : b2 = false := h2
  simp only at HC2 hq2
  have HN1 := Lib.hid (HN.out l (by omega))
  generalize numD l = n3 at *
  clear hw hw0 hb hf0 h
  go_enter Tryz.func216, Tryz.ntmps216
  go_wp2_with fail
  refine HP.out.mono ?_
  rintro e w2 ⟨rfl, rfl⟩
  go_wp2_with fail
  refine wp_loop_rounds 3 ?_
  rw [rounds_succ]
  go_wp2_with fail
  refine HC1.out.mono ?_
  rintro e w2 ⟨rfl, hf2⟩
  have hfr2 := ff HF.out hf2
  have HF2 := Lib.hid hfr2
  have hb2 := hf2.blk HB.out (fun h => h)
  clear HB HF
  have c0 := cell_at hb2 0
  have c1 := cell_at hb2 1
  have c2 := cell_at hb2 2
  have f0 := free_at hb2 0
  have f1 := free_at hb2 1
  have f2 := free_at hb2 2
  simp at c0 c1 c2
  have HB2 := Lib.hid hb2
  obtain ⟨m1, m2, m3⟩ := marks_of (HW.out.fr hfr2)
  clear hf2 hfr2 hb2
  go_wp2_with fail
  rw [rounds_succ]
  go_wp2_with fail
  refine (HC2.out _ HF2.out).mono ?_
  rintro e w3 ⟨rfl, hf3⟩
  have hfr3 := ff HF2.out hf3
  have HF3 := Lib.hid hfr3
  have hb3 := hf3.blk HB2.out (fun h => h)
  have c0 := cell_at hb3 0
  have c1 := cell_at hb3 1
  have c2 := cell_at hb3 2
  have f0 := free_at hb3 0
  have f1 := free_at hb3 1
  have f2 := free_at hb3 2
  simp at c0 c1 c2
  have HB3 := Lib.hid hb3
  clear hf3 hfr3 hb3
  go_wp2_with fail
  rw [rounds_succ]
  go_wp2_with fail
  refine (HN1.out _ HF3.out).mono ?_
  rintro e w5 ⟨rfl, hf5⟩
  have hfr5 := ff HF3.out hf5
  have HF5 := Lib.hid hfr5
  have hb5 := hf5.blk HB3.out (fun h => h)
  have c0 := cell_at hb5 0
  have c1 := cell_at hb5 1
  have c2 := cell_at hb5 2
  have f0 := free_at hb5 0
  have f1 := free_at hb5 1
  have f2 := free_at hb5 2
  simp at c0 c1 c2
  have HB5 := Lib.hid hb5
  clear hf5 hfr5 hb5
  go_wp2_with fail
  (try simp only [Exit.inBlock, Exit.then])
  obtain ⟨hf9, hb9⟩ := day_put (.int .i64 0) (.int .i64 n3) (.int .i64 0) HF5.out HB5.out (Nat.le_refl _)
  exact bodyPost_ret (res_read hb9 _ rfl) rfl ⟨rfl, hf9⟩
theorem read_any (l : Bs) (hl : l.length ≤ 100000) (w : World) (hw : WOk w) : Calls Tryz.prog 216 #[strV l] w (DayR (readD l) w) := by
  unfold readD
  by_cases h : Lib.hasPrefix l lastL = true
  · rw [if_pos h]
    exact read_last l hl w hw h
  · rw [if_neg h]
    simp only [Bool.not_eq_true] at h
    by_cases h1 : (Lib.cut l geL).2.2 = true
    · rw [if_pos h1]
      exact read_ge l hl w hw h h1
    · rw [if_neg h1]
      simp only [Bool.not_eq_true] at h1
      by_cases h2 : (Lib.cut l leL).2.2 = true
      · rw [if_pos h2]
        exact read_le l hl w hw h h1 h2
      · rw [if_neg h2]
        simp only [Bool.not_eq_true] at h2
        exact read_no l hl w hw h h1 h2
end Go.Proofs.YtodcnbejnchmhaaGreatDoor.S6
namespace Go.Proofs.YtodcnbejnchmhaaGreatDoor.S6
open Go.RowKit Go.Mem Go.Dfm

/-- what a call answers that answers a day and a kind -/
def ParseR (k d q j : Int) (w : World) (e : Ending) (w' : World) : Prop := e = .returned (.tuple #[dayV k d q, .int .i64 j]) ∧ Fr w w' (fun _ => False)
theorem res_Parse {w : World} {b : Nat} {x y z : Value} {k : Int} (hb : Blk w b 61 #[x, y, z]) (tmps : Array Value) (h2 : tmps.getD 2 undef = .pointer (some ⟨b, 0, none⟩)) (h3 : tmps.getD 3 undef = .int .i64 k) : (results Tryz.f190 tmps).run Tryz.prog w = .ok (.tuple #[.agg #[x, y, z], .int .i64 k]) w := by
  have h2' : tmps[2]?.getD undef = .pointer (some ⟨b, 0, none⟩) := by simpa using h2
  have h3' : tmps[3]?.getD undef = .int .i64 k := by simpa using h3
  have hL := load_day hb
  simp [results, Tryz.results190, h2', h3', asAddr, hL]
set_option maxRecDepth 100000 in
set_option maxHeartbeats 1600000 in
theorem Parse_any (l : Bs) (hl : l.length ≤ 100000) (w : World) (hw : WOk w) (k d q j : Int) (h : parseD l = (k, d, q, j)) : Calls Tryz.prog 190 #[strV l] w (ParseR k d q j w) := by
  have hf0 := Fr.new w day0 (fun _ => False)
  have HR := Lib.hid (read_any l hl (w.alloc day0) (hw.fr hf0))
  have hb := Blk.made w 61 #[.int .i64 0, .int .i64 0, .int .i64 0]
  have HB := Lib.hid hb
  have HF := Lib.hid hf0
  unfold parseD at h
  obtain ⟨⟨k1, d1, q1⟩, hx⟩ : ∃ x, readD l = x := ⟨_, rfl⟩
  rw [hx] at h HR
  simp only at h
  have HT := Lib.hid (fun W => right_any k1 d1 q1 W)
  clear hb hf0 hw hx
  by_cases hr : rightB k1 d1 q1 = true
  · rw [hr] at h HT
    rw [if_pos rfl] at h
    injection h with e1 h
    injection h with e2 h
    injection h with e3 e4
    subst e1 e2 e3 e4
    clear hr
    go_enter Tryz.func190, Tryz.ntmps190
    go_wp2_with fail
    refine HR.out.mono ?_
    rintro e w2 ⟨rfl, hf2⟩
    have HF2 := Lib.hid (ff HF.out hf2)
    have hb2 := hf2.blk HB.out (fun h => h)
    have HF3 := Lib.hid (ff HF2.out (Fr.new w2 (dayC k1 d1 q1) (fun _ => False)))
    have HB3 := Lib.hid ((Fr.new w2 (dayC k1 d1 q1) (fun _ => False)).blk hb2 (fun h => h))
    have HL3 := Lib.hid (Blk.made w2 61 #[.int .i64 k1, .int .i64 d1, .int .i64 q1])
    clear hf2 hb2
    go_wp2_with fail
    refine (HT.out _).mono ?_
    rintro e w4 ⟨rfl, hf4⟩
    have HF4 := Lib.hid (ff HF3.out hf4)
    have hb4 := hf4.blk HB3.out (fun h => h)
    have hl4 := hf4.blk HL3.out (fun h => h)
    have c0 := cell_at hb4 0
    have c1 := cell_at hb4 1
    have c2 := cell_at hb4 2
    have f0 := free_at hb4 0
    have f1 := free_at hb4 1
    have f2 := free_at hb4 2
    have g0 := cell_at hl4 0
    have g1 := cell_at hl4 1
    have g2 := cell_at hl4 2
    simp at c0 c1 c2 g0 g1 g2
    have HB4 := Lib.hid hb4
    clear hb4 hl4 hf4
    go_wp2_with fail
    (try simp only [Exit.inBlock, Exit.then])
    obtain ⟨hf9, hb9⟩ := day_put (.int .i64 k1) (.int .i64 d1) (.int .i64 q1) HF4.out HB4.out (Nat.le_refl _)
    exact bodyPost_ret (res_Parse hb9 _ rfl rfl) rfl ⟨rfl, hf9⟩
  · simp only [Bool.not_eq_true] at hr
    rw [hr] at h HT
    rw [if_neg (by decide)] at h
    injection h with e1 h
    injection h with e2 h
    injection h with e3 e4
    subst e1 e2 e3 e4
    clear hr
    go_enter Tryz.func190, Tryz.ntmps190
    go_wp2_with fail
    refine HR.out.mono ?_
    rintro e w2 ⟨rfl, hf2⟩
    have HF2 := Lib.hid (ff HF.out hf2)
    have hb2 := hf2.blk HB.out (fun h => h)
    have HF3 := Lib.hid (ff HF2.out (Fr.new w2 (dayC k1 d1 q1) (fun _ => False)))
    have HB3 := Lib.hid ((Fr.new w2 (dayC k1 d1 q1) (fun _ => False)).blk hb2 (fun h => h))
    clear hf2 hb2
    go_wp2_with fail
    refine (HT.out _).mono ?_
    rintro e w4 ⟨rfl, hf4⟩
    have HF4 := Lib.hid (ff HF3.out hf4)
    have hb4 := hf4.blk HB3.out (fun h => h)
    have c0 := cell_at hb4 0
    have c1 := cell_at hb4 1
    have c2 := cell_at hb4 2
    have f0 := free_at hb4 0
    have f1 := free_at hb4 1
    have f2 := free_at hb4 2
    simp at c0 c1 c2
    have HB4 := Lib.hid hb4
    clear hb4 hf4
    go_wp2_with fail
    (try simp only [Exit.inBlock, Exit.then])
    obtain ⟨hf9, hb9⟩ := day_put (.int .i64 0) (.int .i64 0) (.int .i64 0) HF4.out HB4.out (Nat.le_refl _)
    exact bodyPost_ret (res_Parse hb9 _ rfl rfl) rfl ⟨rfl, hf9⟩
end Go.Proofs.YtodcnbejnchmhaaGreatDoor.S6
namespace Go.Proofs.YtodcnbejnchmhaaGreatDoor.S6
open Go.RowKit Go.Mem Go.Dfm

def dayOf (k d y m : Int) : Int := if k = 1 then Go.Civil.longI y m else d
/-- what Of answers -/
def ofD (k d q y m : Int) : Int × Int :=
  if rightB k d q = true then
    if daysE y m (dayOf k d y m) = 0 then
      (if k = 2 then daysK y m (dayOf k d y m) + (q - (daysK y m (dayOf k d y m) + 4) % 7 + 7) % 7
       else if k = 0 then daysK y m (dayOf k d y m)
       else daysK y m (dayOf k d y m) - ((daysK y m (dayOf k d y m) + 4) % 7 - q + 7) % 7, 0)
    else (0, 6)
  else (0, 1)
def OfR (n j : Int) (w : World) (e : Ending) (w' : World) : Prop := e = .returned (.tuple #[.int .i64 n, .int .i64 j]) ∧ Fr w w' (fun _ => False)
theorem daysE_is (y m d : Int) : daysE y m d = 0 ∨ daysE y m d = 6 := by unfold daysE; split <;> simp
theorem daysK_range (y m d : Int) : -4371587 ≤ daysK y m d ∧ daysK y m d ≤ 2932897 := by
  unfold daysK
  split
  · rename_i h
    have := Go.Civil.numD_range h
    omega
  · omega
theorem daysK_no {y m d : Int} (h : daysE y m d ≠ 0) : daysK y m d = 0 := by
  unfold daysE at h
  unfold daysK
  split at h
  · exact absurd rfl h
  · rename_i h'
    rw [if_neg h']
theorem of_bad (k d q y m : Int) (w : World) (h : rightB k d q = false) : Calls Tryz.prog 191 #[dayV k d q, .int .i64 y, .int .i64 m] w (OfR 0 1 w) := by
  have HT := Lib.hid (fun W => right_any k d q W)
  rw [h] at HT
  clear h
  go_enter Tryz.func191, Tryz.ntmps191
  go_wp2_with fail
  refine (HT.out _).mono ?_
  rintro e w2 ⟨rfl, hf2⟩
  have HF2 := Lib.hid (ff (Fr.new w _ _) hf2)
  clear hf2
  go_wp2_with fail
  go_ret2
  exact ⟨rfl, HF2.out⟩
theorem quiet_week (n : Int) (hn : inRange n) (W : World) (i : Nat) : Calls Tryz.prog 221 #[.int .i64 n] (W.drewN i) fun e w' => e = .returned (.int .i64 ((n + 4) % 7)) ∧ ∃ j, w' = W.drewN j :=
  Calls.quiet_of ((Week_any n (W.drewN i) hn).mono fun _ _ h => ⟨h.1, 1, h.2⟩)
theorem quiet_between (a b : Int) (ha : 0 ≤ a ∧ a < 7) (hb : 0 ≤ b ∧ b < 7) (W : World) (i : Nat) : Calls Tryz.prog 220 #[.int .i64 a, .int .i64 b] (W.drewN i) fun e w' => e = .returned (.int .i64 ((b - a + 7) % 7)) ∧ ∃ j, w' = W.drewN j :=
  (between_any a b (W.drewN i) ha hb).mono fun _ _ h => ⟨h.1, i, h.2.symm⟩
-- walks
set_option maxHeartbeats 1600000 in
theorem of_none (k d q y m : Int) (w : World) (hw : WOk w) (h : rightB k d q = true) (he : daysE y m (dayOf k d y m) = 6) : Calls Tryz.prog 191 #[dayV k d q, .int .i64 y, .int .i64 m] w (OfR 0 6 w) := by
  have HT := Lib.hid (fun W => right_any k d q W)
  rw [h] at HT
  have HB := Lib.hid (Blk.made w 61 #[.int .i64 k, .int .i64 d, .int .i64 q])
  have HG := Lib.hid (fun (W : World) (f : Fr w W (fun _ => False)) => begin_day k d q y m W (hw.fr f))
  rw [show (if k = 1 then Go.Civil.longI y m else d) = dayOf k d y m from rfl] at HG
  have HD := Lib.hid (fun (W : World) (f : Fr w W (fun _ => False)) => Days_any y m (dayOf k d y m) W (hw.fr f).lok)
  rw [he] at HD
  rw [daysK_no (by rw [he]; decide)] at HD
  clear he
  generalize dayOf k d y m = D at *
  clear h hw
  go_enter Tryz.func191, Tryz.ntmps191
  go_wp2_with fail
  refine (HT.out _).mono ?_
  rintro e w2 ⟨rfl, hf2⟩
  have hfr2 := ff (Fr.new w _ _) hf2
  have HF2 := Lib.hid hfr2
  have hb2 := hf2.blk HB.out (fun h => h)
  have c0 := cell_at hb2 0
  have c1 := cell_at hb2 1
  have c2 := cell_at hb2 2
  simp at c0 c1 c2
  have HB2 := Lib.hid hb2
  clear hf2 hb2 hfr2
  go_wp2_with fail
  refine (HG.out _ HF2.out).mono ?_
  rintro e w3 ⟨rfl, hf3⟩
  have HF3 := Lib.hid (ff HF2.out hf3)
  have HB3 := Lib.hid (hf3.blk HB2.out (fun h => h))
  clear hf3
  go_wp2_with fail
  refine (HD.out _ HF3.out).mono ?_
  rintro e w4 ⟨rfl, hf4⟩
  have HF4 := Lib.hid (ff HF3.out hf4)
  have hb4 := hf4.blk HB3.out (fun h => h)
  have c0 := cell_at hb4 0
  have c1 := cell_at hb4 1
  have c2 := cell_at hb4 2
  simp at c0 c1 c2
  clear hf4 hb4
  go_wp2_with fail
  go_ret2
  exact ⟨rfl, HF4.out⟩
set_option maxHeartbeats 1600000 in
theorem of_0 (d y m : Int) (w : World) (hw : WOk w) (h : rightB 0 d 0 = true) (he : daysE y m d = 0) : Calls Tryz.prog 191 #[dayV 0 d 0, .int .i64 y, .int .i64 m] w (OfR (daysK y m d) 0 w) := by
  have HT := Lib.hid (fun W => right_any 0 d 0 W)
  rw [h] at HT
  have HB := Lib.hid (Blk.made w 61 #[.int .i64 0, .int .i64 d, .int .i64 0])
  have HG := Lib.hid (fun (W : World) (f : Fr w W (fun _ => False)) => begin_day 0 d 0 y m W (hw.fr f))
  rw [if_neg (by decide)] at HG
  have HD := Lib.hid (fun (W : World) (f : Fr w W (fun _ => False)) => Days_any y m d W (hw.fr f).lok)
  rw [he] at HD
  clear he
  generalize daysK y m d = K at *
  clear h hw
  go_enter Tryz.func191, Tryz.ntmps191
  go_wp2_with fail
  refine (HT.out _).mono ?_
  rintro e w2 ⟨rfl, hf2⟩
  have hfr2 := ff (Fr.new w _ _) hf2
  have HF2 := Lib.hid hfr2
  have hb2 := hf2.blk HB.out (fun h => h)
  have c0 := cell_at hb2 0
  have c1 := cell_at hb2 1
  have c2 := cell_at hb2 2
  simp at c0 c1 c2
  have HB2 := Lib.hid hb2
  clear hf2 hb2 hfr2
  go_wp2_with fail
  refine (HG.out _ HF2.out).mono ?_
  rintro e w3 ⟨rfl, hf3⟩
  have HF3 := Lib.hid (ff HF2.out hf3)
  have HB3 := Lib.hid (hf3.blk HB2.out (fun h => h))
  clear hf3
  go_wp2_with fail
  refine (HD.out _ HF3.out).mono ?_
  rintro e w4 ⟨rfl, hf4⟩
  have HF4 := Lib.hid (ff HF3.out hf4)
  have hb4 := hf4.blk HB3.out (fun h => h)
  have c0 := cell_at hb4 0
  have c1 := cell_at hb4 1
  have c2 := cell_at hb4 2
  simp at c0 c1 c2
  clear hf4 hb4
  go_wp2_with fail
  go_ret2
  exact ⟨rfl, HF4.out⟩
set_option maxHeartbeats 1600000 in
theorem of_2 (d q y m : Int) (w : World) (hw : WOk w) (h : rightB 2 d q = true) (he : daysE y m d = 0) (hq : 0 ≤ q ∧ q < 7) : Calls Tryz.prog 191 #[dayV 2 d q, .int .i64 y, .int .i64 m] w (OfR (daysK y m d + (q - (daysK y m d + 4) % 7 + 7) % 7) 0 w) := by
  have HT := Lib.hid (fun W => right_any 2 d q W)
  rw [h] at HT
  have HB := Lib.hid (Blk.made w 61 #[.int .i64 2, .int .i64 d, .int .i64 q])
  have HG := Lib.hid (fun (W : World) (f : Fr w W (fun _ => False)) => begin_day 2 d q y m W (hw.fr f))
  rw [if_neg (by decide)] at HG
  have HD := Lib.hid (fun (W : World) (f : Fr w W (fun _ => False)) => Days_any y m d W (hw.fr f).lok)
  have hK := daysK_range y m d
  have HWK := Lib.hid (fun W i => quiet_week (daysK y m d) (by unfold inRange; omega) W i)
  have HBE := Lib.hid (fun W i => quiet_between ((daysK y m d + 4) % 7) q (by omega) (by omega) W i)
  rw [he] at HD
  clear he
  have hwk : 0 ≤ (daysK y m d + 4) % 7 ∧ (daysK y m d + 4) % 7 < 7 := by omega
  generalize (daysK y m d + 4) % 7 = W0 at *
  generalize daysK y m d = K at *
  have hbt : 0 ≤ (q - W0 + 7) % 7 ∧ (q - W0 + 7) % 7 < 7 := by omega
  generalize (q - W0 + 7) % 7 = V at *
  clear h hw
  go_enter Tryz.func191, Tryz.ntmps191
  go_wp2_with fail
  refine (HT.out _).mono ?_
  rintro e w2 ⟨rfl, hf2⟩
  have hfr2 := ff (Fr.new w _ _) hf2
  have HF2 := Lib.hid hfr2
  have hb2 := hf2.blk HB.out (fun h => h)
  have c0 := cell_at hb2 0
  have c1 := cell_at hb2 1
  have c2 := cell_at hb2 2
  simp at c0 c1 c2
  have HB2 := Lib.hid hb2
  clear hf2 hb2 hfr2
  go_wp2_with fail
  refine (HG.out _ HF2.out).mono ?_
  rintro e w3 ⟨rfl, hf3⟩
  have HF3 := Lib.hid (ff HF2.out hf3)
  have HB3 := Lib.hid (hf3.blk HB2.out (fun h => h))
  clear hf3
  go_wp2_with fail
  refine (HD.out _ HF3.out).mono ?_
  rintro e w4 ⟨rfl, hf4⟩
  have HF4 := Lib.hid (ff HF3.out hf4)
  have hb4 := hf4.blk HB3.out (fun h => h)
  have c0 := cell_at hb4 0
  have c1 := cell_at hb4 1
  have c2 := cell_at hb4 2
  simp at c0 c1 c2
  clear hf4 hb4
  go_wp2_with fail
  go_quiet ((first | with_reducible exact HWK.out _ _ | with_reducible exact HBE.out _ _))
  go_wp2_with fail
  go_ret2
  exact ⟨rfl, ff HF4.out (Fr.drewN _ _ _)⟩
set_option maxHeartbeats 1600000 in
theorem of_1 (q y m : Int) (w : World) (hw : WOk w) (h : rightB 1 0 q = true) (he : daysE y m (Go.Civil.longI y m) = 0) (hq : 0 ≤ q ∧ q < 7) : Calls Tryz.prog 191 #[dayV 1 0 q, .int .i64 y, .int .i64 m] w (OfR (daysK y m (Go.Civil.longI y m) - ((daysK y m (Go.Civil.longI y m) + 4) % 7 - q + 7) % 7) 0 w) := by
  have HT := Lib.hid (fun W => right_any 1 0 q W)
  rw [h] at HT
  have HB := Lib.hid (Blk.made w 61 #[.int .i64 1, .int .i64 0, .int .i64 q])
  have HG := Lib.hid (fun (W : World) (f : Fr w W (fun _ => False)) => begin_day 1 0 q y m W (hw.fr f))
  rw [if_pos rfl] at HG
  have HD := Lib.hid (fun (W : World) (f : Fr w W (fun _ => False)) => Days_any y m (Go.Civil.longI y m) W (hw.fr f).lok)
  have hK := daysK_range y m (Go.Civil.longI y m)
  have HWK := Lib.hid (fun W i => quiet_week (daysK y m (Go.Civil.longI y m)) (by unfold inRange; omega) W i)
  have HBE := Lib.hid (fun W i => quiet_between q ((daysK y m (Go.Civil.longI y m) + 4) % 7) (by omega) (by omega) W i)
  rw [he] at HD
  clear he
  have hwk : 0 ≤ (daysK y m (Go.Civil.longI y m) + 4) % 7 ∧ (daysK y m (Go.Civil.longI y m) + 4) % 7 < 7 := by omega
  generalize (daysK y m (Go.Civil.longI y m) + 4) % 7 = W0 at *
  generalize daysK y m (Go.Civil.longI y m) = K at *
  have hbt : 0 ≤ (W0 - q + 7) % 7 ∧ (W0 - q + 7) % 7 < 7 := by omega
  generalize (W0 - q + 7) % 7 = V at *
  generalize Go.Civil.longI y m = L at *
  clear h hw
  go_enter Tryz.func191, Tryz.ntmps191
  go_wp2_with fail
  refine (HT.out _).mono ?_
  rintro e w2 ⟨rfl, hf2⟩
  have hfr2 := ff (Fr.new w _ _) hf2
  have HF2 := Lib.hid hfr2
  have hb2 := hf2.blk HB.out (fun h => h)
  have c0 := cell_at hb2 0
  have c1 := cell_at hb2 1
  have c2 := cell_at hb2 2
  simp at c0 c1 c2
  have HB2 := Lib.hid hb2
  clear hf2 hb2 hfr2
  go_wp2_with fail
  refine (HG.out _ HF2.out).mono ?_
  rintro e w3 ⟨rfl, hf3⟩
  have HF3 := Lib.hid (ff HF2.out hf3)
  have HB3 := Lib.hid (hf3.blk HB2.out (fun h => h))
  clear hf3
  go_wp2_with fail
  refine (HD.out _ HF3.out).mono ?_
  rintro e w4 ⟨rfl, hf4⟩
  have HF4 := Lib.hid (ff HF3.out hf4)
  have hb4 := hf4.blk HB3.out (fun h => h)
  have c0 := cell_at hb4 0
  have c1 := cell_at hb4 1
  have c2 := cell_at hb4 2
  simp at c0 c1 c2
  clear hf4 hb4
  go_wp2_with fail
  go_quiet ((first | with_reducible exact HWK.out _ _ | with_reducible exact HBE.out _ _))
  go_wp2_with fail
  go_ret2
  exact ⟨rfl, ff HF4.out (Fr.drewN _ _ _)⟩
set_option maxHeartbeats 1600000 in
theorem of_3 (d q y m : Int) (w : World) (hw : WOk w) (h : rightB 3 d q = true) (he : daysE y m d = 0) (hq : 0 ≤ q ∧ q < 7) : Calls Tryz.prog 191 #[dayV 3 d q, .int .i64 y, .int .i64 m] w (OfR (daysK y m d - ((daysK y m d + 4) % 7 - q + 7) % 7) 0 w) := by
  have HT := Lib.hid (fun W => right_any 3 d q W)
  rw [h] at HT
  have HB := Lib.hid (Blk.made w 61 #[.int .i64 3, .int .i64 d, .int .i64 q])
  have HG := Lib.hid (fun (W : World) (f : Fr w W (fun _ => False)) => begin_day 3 d q y m W (hw.fr f))
  rw [if_neg (by decide)] at HG
  have HD := Lib.hid (fun (W : World) (f : Fr w W (fun _ => False)) => Days_any y m d W (hw.fr f).lok)
  have hK := daysK_range y m d
  have HWK := Lib.hid (fun W i => quiet_week (daysK y m d) (by unfold inRange; omega) W i)
  have HBE := Lib.hid (fun W i => quiet_between q ((daysK y m d + 4) % 7) (by omega) (by omega) W i)
  rw [he] at HD
  clear he
  have hwk : 0 ≤ (daysK y m d + 4) % 7 ∧ (daysK y m d + 4) % 7 < 7 := by omega
  generalize (daysK y m d + 4) % 7 = W0 at *
  generalize daysK y m d = K at *
  have hbt : 0 ≤ (W0 - q + 7) % 7 ∧ (W0 - q + 7) % 7 < 7 := by omega
  generalize (W0 - q + 7) % 7 = V at *
  clear h hw
  go_enter Tryz.func191, Tryz.ntmps191
  go_wp2_with fail
  refine (HT.out _).mono ?_
  rintro e w2 ⟨rfl, hf2⟩
  have hfr2 := ff (Fr.new w _ _) hf2
  have HF2 := Lib.hid hfr2
  have hb2 := hf2.blk HB.out (fun h => h)
  have c0 := cell_at hb2 0
  have c1 := cell_at hb2 1
  have c2 := cell_at hb2 2
  simp at c0 c1 c2
  have HB2 := Lib.hid hb2
  clear hf2 hb2 hfr2
  go_wp2_with fail
  refine (HG.out _ HF2.out).mono ?_
  rintro e w3 ⟨rfl, hf3⟩
  have HF3 := Lib.hid (ff HF2.out hf3)
  have HB3 := Lib.hid (hf3.blk HB2.out (fun h => h))
  clear hf3
  go_wp2_with fail
  refine (HD.out _ HF3.out).mono ?_
  rintro e w4 ⟨rfl, hf4⟩
  have HF4 := Lib.hid (ff HF3.out hf4)
  have hb4 := hf4.blk HB3.out (fun h => h)
  have c0 := cell_at hb4 0
  have c1 := cell_at hb4 1
  have c2 := cell_at hb4 2
  simp at c0 c1 c2
  clear hf4 hb4
  go_wp2_with fail
  go_quiet ((first | with_reducible exact HWK.out _ _ | with_reducible exact HBE.out _ _))
  go_wp2_with fail
  go_ret2
  exact ⟨rfl, ff HF4.out (Fr.drewN _ _ _)⟩
theorem Of_any (k d q y m : Int) (w : World) (hw : WOk w) (n j : Int) (h : ofD k d q y m = (n, j)) : Calls Tryz.prog 191 #[dayV k d q, .int .i64 y, .int .i64 m] w (OfR n j w) := by
  unfold ofD at h
  by_cases hr : rightB k d q = true
  · rw [if_pos hr] at h
    by_cases he : daysE y m (dayOf k d y m) = 0
    · rw [if_pos he] at h
      injection h with h1 h2
      subst h2
      rcases rightB_iff.1 hr with ⟨rfl, a1, a2, rfl⟩ | ⟨rfl, rfl, a1, a2⟩ | ⟨hk, a1, a2, a3, a4⟩
      · rw [if_neg (by decide), if_pos rfl] at h1
        subst h1
        exact of_0 d y m w hw hr he
      · rw [if_neg (by decide), if_neg (by decide)] at h1
        subst h1
        exact of_1 q y m w hw hr he ⟨a1, a2⟩
      · rcases hk with rfl | rfl
        · rw [if_pos rfl] at h1
          subst h1
          exact of_2 d q y m w hw hr he ⟨a3, a4⟩
        · rw [if_neg (by decide), if_neg (by decide)] at h1
          subst h1
          exact of_3 d q y m w hw hr he ⟨a3, a4⟩
    · rw [if_neg he] at h
      injection h with h1 h2
      subst h1 h2
      exact of_none k d q y m w hw hr ((daysE_is _ _ _).resolve_left he)
  · rw [if_neg hr] at h
    injection h with h1 h2
    subst h1 h2
    exact of_bad k d q y m w (by simpa using hr)
end Go.Proofs.YtodcnbejnchmhaaGreatDoor.S6
namespace Go.Proofs.YtodcnbejnchmhaaGreatDoor.S5
open Go.RowKit Go.Mem Go.Clk

abbrev strV (l : Bs) : Value := .string ⟨l.toArray⟩
theorem infoB : (Tryz.prog.info? 5).map (fun i => (i.zero, i.size, i.bytes)) = some (some (.int .u8 0), 1, 1) := by kernel_rfl
theorem infoS : (Tryz.prog.info? 9).map (fun i => (i.zero, i.size, i.bytes)) = some (some (.string ⟨#[]⟩), 1, 16) := by kernel_rfl
theorem str_size (l : Bs) : (⟨l.toArray⟩ : ByteArray).size = l.length := by show l.toArray.size = _; simp
theorem bytes_len (s : ByteArray) : s.data.toList.length = s.size := by rw [Array.length_toList]; rfl
theorem strV_of (s : ByteArray) : Value.string s = strV s.data.toList := by
  show Value.string s = .string ⟨s.data.toList.toArray⟩
  congr
theorem run_add_str {P : Program} (w : World) (a b : Bs) (h : a.length + b.length ≤ 1000000) : (Op.stringOp .add ⟨a.toArray⟩ ⟨b.toArray⟩).run P w = .ok (strV (a ++ b)) w := by
  rw [run_string_add_sum w _ _ (by show a.toArray.size + b.toArray.size ≤ _; simp; omega)]
  show Result.ok (Value.string ((⟨a.toArray⟩ : ByteArray) ++ ⟨b.toArray⟩)) w = .ok (.string ⟨(a ++ b).toArray⟩) w
  congr 2
theorem ff {a c d : World} (h : Fr a c (fun _ => False)) (h2 : Fr c d (fun _ => False)) : Fr a d (fun _ => False) := h.trans h2 (fun _ _ h => h) (fun _ _ h => h)
theorem fd {a b : World} (h : Fr a b (fun _ => False)) (n : Nat) : Fr a (b.drewN n) (fun _ => False) := ff h (Fr.drewN _ _ _)
theorem fb {a c d : World} {b : Nat} (h : Fr a c (· = b)) (h2 : Fr c d (· = b)) : Fr a d (· = b) := h.trans h2 (fun _ _ h => h) (fun _ _ h => h)
theorem fbn {a d : World} {b n : Nat} (h : Fr (a.drewN n) d (· = b)) : Fr a d (· = b) := fb (Fr.drewN _ _ _) h

/-- block b is a reader of s that has l still to read -/
def RdAt (w : World) (b : Nat) (s : ByteArray) (l : Bs) : Prop := ∃ a : Nat, a ≤ s.size ∧ s.data.toList.drop a = l ∧ Blk w b 262 #[.string s, .int .i64 (a : Int)]
theorem RdAt.fr {w w' : World} {b : Nat} {s : ByteArray} {l : Bs} {S : Nat → Prop} (h : RdAt w b s l) (hf : Fr w w' S) (hs : ¬ S b) : RdAt w' b s l := by
  obtain ⟨a, h1, h2, h3⟩ := h
  exact ⟨a, h1, h2, hf.blk h3 hs⟩
theorem RdAt.lt {w : World} {b : Nat} {s : ByteArray} {l : Bs} (h : RdAt w b s l) : b < w.heap.size := by
  obtain ⟨a, h1, h2, h3⟩ := h
  exact h3.lt
theorem drop_empty {s : ByteArray} {a : Nat} (ha : a ≤ s.size) {l : Bs} (h : s.data.toList.drop a = l) : (l = [] ↔ a = s.size) ∧ l.length = s.size - a := by
  have hl : s.data.toList.length = s.size := bytes_len s
  have : l.length = s.size - a := by rw [← h, List.length_drop, hl]
  refine ⟨?_, this⟩
  rw [← List.length_eq_zero_iff]
  omega
theorem drop_cons {s : ByteArray} {a : Nat} {c : UInt8} {l : Bs} (h : s.data.toList.drop a = c :: l) : ∃ hs : a < s.size, s[a] = c ∧ s.data.toList.drop (a + 1) = l := by
  have hl : s.data.toList.length = s.size := bytes_len s
  have hs : a < s.size := by
    rw [← hl]
    rcases Nat.lt_or_ge a s.data.toList.length with h1 | h1
    · exact h1
    · rw [List.drop_eq_nil_of_le h1] at h
      cases h
  refine ⟨hs, ?_, ?_⟩
  · rw [List.drop_eq_getElem_cons (by rw [hl]; exact hs)] at h
    have := (List.cons.inj h).1
    rw [← this]
    rfl
  · rw [List.drop_eq_getElem_cons (by rw [hl]; exact hs)] at h
    exact (List.cons.inj h).2

theorem ended_any (w : World) (b : Nat) (s : ByteArray) (l : Bs) (x : Bool) (h : RdAt w b s l) (hx : l.isEmpty = x) (_hz : s.size ≤ 1000000) :
    Calls Tryz.prog 242 #[.pointer (some ⟨b, 0, none⟩)] w fun e w' => e = .returned (.bool x) ∧ ∃ n, w' = w.drewN n := by
  obtain ⟨a, ha, hd, hb⟩ := h
  obtain ⟨hm, -⟩ := drop_empty ha hd
  have c0 := cell_at hb 0
  have c1 := cell_at hb 1
  simp at c0 c1
  have hx' : ((a : Int) == (s.size : Int)) = x := by
    subst hx
    rw [Bool.eq_iff_iff, beq_iff_eq, List.isEmpty_iff, hm]
    omega
  have HX := Lib.hid hx'
  clear hx' hm hd hx hb
  go_enter Tryz.func242, Tryz.ntmps242
  go_wp2
  go_quiet (fail)
  go_wp2
  go_ret
  exact ⟨by rw [← HX.out]; rfl, _, rfl⟩

/-- the panic with BadTime -/
abbrev Raised : Ending := .panicked [{ v := .iface 26 (.int .i64 7), recovered := false }]
/-- what a method of the reader answers -/
def Ran {α : Type} (g : Option (α × Bs)) (V : α → Value) (b : Nat) (s : ByteArray) (w : World) (e : Ending) (w' : World) : Prop :=
  match g with
  | none => e = Raised ∧ Fr w w' (· = b)
  | some (v, r) => e = .returned (V v) ∧ RdAt w' b s r ∧ Fr w w' (· = b)
abbrev natV (n : Nat) : Value := .int .i64 (n : Int)
theorem fr_put (w : World) (b n i : Nat) (v : Value) : Fr w ((w.drewN n).setCell ⟨b, i, none⟩ v) (· = b) :=
  (Fr.drewN w n (· = b)).trans (Fr.set (S := (· = b)) rfl) (fun _ _ h => h) (fun _ _ h => h)

theorem next_got (w : World) (b : Nat) (s : ByteArray) (c : UInt8) (l : Bs) (h : RdAt w b s (c :: l)) (hz : s.size ≤ 1000000) :
    Calls Tryz.prog 245 #[.pointer (some ⟨b, 0, none⟩)] w fun e w' => e = .returned (.int .u8 (c.toNat : Int)) ∧ RdAt w' b s l ∧ Fr w w' (· = b) := by
  obtain ⟨a, ha, hd, hb⟩ := h
  obtain ⟨hlt, hc, hd'⟩ := drop_cons hd
  have c0 := cell_at hb 0
  have c1 := cell_at hb 1
  simp at c0 c1
  have h1 : (a : Int) < (s.size : Int) := by omega
  have h2 : (0 : Int) ≤ (a : Int) := by omega
  have f1 := free_at hb 1
  have HB := Lib.hid hb
  have HC := Lib.hid hc
  have HD := Lib.hid hd'
  clear hd hb hc hd'
  go_enter Tryz.func245, Tryz.ntmps245
  go_wp2_with fail
  go_quiet (fail)
  go_wp2_with fail
  go_ret
  refine ⟨by rw [← HC.out]; rfl, ⟨a + 1, by omega, HD.out, ?_⟩, ?_⟩
  · exact Blk.put' (HB.out : Blk (w.drewN _) b _ _) 1 _ (by simp)
  · exact fr_put _ _ _ _ _

theorem takes_none (w : World) (b : Nat) (s : ByteArray) (d : Int) (h : RdAt w b s []) (hz : s.size ≤ 1000000) :
    Calls Tryz.prog 243 #[.pointer (some ⟨b, 0, none⟩), .int .u8 d] w fun e w' => e = .returned (.bool false) ∧ ∃ n, w' = w.drewN n := by
  have HE := Lib.hid (fun W => fun (e : ∃ m, W = w.drewN m) => ended_any W b s [] true (by obtain ⟨m, rfl⟩ := e; exact h) rfl hz)
  clear h
  go_enter Tryz.func243, Tryz.ntmps243
  go_wp2_with fail
  go_quiet ((go_at_call 242; exact Calls.quiet_of (HE.out _ ⟨_, rfl⟩)))
  go_wp2_with fail
  go_ret
  exact ⟨rfl, _, rfl⟩
theorem takes_no (w : World) (b : Nat) (s : ByteArray) (c : UInt8) (l : Bs) (d : Int) (h : RdAt w b s (c :: l)) (hx : ((c.toNat : Int) == d) = false) (hz : s.size ≤ 1000000) :
    Calls Tryz.prog 243 #[.pointer (some ⟨b, 0, none⟩), .int .u8 d] w fun e w' => e = .returned (.bool false) ∧ ∃ n, w' = w.drewN n := by
  have HE := Lib.hid (fun W => fun (e : ∃ m, W = w.drewN m) => ended_any W b s (c :: l) false (by obtain ⟨m, rfl⟩ := e; exact h) rfl hz)
  obtain ⟨a, ha, hd, hb⟩ := h
  obtain ⟨hlt, hc, -⟩ := drop_cons hd
  have c0 := cell_at hb 0
  have c1 := cell_at hb 1
  simp at c0 c1
  have hx' : ((s[a].toNat : Int) == d) = false := by rw [hc]; exact hx
  have hx2 : ((s[a].toNat : Int) != d) = true := by simp [bne, hx']
  have h1 : (a : Int) < (s.size : Int) := by omega
  have h2 : (0 : Int) ≤ (a : Int) := by omega
  clear hd hx hb hc
  go_enter Tryz.func243, Tryz.ntmps243
  go_wp2_with fail
  go_quiet ((go_at_call 242; exact Calls.quiet_of (HE.out _ ⟨_, rfl⟩)))
  go_wp2_with fail
  go_ret
  exact ⟨rfl, _, rfl⟩
theorem takes_yes (w : World) (b : Nat) (s : ByteArray) (c : UInt8) (l : Bs) (d : Int) (h : RdAt w b s (c :: l)) (hx : (c.toNat : Int) = d) (hz : s.size ≤ 1000000) :
    Calls Tryz.prog 243 #[.pointer (some ⟨b, 0, none⟩), .int .u8 d] w fun e w' => e = .returned (.bool true) ∧ RdAt w' b s l ∧ Fr w w' (· = b) := by
  have HE := Lib.hid (fun W => fun (e : ∃ m, W = w.drewN m) => ended_any W b s (c :: l) false (by obtain ⟨m, rfl⟩ := e; exact h) rfl hz)
  obtain ⟨a, ha, hd, hb⟩ := h
  obtain ⟨hlt, hc, hd'⟩ := drop_cons hd
  have c0 := cell_at hb 0
  have c1 := cell_at hb 1
  simp at c0 c1
  have hx' : ((s[a].toNat : Int) == d) = true := by rw [hc]; simpa using hx
  have hx2 : ((s[a].toNat : Int) != d) = false := by simp [bne, hx']
  have h1 : (a : Int) < (s.size : Int) := by omega
  have h2 : (0 : Int) ≤ (a : Int) := by omega
  have f1 := free_at hb 1
  have HB := Lib.hid hb
  have HD := Lib.hid hd'
  clear hd hx hb hc hd'
  go_enter Tryz.func243, Tryz.ntmps243
  go_wp2_with fail
  go_quiet ((go_at_call 242; exact Calls.quiet_of (HE.out _ ⟨_, rfl⟩)))
  go_wp2_with fail
  go_ret
  refine ⟨rfl, ⟨a + 1, by omega, HD.out, ?_⟩, ?_⟩
  · exact Blk.put' (HB.out : Blk (w.drewN _) b _ _) 1 _ (by simp)
  · exact fr_put _ _ _ _ _

theorem sees_none (w : World) (b : Nat) (s : ByteArray) (h : RdAt w b s []) (hz : s.size ≤ 1000000) :
    Calls Tryz.prog 267 #[.pointer (some ⟨b, 0, none⟩)] w fun e w' => e = .returned (.bool false) ∧ ∃ n, w' = w.drewN n := by
  have HE := Lib.hid (fun W => fun (e : ∃ m, W = w.drewN m) => ended_any W b s [] true (by obtain ⟨m, rfl⟩ := e; exact h) rfl hz)
  clear h
  go_enter Tryz.func267, Tryz.ntmps267
  go_wp2_with fail
  go_quiet ((go_at_call 242; exact Calls.quiet_of (HE.out _ ⟨_, rfl⟩)))
  go_wp2_with fail
  go_ret
  exact ⟨rfl, _, rfl⟩
theorem sees_some (w : World) (b : Nat) (s : ByteArray) (c : UInt8) (l : Bs) (x : Bool) (h : RdAt w b s (c :: l)) (hx : digB c = x) (hz : s.size ≤ 1000000) :
    Calls Tryz.prog 267 #[.pointer (some ⟨b, 0, none⟩)] w fun e w' => e = .returned (.bool x) ∧ ∃ n, w' = w.drewN n := by
  have HE := Lib.hid (fun W => fun (e : ∃ m, W = w.drewN m) => ended_any W b s (c :: l) false (by obtain ⟨m, rfl⟩ := e; exact h) rfl hz)
  obtain ⟨a, ha, hd, hb⟩ := h
  obtain ⟨hlt, hc, -⟩ := drop_cons hd
  have c0 := cell_at hb 0
  have c1 := cell_at hb 1
  simp at c0 c1
  have h1 : (a : Int) < (s.size : Int) := by omega
  have h2 : (0 : Int) ≤ (a : Int) := by omega
  by_cases p1 : 48 ≤ c.toNat
  · have q1 : decide ((48 : Int) ≤ (s[a].toNat : Int)) = true := by rw [hc]; simp; omega
    by_cases p2 : c.toNat ≤ 57
    · have q2 : decide ((s[a].toNat : Int) ≤ 57) = true := by rw [hc]; simp; omega
      have hf : x = true := by rw [← hx]; exact (digB_iff c).2 ⟨p1, p2⟩
      subst hf
      clear hd hx hb hc p1 p2
      go_enter Tryz.func267, Tryz.ntmps267
      go_wp2_with fail
      go_quiet ((go_at_call 242; exact Calls.quiet_of (HE.out _ ⟨_, rfl⟩)))
      go_wp2_with fail
      go_ret
      exact ⟨rfl, _, rfl⟩
    · have q2 : decide ((s[a].toNat : Int) ≤ 57) = false := by rw [hc]; simp; omega
      have hf : x = false := by
        rw [← hx, Bool.eq_false_iff]
        intro e
        exact p2 ((digB_iff c).1 e).2
      subst hf
      clear hd hx hb hc p1 p2
      go_enter Tryz.func267, Tryz.ntmps267
      go_wp2_with fail
      go_quiet ((go_at_call 242; exact Calls.quiet_of (HE.out _ ⟨_, rfl⟩)))
      go_wp2_with fail
      go_ret
      exact ⟨rfl, _, rfl⟩
  · have q1 : decide ((48 : Int) ≤ (s[a].toNat : Int)) = false := by rw [hc]; simp; omega
    have hf : x = false := by
      rw [← hx, Bool.eq_false_iff]
      intro e
      exact p1 ((digB_iff c).1 e).1
    subst hf
    clear hd hx hb hc p1
    go_enter Tryz.func267, Tryz.ntmps267
    go_wp2_with fail
    go_quiet ((go_at_call 242; exact Calls.quiet_of (HE.out _ ⟨_, rfl⟩)))
    go_wp2_with fail
    go_ret
    exact ⟨rfl, _, rfl⟩
end Go.Proofs.YtodcnbejnchmhaaGreatDoor.S5
namespace Go.Proofs.YtodcnbejnchmhaaGreatDoor.S5
open Go.RowKit Go.Mem Go.Clk

theorem u8_dig {c : UInt8} (h : digB c = true) : (c.toNat : Int) - 48 = (dv c : Int) := by
  have := (digB_iff c).1 h
  unfold dv
  omega
theorem digit_any (w : World) (b : Nat) (s : ByteArray) (l : Bs) (h : RdAt w b s l) (hz : s.size ≤ 1000000) :
    Calls Tryz.prog 266 #[.pointer (some ⟨b, 0, none⟩)] w (Ran (digitD l) natV b s w) := by
  cases l with
  | nil =>
    have HS := Lib.hid (sees_none w b s h hz)
    clear h
    go_enter Tryz.func266, Tryz.ntmps266
    go_wp2_with fail
    refine HS.out.mono ?_
    rintro e w1 ⟨rfl, n, rfl⟩
    go_wp2_with fail
    exact ⟨rfl, rfl, Fr.drewN _ _ _⟩
  | cons c r =>
    obtain ⟨x, hx⟩ : ∃ x, digB c = x := ⟨_, rfl⟩
    have HS := Lib.hid (sees_some w b s c r x h hx hz)
    cases x with
    | false =>
      have hd : digitD (c :: r) = none := by simp [digitD, hx]
      rw [hd]
      clear h hx hd
      go_enter Tryz.func266, Tryz.ntmps266
      go_wp2_with fail
      refine HS.out.mono ?_
      rintro e w1 ⟨rfl, n, rfl⟩
      go_wp2_with fail
      exact ⟨rfl, rfl, Fr.drewN _ _ _⟩
    | true =>
      have hd : digitD (c :: r) = some (dv c, r) := by simp [digitD, hx]
      rw [hd]
      have HN := Lib.hid (fun n => next_got (w.drewN n) b s c r h hz)
      have HV := Lib.hid (u8_dig hx)
      have hb := (digB_iff c).1 hx
      have b1 : (48 : Int) ≤ (c.toNat : Int) := by omega
      have b2 : (c.toNat : Int) ≤ 57 := by omega
      clear h hx hd hb
      go_enter Tryz.func266, Tryz.ntmps266
      go_wp2_with fail
      refine HS.out.mono ?_
      rintro e w1 ⟨rfl, n, rfl⟩
      have HN1 := Lib.hid (HN.out n)
      go_wp2_with fail
      refine HN1.out.mono ?_
      rintro e w2 ⟨rfl, hr, hf⟩
      have HR := Lib.hid hr
      have HF := Lib.hid hf
      clear hr hf
      go_wp2_with fail
      go_ret
      exact ⟨by show Ending.returned (.int .i64 ((c.toNat : Int) - 48)) = _; rw [HV.out], HR.out, fbn HF.out⟩
theorem digit_lt {l : Bs} {a : Nat} {r : Bs} (h : digitD l = some (a, r)) : a < 10 := by
  obtain ⟨c, -, hc, rfl⟩ := digit_got h
  exact dv_lt hc
theorem six_any (w : World) (b : Nat) (s : ByteArray) (l : Bs) (h : RdAt w b s l) (hz : s.size ≤ 1000000) :
    Calls Tryz.prog 259 #[.pointer (some ⟨b, 0, none⟩)] w (Ran (sixD l) natV b s w) := by
  have H1 := Lib.hid (digit_any w b s l h hz)
  clear h
  rcases hg : digitD l with _ | ⟨a, r⟩
  · have hs : sixD l = none := by simp [sixD, hg]
    rw [hs]
    rw [hg] at H1
    clear hg hs
    go_enter Tryz.func259, Tryz.ntmps259
    go_wp2_with fail
    refine H1.out.mono ?_
    rintro e w1 ⟨rfl, hf⟩
    have HF := Lib.hid hf
    clear hf
    go_wp2_with fail
    exact ⟨rfl, rfl, HF.out⟩
  · have ha := digit_lt hg
    have H2 := Lib.hid (fun (W : World) (n : Nat) (h : RdAt W b s r) => digit_any (W.drewN n) b s r h hz)
    rcases hg2 : digitD r with _ | ⟨a2, r2⟩
    · have hs : sixD l = none := by simp [sixD, hg, hg2]
      rw [hs]
      rw [hg] at H1
      rw [hg2] at H2
      clear hg hg2 hs
      go_enter Tryz.func259, Tryz.ntmps259
      go_wp2_with fail
      refine H1.out.mono ?_
      rintro e w1 ⟨rfl, hr, hf⟩
      have HF := Lib.hid hf
      have H3 := Lib.hid (fun n => H2.out w1 n hr)
      clear hf hr
      go_wp2_with fail
      refine (H3.out 0).mono ?_
      rintro e w2 ⟨rfl, hf2⟩
      have HF2 := Lib.hid hf2
      clear hf2
      go_wp2_with fail
      exact ⟨rfl, rfl, fb HF.out HF2.out⟩
    · have ha2 := digit_lt hg2
      by_cases hlt : a * 10 + a2 < 60
      · have hs : sixD l = some (a * 10 + a2, r2) := by simp [sixD, hg, hg2, hlt]
        rw [hs]
        rw [hg] at H1
        rw [hg2] at H2
        have t1 : ¬ ((60 : Int) ≤ (a : Int) * 10 + (a2 : Int)) := by omega
        clear hg hg2 hs
        go_enter Tryz.func259, Tryz.ntmps259
        go_wp2_with fail
        refine H1.out.mono ?_
        rintro e w1 ⟨rfl, hr, hf⟩
        have HF := Lib.hid hf
        have H3 := Lib.hid (fun n => H2.out w1 n hr)
        clear hf hr
        go_wp2_with fail
        refine (H3.out 0).mono ?_
        rintro e w2 ⟨rfl, hr2, hf2⟩
        have HF2 := Lib.hid hf2
        have HR2 := Lib.hid hr2
        clear hf2 hr2
        go_wp2_with fail
        go_ret
        exact ⟨by go_num, HR2.out, fb HF.out HF2.out⟩
      · have hs : sixD l = none := by simp [sixD, hg, hg2, hlt]
        rw [hs]
        rw [hg] at H1
        rw [hg2] at H2
        have t1 : ((60 : Int) ≤ (a : Int) * 10 + (a2 : Int)) := by omega
        clear hg hg2 hs
        go_enter Tryz.func259, Tryz.ntmps259
        go_wp2_with fail
        refine H1.out.mono ?_
        rintro e w1 ⟨rfl, hr, hf⟩
        have HF := Lib.hid hf
        have H3 := Lib.hid (fun n => H2.out w1 n hr)
        clear hf hr
        go_wp2_with fail
        refine (H3.out 0).mono ?_
        rintro e w2 ⟨rfl, hr2, hf2⟩
        have HF2 := Lib.hid hf2
        clear hf2 hr2
        go_wp2_with fail
        exact ⟨rfl, rfl, fb HF.out HF2.out⟩
end Go.Proofs.YtodcnbejnchmhaaGreatDoor.S5
namespace Go.Proofs.YtodcnbejnchmhaaGreatDoor.S5
open Go.RowKit Go.Mem Go.Clk

def HInv (w : World) (b : Nat) (s : ByteArray) (T : Nat × Bs) (g : Nat) (v3 v4 : Value) (wr : World) : Prop :=
  ∃ (n i : Nat) (q : Bs), i + g = 3 ∧ 1 ≤ i ∧ v3 = natV n ∧ v4 = natV i ∧ ((i = 1 → n < 10) ∧ (i = 2 → n < 100) ∧ n < 1000) ∧ moreD g n q = T ∧ RdAt wr b s q ∧ Fr w wr (· = b)
set_option maxHeartbeats 800000 in
theorem hours_any (w : World) (b : Nat) (s : ByteArray) (l : Bs) (h : RdAt w b s l) (hz : s.size ≤ 1000000) :
    Calls Tryz.prog 258 #[.pointer (some ⟨b, 0, none⟩)] w (Ran (hoursD l) natV b s w) := by
  have H1 := Lib.hid (digit_any w b s l h hz)
  clear h
  rcases hg : digitD l with _ | ⟨a, r⟩
  · have hs : hoursD l = none := by simp [hoursD, hg]
    rw [hs]
    rw [hg] at H1
    clear hg hs
    go_enter Tryz.func258, Tryz.ntmps258
    go_wp2_with fail
    refine H1.out.mono ?_
    rintro e w1 ⟨rfl, hf⟩
    have HF := Lib.hid hf
    clear hf
    go_wp2_with fail
    exact ⟨rfl, rfl, HF.out⟩
  · have ha := digit_lt hg
    obtain ⟨T, hT⟩ : ∃ T, moreD 2 a r = T := ⟨_, rfl⟩
    obtain ⟨G, hG⟩ : ∃ G, hoursD l = G := ⟨_, rfl⟩
    have HG := Lib.hid (show (if T.1 ≤ 167 then some T else none) = G by rw [← hG, hoursD, hg, ← hT])
    rw [hG]
    rw [hg] at H1
    have HT := Lib.hid hT
    clear hg hT hG
    go_enter Tryz.func258, Tryz.ntmps258
    go_wp2_with fail
    refine H1.out.mono ?_
    rintro e w1 ⟨rfl, hr, hf⟩
    have HF := Lib.hid hf
    have HR := Lib.hid hr
    clear hf hr H1
    go_wp2_with fail
    go_loopg [3, 4] 2 (fun g v3 v4 wr => HInv w b s T g v3 v4 wr)
    case atStart => exact ⟨a, 1, r, rfl, Nat.le_refl _, rfl, rfl, ⟨fun _ => ha, fun h => absurd h (by omega), by omega⟩, HT.out, HR.out, HF.out⟩
    case round =>
      obtain ⟨n, i, q, hi, h1, rfl, rfl, ⟨b1, b2, b3⟩, hmo, hrq, hfq⟩ := hrel
      have HM := Lib.hid hmo
      have HQ := Lib.hid hfq
      have HB1 := Lib.hid b1
      have HB2 := Lib.hid b2
      clear hmo hfq b1 b2 HF HR HT ha
      by_cases hlt : i < 3
      · obtain ⟨g', rfl⟩ : ∃ g', gk = g' + 1 := ⟨gk - 1, by omega⟩
        have hlt' : (i : Int) < 3 := by omega
        obtain ⟨x, hx, HS⟩ : ∃ x, (x = true ↔ ∃ c q', q = c :: q' ∧ digB c = true) ∧ Hid (Calls Tryz.prog 267 #[.pointer (some ⟨b, 0, none⟩)] wr fun e w' => e = .returned (.bool x) ∧ ∃ n, w' = wr.drewN n) := by
          cases q with
          | nil => exact ⟨false, by simp, Lib.hid (sees_none wr b s hrq hz)⟩
          | cons c q => exact ⟨digB c, ⟨fun h => ⟨c, q, rfl, h⟩, fun ⟨c', q', e, h⟩ => by cases e; exact h⟩, Lib.hid (sees_some wr b s c q _ hrq rfl hz)⟩
        cases x with
        | false =>
          have hstop : T = (n, q) := by
            rw [← HM.out]
            refine more_stop _ _ (fun c hc => ?_)
            rw [Bool.eq_false_iff]
            intro e
            exact absurd (hx.2 ⟨c, q.tail, head_tail hc, e⟩) (by simp)
          subst hstop
          have HRQ := Lib.hid hrq
          clear hx hrq HM
          by_cases hn : n ≤ 167
          · have hn' : ¬ (167 : Int) < (n : Int) := by omega
            have hG : some (n, q) = G := by rw [← HG.out, if_pos hn]
            subst hG
            clear HG
            go_wp2_with fail
            refine HS.out.mono ?_
            rintro e w2 ⟨rfl, m, rfl⟩
            go_wp2_with fail
            go_ret
            exact ⟨rfl, HRQ.out, fb HQ.out (Fr.drewN _ _ _)⟩
          · have hn' : (167 : Int) < (n : Int) := by omega
            have hG : none = G := by rw [← HG.out, if_neg hn]
            subst hG
            clear HG
            go_wp2_with fail
            refine HS.out.mono ?_
            rintro e w2 ⟨rfl, m, rfl⟩
            go_wp2_with fail
            exact ⟨rfl, rfl, fb HQ.out (Fr.drewN _ _ _)⟩
        | true =>
          obtain ⟨c, q', rfl, hc⟩ := hx.1 rfl
          have HD := Lib.hid (fun m => digit_any (wr.drewN m) b s (c :: q') hrq hz)
          rw [show digitD (c :: q') = some (dv c, q') by simp [digitD, hc]] at HD
          have hd := dv_lt hc
          have HM2 := Lib.hid (show moreD g' (n * 10 + dv c) q' = T by rw [← HM.out, moreD, if_pos hc])
          have b100 : n < 100 := by
            have i1 := HB1.out
            have i2 := HB2.out
            omega
          have HX : Hid ((i = 1 → n < 10) ∧ True) := Lib.hid ⟨HB1.out, trivial⟩
          clear hx hrq HM hc
          go_wp2_with fail
          refine HS.out.mono ?_
          rintro e w2 ⟨rfl, m, rfl⟩
          have HD1 := Lib.hid (HD.out m)
          go_wp2_with fail
          refine HD1.out.mono ?_
          rintro e w3 ⟨rfl, hr3, hf3⟩
          have HR3 := Lib.hid hr3
          have HF3 := Lib.hid hf3
          clear hr3 hf3
          go_wp2_with fail
          go_roundg g'
          case measure => omega
          case rel => exact ⟨n * 10 + dv c, i + 1, q', by omega, by omega, by go_num, by go_num, ⟨fun h => absurd h (by omega), fun h => by have := HB1.out (by omega); omega, by omega⟩, HM2.out, HR3.out, fb HQ.out (fbn HF3.out)⟩
      · have hi3 : i = 3 := by omega
        obtain rfl : gk = 0 := by omega
        subst hi3
        have hstop : T = (n, q) := by rw [← HM.out]; rfl
        subst hstop
        have HRQ := Lib.hid hrq
        clear hrq HM hlt
        by_cases hn : n ≤ 167
        · have hn' : ¬ (167 : Int) < (n : Int) := by omega
          have hG : some (n, q) = G := by rw [← HG.out, if_pos hn]
          subst hG
          clear HG
          go_wp2_with fail
          go_ret
          exact ⟨rfl, HRQ.out, HQ.out⟩
        · have hn' : (167 : Int) < (n : Int) := by omega
          have hG : none = G := by rw [← HG.out, if_neg hn]
          subst hG
          clear HG
          go_wp2_with fail
          exact ⟨rfl, rfl, HQ.out⟩
end Go.Proofs.YtodcnbejnchmhaaGreatDoor.S5
