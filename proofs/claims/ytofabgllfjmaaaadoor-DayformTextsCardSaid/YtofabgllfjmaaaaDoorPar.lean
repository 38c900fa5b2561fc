import Derived.Test.YtofabgllfjmaaaaDoorRed
namespace Go.Proofs.YtofabgllfjmaaaaDoor
open Go.RowKit Go.Mem Go.Dfm

/-- what a call answers that answers a day and a kind -/
def ParseR (k d q j : Int) (w : World) (e : Ending) (w' : World) : Prop := e = .returned (.tuple #[dayV k d q, .int .i64 j]) ∧ Fr w w' (fun _ => False)
theorem res_Parse {w : World} {b : Nat} {x y z : Value} {k : Int} (hb : Blk w b 23 #[x, y, z]) (tmps : Array Value) (h2 : tmps.getD 2 undef = .pointer (some ⟨b, 0, none⟩)) (h3 : tmps.getD 3 undef = .int .i64 k) : (results Tryd.f8 tmps).run Tryd.prog w = .ok (.tuple #[.agg #[x, y, z], .int .i64 k]) w := by
  have h2' : tmps[2]?.getD undef = .pointer (some ⟨b, 0, none⟩) := by simpa using h2
  have h3' : tmps[3]?.getD undef = .int .i64 k := by simpa using h3
  have hL := load_day hb
  simp [results, Tryd.results8, h2', h3', asAddr, hL]
set_option maxRecDepth 100000 in
set_option maxHeartbeats 1600000 in
theorem Parse_any (l : Bs) (hl : l.length ≤ 100000) (w : World) (hw : WOk w) (k d q j : Int) (h : parseD l = (k, d, q, j)) : Calls Tryd.prog 8 #[strV l] w (ParseR k d q j w) := by
  have hf0 := Fr.new w day0 (fun _ => False)
  have HR := Lib.hid (read_any l hl (w.alloc day0) (hw.fr hf0))
  have hb := Blk.made w 23 #[.int .i64 0, .int .i64 0, .int .i64 0]
  have HB := Lib.hid hb
  have HF := Lib.hid hf0
  unfold parseD at h
  obtain ⟨⟨k1, d1, q1⟩, hx⟩ : ∃ x, readD l = x := ⟨_, rfl⟩
  rw [hx] at h HR
  simp only at h
  have HT := Lib.hid (fun W => right_any k1 d1 q1 W)
  clear hb hf0 hw hx
  by_cases hr : rightB k1 d1 q1 = true
  · rw [hr] at h HT
    rw [if_pos rfl] at h
    injection h with e1 h
    injection h with e2 h
    injection h with e3 e4
    subst e1 e2 e3 e4
    clear hr
    go_enter Tryd.func8, Tryd.ntmps8
    go_wp2_with fail
    refine HR.out.mono ?_
    rintro e w2 ⟨rfl, hf2⟩
    have HF2 := Lib.hid (ff HF.out hf2)
    have hb2 := hf2.blk HB.out (fun h => h)
    have HF3 := Lib.hid (ff HF2.out (Fr.new w2 (dayC k1 d1 q1) (fun _ => False)))
    have HB3 := Lib.hid ((Fr.new w2 (dayC k1 d1 q1) (fun _ => False)).blk hb2 (fun h => h))
    have HL3 := Lib.hid (Blk.made w2 23 #[.int .i64 k1, .int .i64 d1, .int .i64 q1])
    clear hf2 hb2
    go_wp2_with fail
    refine (HT.out _).mono ?_
    rintro e w4 ⟨rfl, hf4⟩
    have HF4 := Lib.hid (ff HF3.out hf4)
    have hb4 := hf4.blk HB3.out (fun h => h)
    have hl4 := hf4.blk HL3.out (fun h => h)
    have c0 := cell_at hb4 0
    have c1 := cell_at hb4 1
    have c2 := cell_at hb4 2
    have f0 := free_at hb4 0
    have f1 := free_at hb4 1
    have f2 := free_at hb4 2
    have g0 := cell_at hl4 0
    have g1 := cell_at hl4 1
    have g2 := cell_at hl4 2
    simp at c0 c1 c2 g0 g1 g2
    have HB4 := Lib.hid hb4
    clear hb4 hl4 hf4
    go_wp2_with fail
    (try simp only [Exit.inBlock, Exit.then])
    obtain ⟨hf9, hb9⟩ := day_put (.int .i64 k1) (.int .i64 d1) (.int .i64 q1) HF4.out HB4.out (Nat.le_refl _)
    exact bodyPost_ret (res_Parse hb9 _ rfl rfl) rfl ⟨rfl, hf9⟩
  · simp only [Bool.not_eq_true] at hr
    rw [hr] at h HT
    rw [if_neg (by decide)] at h
    injection h with e1 h
    injection h with e2 h
    injection h with e3 e4
    subst e1 e2 e3 e4
    clear hr
    go_enter Tryd.func8, Tryd.ntmps8
    go_wp2_with fail
    refine HR.out.mono ?_
    rintro e w2 ⟨rfl, hf2⟩
    have HF2 := Lib.hid (ff HF.out hf2)
    have hb2 := hf2.blk HB.out (fun h => h)
    have HF3 := Lib.hid (ff HF2.out (Fr.new w2 (dayC k1 d1 q1) (fun _ => False)))
    have HB3 := Lib.hid ((Fr.new w2 (dayC k1 d1 q1) (fun _ => False)).blk hb2 (fun h => h))
    clear hf2 hb2
    go_wp2_with fail
    refine (HT.out _).mono ?_
    rintro e w4 ⟨rfl, hf4⟩
    have HF4 := Lib.hid (ff HF3.out hf4)
    have hb4 := hf4.blk HB3.out (fun h => h)
    have c0 := cell_at hb4 0
    have c1 := cell_at hb4 1
    have c2 := cell_at hb4 2
    have f0 := free_at hb4 0
    have f1 := free_at hb4 1
    have f2 := free_at hb4 2
    simp at c0 c1 c2
    have HB4 := Lib.hid hb4
    clear hb4 hf4
    go_wp2_with fail
    (try simp only [Exit.inBlock, Exit.then])
    obtain ⟨hf9, hb9⟩ := day_put (.int .i64 0) (.int .i64 0) (.int .i64 0) HF4.out HB4.out (Nat.le_refl _)
    exact bodyPost_ret (res_Parse hb9 _ rfl rfl) rfl ⟨rfl, hf9⟩
end Go.Proofs.YtofabgllfjmaaaaDoor
