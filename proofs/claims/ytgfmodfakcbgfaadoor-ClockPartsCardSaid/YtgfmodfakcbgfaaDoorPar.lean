import Derived.Test.YtgfmodfakcbgfaaDoorRea
namespace Go.Proofs.YtgfmodfakcbgfaaDoor
open Go.RowKit Go.Mem Go.Clk

/-- what Parse answers -/
def numD (g : Option (Int × Nat)) : Value × Int := match g with
  | none => (atV (0, 0), 7)
  | some v => (atV v, 0)
theorem Amount_any (l : Bs) (w : World) (hz : l.length ≤ 1000000) : Calls Tryd.prog 11 #[strV l] w (ReadI (amtD l) w) := by
  have HQ := Lib.hid (readI_any l w hz)
  obtain ⟨T, hT⟩ : ∃ T, amtD l = T := ⟨_, rfl⟩
  rw [hT] at HQ ⊢
  clear hT
  cases T with
  | none =>
    go_enter Tryd.func11, Tryd.ntmps11
    go_wp2_with fail
    refine HQ.out.mono ?_
    rintro e w2 ⟨hf2, rfl⟩
    have HF2 := Lib.hid hf2
    clear hf2
    go_wp2_with fail
    go_ret2
    exact ⟨HF2.out, rfl⟩
  | some v =>
    go_enter Tryd.func11, Tryd.ntmps11
    go_wp2_with fail
    refine HQ.out.mono ?_
    rintro e w2 ⟨hf2, rfl⟩
    have HF2 := Lib.hid hf2
    clear hf2
    go_wp2_with fail
    go_ret2
    exact ⟨HF2.out, rfl⟩
theorem results_Parse (tmps : Array Value) (w : World) (q : Nat) (x y : Value) (k : Int) (h2 : tmps.getD 2 undef = .pointer (some ⟨q, 0, none⟩)) (h3 : tmps.getD 3 undef = .int .i64 k)
    (hb : Blk w q 24 #[x, y]) : (results Tryd.f9 tmps).run Tryd.prog w = .ok (.tuple #[.agg #[x, y], .int .i64 k]) w := by
  have h2' : tmps[2]?.getD undef = .pointer (some ⟨q, 0, none⟩) := by simpa using h2
  have h3' : tmps[3]?.getD undef = .int .i64 k := by simpa using h3
  have hL := load_at hb
  simp [results, Tryd.results9, h2', h3', asAddr, hL]
set_option maxHeartbeats 800000 in
theorem Parse_any (l : Bs) (w : World) (hz : l.length ≤ 1000000) : Calls Tryd.prog 9 #[strV l] w (ReadA (parseD l) w) := by
  have hf0 := Fr.new w (.cells #[.int .i64 0, .int .i64 0] 24) (fun _ => False)
  have HQ := Lib.hid (readA_any l (w.alloc (.cells #[.int .i64 0, .int .i64 0] 24)) hz)
  have HB := Lib.hid (Blk.made w 24 #[.int .i64 0, .int .i64 0])
  have HF := Lib.hid hf0
  obtain ⟨T, hT⟩ : ∃ T, parseD l = T := ⟨_, rfl⟩
  rw [hT] at HQ ⊢
  clear hT hf0
  cases T with
  | none =>
    go_enter Tryd.func9, Tryd.ntmps9
    go_wp2_with fail
    refine HQ.out.mono ?_
    rintro e w2 ⟨hf2, rfl⟩
    have HF2 := Lib.hid hf2
    have hb2 := hf2.blk HB.out (fun h => h)
    have c0 := cell_at hb2 0
    have c1 := cell_at hb2 1
    have f0 := free_at hb2 0
    have f1 := free_at hb2 1
    simp at c0 c1
    have HB2 := Lib.hid hb2
    clear hf2 hb2
    go_wp2_with fail
    (try simp only [Exit.inBlock, Exit.then])
    have hb4 := (HB2.out.put' (cs' := #[.int .i64 0, .int .i64 0]) 0 (.int .i64 0) (by simp)).put' (cs' := #[.int .i64 0, .int .i64 0]) 1 (.int .i64 ((0 : Nat) : Int)) (by simp)
    have hfr := ff HF.out HF2.out
    have hfr1 := hfr.fresh (Fr.set (S := (· = w.heap.size)) (a := ⟨w.heap.size, 0, none⟩) (v := .int .i64 0) rfl) (fun i e => by omega)
    exact bodyPost_ret (results_Parse _ _ w.heap.size _ _ 7 rfl rfl hb4) rfl ⟨hfr1.fresh (Fr.set (S := (· = w.heap.size)) rfl) (fun i e => by omega), rfl⟩
  | some v =>
    go_enter Tryd.func9, Tryd.ntmps9
    go_wp2_with fail
    refine HQ.out.mono ?_
    rintro e w2 ⟨hf2, rfl⟩
    have HF2 := Lib.hid hf2
    have hb2 := hf2.blk HB.out (fun h => h)
    have c0 := cell_at hb2 0
    have c1 := cell_at hb2 1
    have f0 := free_at hb2 0
    have f1 := free_at hb2 1
    simp at c0 c1
    have HB2 := Lib.hid hb2
    clear hf2 hb2
    go_wp2_with fail
    (try simp only [Exit.inBlock, Exit.then])
    have hb4 := (HB2.out.put' (cs' := #[.int .i64 v.1, .int .i64 0]) 0 (.int .i64 v.1) (by simp)).put' (cs' := #[.int .i64 v.1, .int .i64 (v.2 : Int)]) 1 (.int .i64 (v.2 : Int)) (by simp)
    have hfr := ff HF.out HF2.out
    have hfr1 := hfr.fresh (Fr.set (S := (· = w.heap.size)) (a := ⟨w.heap.size, 0, none⟩) (v := .int .i64 v.1) rfl) (fun i e => by omega)
    exact bodyPost_ret (results_Parse _ _ w.heap.size _ _ 0 rfl rfl hb4) rfl ⟨hfr1.fresh (Fr.set (S := (· = w.heap.size)) rfl) (fun i e => by omega), rfl⟩
end Go.Proofs.YtgfmodfakcbgfaaDoor
