import Derived.Test.YtgfmodfakcbgfaaDoorSho
import Derived.Deep.RegionHeld3
namespace Go.Proofs.YtgfmodfakcbgfaaDoor
open Go.RowKit Go.Mem Go.Clk

abbrev atI (n k : Int) : Value := .agg #[.int .i64 n, .int .i64 k]
theorem kp2 {w a b : World} {p1 p2 o1 o2 : Nat} {v1 v2 : Value} (h : Fr w a (fun _ => False) ∧ a.cell? ⟨p1, o1, none⟩ = some v1 ∧ a.cell? ⟨p2, o2, none⟩ = some v2) (hf : Fr a b (fun _ => False)) :
    Fr w b (fun _ => False) ∧ b.cell? ⟨p1, o1, none⟩ = some v1 ∧ b.cell? ⟨p2, o2, none⟩ = some v2 := ⟨ff h.1 hf, hf.cell0 h.2.1, hf.cell0 h.2.2⟩
theorem two_cells (w : World) (n k : Int) : (w.alloc (.cells #[.int .i64 n, .int .i64 k] 24)).cell? ⟨w.heap.size, 0, none⟩ = some (.int .i64 n) ∧ (w.alloc (.cells #[.int .i64 n, .int .i64 k] 24)).cell? ⟨w.heap.size, 1, none⟩ = some (.int .i64 k) := by
  have hb := Blk.made w 24 #[.int .i64 n, .int .i64 k]
  have c0 := cell_at hb 0
  have c1 := cell_at hb 1
  exact ⟨c0, c1⟩
theorem markL_len (k : Nat) : (markL k).length ≤ 1 := by
  unfold markL
  split
  · simp
  · split <;> simp
set_option maxHeartbeats 1600000 in
theorem Show_any (B : Nat) (n k : Int) (w : World) (hB : B ≤ w.heap.size) (hg : GOk B w) : Calls Tryd.prog 13 #[atI n k] w (ShowR (showT n k) w) := by
  obtain ⟨c0, c1⟩ := two_cells w n k
  have hf0 := Fr.new w (.cells #[.int .i64 n, .int .i64 k] 24) (fun _ => False)
  by_cases hin : -604799 ≤ n ∧ n ≤ 604799
  · have HW := Lib.hid (fun w => within_any w n 604799 (by omega) (by omega) true (by simpa using hin))
    by_cases hk0 : k < 0
    · rw [showT, if_neg (by omega)]
      have HF := Lib.hid hf0
      clear hin hB hg hf0
      go_enter Tryd.func13, Tryd.ntmps13
      go_wp2_with fail
      refine (HW.out _).mono ?_
      rintro e w2 ⟨rfl, rfl⟩
      go_wp2_with fail
      go_ret2
      exact ⟨HF.out, rfl⟩
    · by_cases hk2 : 2 < k
      · rw [showT, if_neg (by omega)]
        have HF := Lib.hid hf0
        clear hin hB hg hf0
        go_enter Tryd.func13, Tryd.ntmps13
        go_wp2_with fail
        refine (HW.out _).mono ?_
        rintro e w2 ⟨rfl, rfl⟩
        go_wp2_with fail
        go_ret2
        exact ⟨HF.out, rfl⟩
      · rw [showT, if_pos (by omega)]
        have HT := Lib.hid (fun (W : World) (h : Fr w W (fun _ => False)) => text_any B n hin.1 hin.2 W (Nat.le_trans hB h.size) (hg.fr hB h))
        have HM := Lib.hid (fun (W : World) => (mark_any k (by omega) (by omega) W).mono (R' := fun e w' => e = .returned (strV (markL k.toNat)) ∧ Fr W w' (fun _ => False)) fun e w' ⟨h1, m, h2⟩ => ⟨h1, by rw [h2]; exact Fr.drewN _ _ _⟩)
        have hl1 := textL_len hin.1 hin.2
        have hl2 := markL_len k.toNat
        generalize textL n = T at HT hl1 ⊢
        generalize markL k.toNat = M at HM hl2 ⊢
        have ha := fun w => run_add_str (P := Tryd.prog) w T M (by omega)
        have hS0 := Lib.hid (And.intro hf0 (And.intro c0 c1))
        clear hin hB hg hf0 hl1 hl2
        go_enter Tryd.func13, Tryd.ntmps13
        go_wp2_with fail
        refine (HW.out _).mono ?_
        rintro e w2 ⟨rfl, rfl⟩
        go_wp2_with fail
        go_region_held3 (fun w' => Fr w w' (fun _ => False) ∧ w'.cell? ⟨w.heap.size, 0, none⟩ = some (.int .i64 n) ∧ w'.cell? ⟨w.heap.size, 1, none⟩ = some (.int .i64 k))
          (first | with_reducible exact kp2 hS0.out (Fr.drew _ _) | with_reducible exact kp2 hS hf5 | (rename_i hS _ _; with_reducible exact kp2 hS (Fr.new _ _ _)) | with_reducible assumption)
          ((first | (go_at_call 24; rename_i hS _ _; ((with_reducible refine (HT.out _ hS.1).mono ?_); rintro e w5 ⟨rfl, hf5⟩)) | (go_at_call 25; rename_i hS _ _; ((with_reducible refine (HM.out _).mono ?_); rintro e w5 ⟨rfl, hf5⟩))))
        all_goals
          rename_i hS
          have HS := Lib.hid hS.1
          clear hS
          go_wp2_with fail
          go_ret2
          exact ⟨HS.out, rfl⟩
  · rw [showT, if_neg (by omega)]
    have HW := Lib.hid (fun w => within_any w n 604799 (by omega) (by omega) false (by simpa using hin))
    have HF := Lib.hid hf0
    clear hin hB hg hf0
    go_enter Tryd.func13, Tryd.ntmps13
    go_wp2_with fail
    refine (HW.out _).mono ?_
    rintro e w2 ⟨rfl, rfl⟩
    go_wp2_with fail
    go_ret2
    exact ⟨HF.out, rfl⟩
end Go.Proofs.YtgfmodfakcbgfaaDoor
