import Derived.Test.YtgfmodfakcbgfaaDoorLpt
namespace Go.Proofs.YtgfmodfakcbgfaaDoor
open Go.RowKit Go.Mem Go.Clk

set_option maxHeartbeats 4000000 in
theorem parts_low_two (h m s k : Int) (w : World) (h0 : 0 ≤ h) (h1 : h ≤ 167) (h99 : ¬ 99 < h) (m0 : 0 ≤ m) (m1 : m ≤ 59) (s0 : 0 ≤ s) (s1 : s ≤ 59) (k0 : 0 ≤ k) (k1 : k ≤ 2) (hg : GOk w.heap.size w) :
    Calls Tryd.prog 7 #[.int .i64 h, .int .i64 m, .int .i64 s, .int .i64 k, .bool true] w fun e w' => e = .returned (.bool true) ∧ Fr w w' (fun _ => False) := by
  have HA := Lib.hid (fun (W : World) (h : Fr w W (fun _ => False)) => alive_any w.heap.size W h.size (hg.fr (Nat.le_refl _) h))
  clear hg
  have hNV : hmsV true h.toNat m.toNat s.toNat = -(h * 3600 + m * 60 + s) := by
    unfold hmsV
    rw [if_pos rfl]
    omega
  have PS := fun (x : Bs) (j : Nat) (hx : Suf x j) => parse_hms (low := true) (h := h.toNat) (m := m.toNat) (s := s.toNat) (by omega) (by omega) (by omega) hx
  rw [hNV] at PS
  have Dd2 := fun w => ldigit_any (h / 10 % 10) (h.toNat / 10 % 10) (by omega) (by omega) w
  have Dd3 := fun w => ldigit_any (h % 10) (h.toNat % 10) (by omega) (by omega) w
  have Dd4 := fun w => ldigit_any (m / 10) (m.toNat / 10) (by omega) (by omega) w
  have Dd5 := fun w => ldigit_any (m % 10) (m.toNat % 10) (by omega) (by omega) w
  have Dd6 := fun w => ldigit_any (s / 10) (s.toNat / 10) (by omega) (by omega) w
  have Dd7 := fun w => ldigit_any (s % 10) (s.toNat % 10) (by omega) (by omega) w
  have hS : hmsL true h.toNat m.toNat s.toNat = [45, chr (h.toNat / 10 % 10), chr (h.toNat % 10), 58, chr (m.toNat / 10), chr (m.toNat % 10), 58, chr (s.toNat / 10), chr (s.toNat % 10)] := by
    have hh : hhL h.toNat = [chr (h.toNat / 10 % 10), chr (h.toNat % 10)] := by
      unfold hhL
      rw [if_neg (by omega)]
    rw [hmsL, hh]
    rfl
  rw [hS] at PS
  generalize chr (h.toNat / 10 % 10) = d2 at PS Dd2
  generalize chr (h.toNat % 10) = d3 at PS Dd3
  generalize chr (m.toNat / 10) = d4 at PS Dd4
  generalize chr (m.toNat % 10) = d5 at PS Dd5
  generalize chr (s.toNat / 10) = d6 at PS Dd6
  generalize chr (s.toNat % 10) = d7 at PS Dd7
  clear hS hNV
  have Q0 := Lib.hid (fun W => parse_is (PS [119] 0 (.one _ _ (by decide))) (by simp) 0 rfl W)
  have Q1 := Lib.hid (fun W => parse_is (PS [115] 1 (.one _ _ (by decide))) (by simp) 1 rfl W)
  have Q2 := Lib.hid (fun W => parse_is (PS [117] 2 (.one _ _ (by decide))) (by simp) 2 rfl W)
  have Q3 := Lib.hid (fun W => parse_is (PS [103] 2 (.one _ _ (by decide))) (by simp) 2 rfl W)
  have Q4 := Lib.hid (fun W => parse_is (PS [122] 2 (.one _ _ (by decide))) (by simp) 2 rfl W)
  have Q5 := Lib.hid (fun W => parse_is (PS [] 0 .nil) (by simp) 0 rfl W)
  simp only [List.cons_append, List.nil_append, List.append_nil] at Q0 Q1 Q2 Q3 Q4 Q5
  clear PS
  have a0 := fun w => run_add_str (P := Tryd.prog) w [45] [d2] (by simp)
  have a1 := fun w => run_add_str (P := Tryd.prog) w [45, d2] [d3] (by simp)
  have a2 := fun w => run_add_str (P := Tryd.prog) w [45, d2, d3] [58] (by simp)
  have a3 := fun w => run_add_str (P := Tryd.prog) w [45, d2, d3, 58] [d4] (by simp)
  have a4 := fun w => run_add_str (P := Tryd.prog) w [45, d2, d3, 58, d4] [d5] (by simp)
  have a5 := fun w => run_add_str (P := Tryd.prog) w [45, d2, d3, 58, d4, d5] [58] (by simp)
  have a6 := fun w => run_add_str (P := Tryd.prog) w [45, d2, d3, 58, d4, d5, 58] [d6] (by simp)
  have a7 := fun w => run_add_str (P := Tryd.prog) w [45, d2, d3, 58, d4, d5, 58, d6] [d7] (by simp)
  have b0 := fun w => run_add_str (P := Tryd.prog) w [45, d2, d3, 58, d4, d5, 58, d6, d7] [119] (by simp)
  have b1 := fun w => run_add_str (P := Tryd.prog) w [45, d2, d3, 58, d4, d5, 58, d6, d7] [115] (by simp)
  have b2 := fun w => run_add_str (P := Tryd.prog) w [45, d2, d3, 58, d4, d5, 58, d6, d7] [117] (by simp)
  have b3 := fun w => run_add_str (P := Tryd.prog) w [45, d2, d3, 58, d4, d5, 58, d6, d7] [103] (by simp)
  have b4 := fun w => run_add_str (P := Tryd.prog) w [45, d2, d3, 58, d4, d5, 58, d6, d7] [122] (by simp)
  simp only [List.cons_append, List.nil_append] at a0 a1 a2 a3 a4 a5 a6 a7 b0 b1 b2 b3 b4
  have g0 : ∀ w : World, (Instr.slice 9 (.string ⟨#[119, 115, 117, 103, 122]⟩) (some (.int .i64 0)) (some (.int .i64 1)) none).run Tryd.prog w = .ok (strV [119]) w := fun w => by kernel_rfl
  have g1 : ∀ w : World, (Instr.slice 9 (.string ⟨#[119, 115, 117, 103, 122]⟩) (some (.int .i64 1)) (some (.int .i64 2)) none).run Tryd.prog w = .ok (strV [115]) w := fun w => by kernel_rfl
  have g2 : ∀ w : World, (Instr.slice 9 (.string ⟨#[119, 115, 117, 103, 122]⟩) (some (.int .i64 2)) (some (.int .i64 3)) none).run Tryd.prog w = .ok (strV [117]) w := fun w => by kernel_rfl
  have g3 : ∀ w : World, (Instr.slice 9 (.string ⟨#[119, 115, 117, 103, 122]⟩) (some (.int .i64 3)) (some (.int .i64 4)) none).run Tryd.prog w = .ok (strV [103]) w := fun w => by kernel_rfl
  have g4 : ∀ w : World, (Instr.slice 9 (.string ⟨#[119, 115, 117, 103, 122]⟩) (some (.int .i64 4)) (some (.int .i64 5)) none).run Tryd.prog w = .ok (strV [122]) w := fun w => by kernel_rfl
  have Dd2 := Lib.hid Dd2
  have Dd3 := Lib.hid Dd3
  have Dd4 := Lib.hid Dd4
  have Dd5 := Lib.hid Dd5
  have Dd6 := Lib.hid Dd6
  have Dd7 := Lib.hid Dd7
  go_enter Tryd.func7, Tryd.ntmps7
  go_wp2_with fail
  refine (Dd2.out _).mono ?_
  rintro e w2 ⟨rfl, hf2⟩
  have HF2 := Lib.hid (hf2)
  clear hf2
  go_wp2_with fail
  refine (Dd3.out _).mono ?_
  rintro e w3 ⟨rfl, hf3⟩
  have HF3 := Lib.hid (ff HF2.out hf3)
  clear hf3
  go_wp2_with fail
  refine (Dd4.out _).mono ?_
  rintro e w4 ⟨rfl, hf4⟩
  have HF4 := Lib.hid (ff HF3.out hf4)
  clear hf4
  go_wp2_with fail
  refine (Dd5.out _).mono ?_
  rintro e w5 ⟨rfl, hf5⟩
  have HF5 := Lib.hid (ff HF4.out hf5)
  clear hf5
  go_wp2_with fail
  refine (Dd6.out _).mono ?_
  rintro e w6 ⟨rfl, hf6⟩
  have HF6 := Lib.hid (ff HF5.out hf6)
  clear hf6
  go_wp2_with fail
  refine (Dd7.out _).mono ?_
  rintro e w7 ⟨rfl, hf7⟩
  have HF7 := Lib.hid (ff HF6.out hf7)
  clear hf7
  go_wp2_with fail
  go_loopg [13, 14, 15, 16] 5 (fun g v13 _v14 _v15 _v16 wr => ∃ i : Nat, i + g = 5 ∧ v13 = natV i ∧ Fr w wr (fun _ => False))
  case atStart => exact ⟨0, rfl, rfl, HF7.out⟩
  case round =>
    obtain ⟨i, hig, rfl, hfr⟩ := hrel
    have HR := Lib.hid hfr
    clear hfr HF2 HF3 HF4 HF5 HF6 HF7 Dd2 Dd3 Dd4 Dd5 Dd6 Dd7
    have hi : i = 0 ∨ i = 1 ∨ i = 2 ∨ i = 3 ∨ i = 4 ∨ i = 5 := by omega
    rcases hi with rfl | rfl | rfl | rfl | rfl | rfl
    · go_wp2_with fail
      refine (Q0.out _).mono ?_
      rintro e wa ⟨hfa, rfl⟩
      have HFA := Lib.hid (ff (ff HR.out hfa) (ff (Fr.new wa (.cells #[.int .i64 (-(h * 3600 + m * 60 + s)), .int .i64 0] 24) (fun _ => False)) (Fr.new _ (.cells #[.int .i64 0, .int .i64 1, .int .i64 2, .int .i64 2, .int .i64 2] 3) (fun _ => False))))
      clear hfa
      go_wp2_with fail
      go_roundg 4
      case measure => omega
      case rel => exact ⟨1, rfl, rfl, HFA.out⟩
    · go_wp2_with fail
      refine (Q1.out _).mono ?_
      rintro e wa ⟨hfa, rfl⟩
      have HFA := Lib.hid (ff (ff HR.out hfa) (ff (Fr.new wa (.cells #[.int .i64 (-(h * 3600 + m * 60 + s)), .int .i64 1] 24) (fun _ => False)) (Fr.new _ (.cells #[.int .i64 0, .int .i64 1, .int .i64 2, .int .i64 2, .int .i64 2] 3) (fun _ => False))))
      clear hfa
      go_wp2_with fail
      go_roundg 3
      case measure => omega
      case rel => exact ⟨2, rfl, rfl, HFA.out⟩
    · go_wp2_with fail
      refine (Q2.out _).mono ?_
      rintro e wa ⟨hfa, rfl⟩
      have HFA := Lib.hid (ff (ff HR.out hfa) (ff (Fr.new wa (.cells #[.int .i64 (-(h * 3600 + m * 60 + s)), .int .i64 2] 24) (fun _ => False)) (Fr.new _ (.cells #[.int .i64 0, .int .i64 1, .int .i64 2, .int .i64 2, .int .i64 2] 3) (fun _ => False))))
      clear hfa
      go_wp2_with fail
      go_roundg 2
      case measure => omega
      case rel => exact ⟨3, rfl, rfl, HFA.out⟩
    · go_wp2_with fail
      refine (Q3.out _).mono ?_
      rintro e wa ⟨hfa, rfl⟩
      have HFA := Lib.hid (ff (ff HR.out hfa) (ff (Fr.new wa (.cells #[.int .i64 (-(h * 3600 + m * 60 + s)), .int .i64 2] 24) (fun _ => False)) (Fr.new _ (.cells #[.int .i64 0, .int .i64 1, .int .i64 2, .int .i64 2, .int .i64 2] 3) (fun _ => False))))
      clear hfa
      go_wp2_with fail
      go_roundg 1
      case measure => omega
      case rel => exact ⟨4, rfl, rfl, HFA.out⟩
    · go_wp2_with fail
      refine (Q4.out _).mono ?_
      rintro e wa ⟨hfa, rfl⟩
      have HFA := Lib.hid (ff (ff HR.out hfa) (ff (Fr.new wa (.cells #[.int .i64 (-(h * 3600 + m * 60 + s)), .int .i64 2] 24) (fun _ => False)) (Fr.new _ (.cells #[.int .i64 0, .int .i64 1, .int .i64 2, .int .i64 2, .int .i64 2] 3) (fun _ => False))))
      clear hfa
      go_wp2_with fail
      go_roundg 0
      case measure => omega
      case rel => exact ⟨5, rfl, rfl, HFA.out⟩
    · go_wp2_with fail
      refine (Q5.out _).mono ?_
      rintro e wa ⟨hfa, rfl⟩
      have HFA := Lib.hid (ff (ff HR.out hfa) (Fr.new wa (.cells #[.int .i64 (-(h * 3600 + m * 60 + s)), .int .i64 0] 24) (fun _ => False)))
      have HAA := Lib.hid (HA.out _ HFA.out)
      clear hfa
      go_wp2_with fail
      refine HAA.out.mono ?_
      rintro e wb ⟨rfl, hfb⟩
      have HFB := Lib.hid (ff HFA.out hfb)
      clear hfb
      go_wp2_with fail
      go_ret
      exact ⟨rfl, HFB.out⟩
end Go.Proofs.YtgfmodfakcbgfaaDoor
