import Derived.Test.YtgfmodfakcbgfaaDoorLbk
namespace Go.Proofs.YtgfmodfakcbgfaaDoor
open Go.RowKit Go.Mem Go.Clk

set_option maxHeartbeats 1600000 in
theorem again_walk (l : Bs) (w : World) (hl : l.length ≤ maxLen) (hg : GOk w.heap.size w) :
    Calls Tryd.prog 6 #[strV l] w fun e w' => e = .returned (.bool true) ∧ Fr w w' (fun _ => False) := by
  have hz := str_size l
  unfold maxLen at hl
  have HA := Lib.hid (fun (W : World) (h : Fr w W (fun _ => False)) => alive_any w.heap.size W h.size (hg.fr (Nat.le_refl _) h))
  by_cases hbig : 500 < l.length
  · have t1 : (500 : Int) < (l.length : Int) := by omega
    clear hg
    go_enter Tryd.func6, Tryd.ntmps6
    go_wp2_with fail
    refine (HA.out _ (Fr.refl _ _)).mono ?_
    rintro e w2 ⟨rfl, hf⟩
    have HF := Lib.hid hf
    clear hf
    go_wp2_with fail
    go_ret
    exact ⟨rfl, HF.out⟩
  · have t1 : ¬ (500 : Int) < (l.length : Int) := by omega
    have hl2 : l.length ≤ 500 := by omega
    cases hp : parseD l with
    | none =>
      have P1 := Lib.hid (show Calls Tryd.prog 9 #[strV l] w (AtR 0 0 7 w) by
        have := Parse_any l w (by omega)
        rw [hp] at this
        exact this)
      have E1 := fun w => eql_at 0 0 0 0 w
      rw [show ((0 : Int) == 0 && (0 : Int) == 0) = true by simp] at E1
      clear hg hp
      go_enter Tryd.func6, Tryd.ntmps6
      go_wp2_with fail
      refine P1.out.mono ?_
      rintro e w2 ⟨hf2, rfl⟩
      obtain ⟨b0, b1⟩ := two_cells w2 0 0
      have HF2 := Lib.hid (ff hf2 (Fr.new w2 (.cells #[.int .i64 0, .int .i64 0] 24) (fun _ => False)))
      clear hf2
      go_wp2_with fail
      refine (HA.out _ HF2.out).mono ?_
      rintro e w3 ⟨rfl, hf3⟩
      have HF3 := Lib.hid (ff HF2.out hf3)
      clear hf3
      go_wp2_with fail
      go_ret
      exact ⟨rfl, HF3.out⟩
    | some v =>
      obtain ⟨n, k'⟩ := v
      obtain ⟨r1, r2, r3⟩ := parse_range hp
      obtain ⟨k, hk⟩ : ∃ k : Int, k = (k' : Int) := ⟨_, rfl⟩
      have P1 := Lib.hid (parse_is hp (by omega) k hk w)
      obtain ⟨T, hT, hTl, hTp⟩ := showT_parse (n := n) (k := k) ⟨⟨r1, r2⟩, by omega⟩
      have S1 := fun (W : World) (h : Fr w W (fun _ => False)) => Show_any w.heap.size n k W h.size (hg.fr (Nat.le_refl _) h)
      rw [hT] at S1
      have S1 := Lib.hid S1
      have P2 := Lib.hid (fun W => parse_is hTp (by omega) k (by omega) W)
      have E1 := fun w => eql_at n k n k w
      rw [show (n == n && k == k) = true by simp] at E1
      clear hg hp hk hT hTl hTp r1 r2 r3
      go_enter Tryd.func6, Tryd.ntmps6
      go_wp2_with fail
      refine P1.out.mono ?_
      rintro e w2 ⟨hf2, rfl⟩
      have HF2 := Lib.hid (ff hf2 (Fr.new w2 (.cells #[.int .i64 n, .int .i64 k] 24) (fun _ => False)))
      clear hf2
      go_wp2_with fail
      refine (S1.out _ HF2.out).mono ?_
      rintro e w3 ⟨hf3, rfl⟩
      have HF3 := Lib.hid hf3
      clear hf3
      go_wp2_with fail
      refine (P2.out _).mono ?_
      rintro e w4 ⟨hf4, rfl⟩
      have HF4 := Lib.hid (ff (ff HF3.out hf4) (Fr.new w4 (.cells #[.int .i64 n, .int .i64 k] 24) (fun _ => False)))
      have HF4' := Lib.hid (ff HF2.out HF4.out)
      clear hf4
      go_wp2_with fail
      refine (S1.out _ HF4'.out).mono ?_
      rintro e w5 ⟨hf5, rfl⟩
      obtain ⟨c0, c1⟩ := at_cells (ff HF4.out hf5)
      obtain ⟨d0, d1⟩ := at_cells hf5
      have HF5 := Lib.hid (ff HF4'.out hf5)
      clear hf5
      go_wp2_with fail
      refine (HA.out _ HF5.out).mono ?_
      rintro e w6 ⟨rfl, hf6⟩
      have HF6 := Lib.hid (ff HF5.out hf6)
      clear hf6
      go_wp2_with fail
      go_ret
      exact ⟨rfl, HF6.out⟩
end Go.Proofs.YtgfmodfakcbgfaaDoor
