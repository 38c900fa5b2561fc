import Derived.Test.YtgfmodfakcbgfaaDoorLbk
import Derived.Deep.LoopGhost
namespace Go.Proofs.YtgfmodfakcbgfaaDoor
open Go.RowKit Go.Mem Go.Clk

theorem text_one (n : Int) (a : Nat) (hn : n = (a : Int)) (ha : a < 10) : text [48 + n] = ⟨[chr a].toArray⟩ := by
  have e1 : (48 + n).toNat = 48 + a := by omega
  simp [text, e1, chr]
  rfl
theorem ldigit_any (n : Int) (a : Nat) (hn : n = (a : Int)) (ha : a < 10) (w : World) : Calls Tryd.prog 17 #[.int .i64 n] w fun e w' => e = .returned (strV [chr a]) ∧ Fr w w' (fun _ => False) := by
  have hcv := fun (w : World) => run_text (P := Tryd.prog) (w.alloc (.cells #[.int .u8 (48 + n)] 5)) 49 9 5 Tryd.underlying49 Tryd.underlying5 Tryd.underlying9 ⟨w.heap.size, 0, none⟩ 1 1 [48 + n] (rd_new w 5 (0, 0) [.int .u8 (48 + n)])
  rw [text_one n a hn ha] at hcv
  generalize chr a = T at hcv ⊢
  have b1 : 0 ≤ n := by omega
  have b2 : n ≤ 9 := by omega
  clear hn ha
  go_enter Tryd.func17, Tryd.ntmps17
  go_wp2_with fail
  go_ret
  exact ⟨rfl, Fr.new _ _ _⟩
def Outside (h m s k : Int) : Prop := h < 0 ∨ 167 < h ∨ m < 0 ∨ 59 < m ∨ s < 0 ∨ 59 < s ∨ k < 0 ∨ 2 < k
set_option maxHeartbeats 1600000 in
theorem parts_out (h m s k : Int) (low : Bool) (w : World) (ho : Outside h m s k) (hg : GOk w.heap.size w) :
    Calls Tryd.prog 7 #[.int .i64 h, .int .i64 m, .int .i64 s, .int .i64 k, .bool low] w fun e w' => e = .returned (.bool true) ∧ Fr w w' (fun _ => False) := by
  have HA := Lib.hid (alive_any w.heap.size w (Nat.le_refl _) hg)
  clear hg
  unfold Outside at ho
  by_cases c0 : h < 0
  · clear ho
    go_enter Tryd.func7, Tryd.ntmps7
    go_wp2_with fail
    refine HA.out.mono ?_
    rintro e w2 ⟨rfl, hf⟩
    have HF := Lib.hid hf
    clear hf
    go_wp2_with fail
    go_ret
    exact ⟨rfl, HF.out⟩
  by_cases c1 : 167 < h
  · clear ho
    go_enter Tryd.func7, Tryd.ntmps7
    go_wp2_with fail
    refine HA.out.mono ?_
    rintro e w2 ⟨rfl, hf⟩
    have HF := Lib.hid hf
    clear hf
    go_wp2_with fail
    go_ret
    exact ⟨rfl, HF.out⟩
  by_cases c2 : m < 0
  · clear ho
    go_enter Tryd.func7, Tryd.ntmps7
    go_wp2_with fail
    refine HA.out.mono ?_
    rintro e w2 ⟨rfl, hf⟩
    have HF := Lib.hid hf
    clear hf
    go_wp2_with fail
    go_ret
    exact ⟨rfl, HF.out⟩
  by_cases c3 : 59 < m
  · clear ho
    go_enter Tryd.func7, Tryd.ntmps7
    go_wp2_with fail
    refine HA.out.mono ?_
    rintro e w2 ⟨rfl, hf⟩
    have HF := Lib.hid hf
    clear hf
    go_wp2_with fail
    go_ret
    exact ⟨rfl, HF.out⟩
  by_cases c4 : s < 0
  · clear ho
    go_enter Tryd.func7, Tryd.ntmps7
    go_wp2_with fail
    refine HA.out.mono ?_
    rintro e w2 ⟨rfl, hf⟩
    have HF := Lib.hid hf
    clear hf
    go_wp2_with fail
    go_ret
    exact ⟨rfl, HF.out⟩
  by_cases c5 : 59 < s
  · clear ho
    go_enter Tryd.func7, Tryd.ntmps7
    go_wp2_with fail
    refine HA.out.mono ?_
    rintro e w2 ⟨rfl, hf⟩
    have HF := Lib.hid hf
    clear hf
    go_wp2_with fail
    go_ret
    exact ⟨rfl, HF.out⟩
  by_cases c6 : k < 0
  · clear ho
    go_enter Tryd.func7, Tryd.ntmps7
    go_wp2_with fail
    refine HA.out.mono ?_
    rintro e w2 ⟨rfl, hf⟩
    have HF := Lib.hid hf
    clear hf
    go_wp2_with fail
    go_ret
    exact ⟨rfl, HF.out⟩
  by_cases c7 : 2 < k
  · clear ho
    go_enter Tryd.func7, Tryd.ntmps7
    go_wp2_with fail
    refine HA.out.mono ?_
    rintro e w2 ⟨rfl, hf⟩
    have HF := Lib.hid hf
    clear hf
    go_wp2_with fail
    go_ret
    exact ⟨rfl, HF.out⟩
  omega
end Go.Proofs.YtgfmodfakcbgfaaDoor
