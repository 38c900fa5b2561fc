import Derived.Test.YtbolgodoifbnnaaDoorRpi
namespace Go.Proofs.YtbolgodoifbnnaaDoor
open Go.RowKit Go.Mem Go.Esc Go.Sort

theorem ints_walk (n : Int) (s : ByteArray) (W : World) (hn : inRange n) (hz : s.size ≤ maxLen) (hg : GOk W.heap.size W) :
    Calls Tryd.prog 3 #[.int .i64 n, .string s] W fun e w' => e = .returned (.bool true) ∧ Fr W w' (fun _ => False) := by
  unfold maxLen at hz
  by_cases h1 : 1000 < s.size
  · clear hg hn
    go_enter Tryd.func3, Tryd.ntmps3
    go_wp2_with fail
    refine (alive_any W).mono ?_
    rintro e w2 ⟨rfl, hf2⟩
    have HF2 := Lib.hid hf2
    clear hf2
    go_wp2_with fail
    go_ret
    exact ⟨rfl, HF2.out⟩
  · have h1' : s.size ≤ 1000 := by omega
    have HP := ParseInt_any W.heap.size s.data.toList W (by rw [bytes_len]; omega) (Nat.le_refl _) hg
    rw [← strV_of] at HP
    have HR := Lib.hid (fun w => rParseInt_any s w (by omega))
    have HI := Lib.hid (fun (w : World) (h : Fr W w (fun _ => False)) => Int_any W.heap.size n w hn h.size (hg.fr (Nat.le_refl _) h))
    have HRI := Lib.hid (fun w => rInt_any n w hn)
    have HP := Lib.hid HP
    generalize parsed s.data.toList = P at HP HR
    obtain ⟨m, k⟩ := P
    generalize Lib.itoa n = il at HI HRI
    have e1 : (m == m) = true := by simp
    have e2 : (k == k) = true := by simp
    have e3 : (il == il) = true := by simp
    clear h1 hg hn
    go_enter Tryd.func3, Tryd.ntmps3
    go_wp2_with fail
    refine HP.out.mono ?_
    rintro e w2 ⟨rfl, hf2⟩
    have HF2 := Lib.hid hf2
    have HI2 := Lib.hid (HI.out w2 hf2)
    clear hf2
    go_wp2_with fail
    refine (HR.out _).mono ?_
    rintro e w3 ⟨rfl, rfl⟩
    go_wp2_with fail
    refine HI2.out.mono ?_
    rintro e w3 ⟨rfl, hf3⟩
    have HF3 := Lib.hid (ff HF2.out hf3)
    clear hf3
    go_wp2_with fail
    refine (HRI.out _).mono ?_
    rintro e w4 ⟨rfl, hf4⟩
    have HF4 := Lib.hid (ff HF3.out hf4)
    clear hf4
    go_wp2_with fail
    refine (alive_any _).mono ?_
    rintro e w5 ⟨rfl, hf5⟩
    have HF5 := Lib.hid (ff HF4.out hf5)
    clear hf5
    go_wp2_with fail
    go_ret
    exact ⟨rfl, HF5.out⟩
end Go.Proofs.YtbolgodoifbnnaaDoor
