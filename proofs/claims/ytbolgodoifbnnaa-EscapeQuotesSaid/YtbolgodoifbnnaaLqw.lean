import Derived.Test.YtbolgodoifbnnaaRff
namespace Go.Proofs.Ytbolgodoifbnnaa
open Go.RowKit Go.Mem Go.Esc

theorem quotes_walk (s t : ByteArray) (W : World) (hs : s.size ≤ maxLen) (ht : t.size ≤ maxLen) : Calls Try.prog 3 #[.string s, .string t] W fun e w' => e = .returned (.bool true) ∧ Fr W w' (fun _ => False) := by
  unfold maxLen at hs ht
  by_cases h1 : 500 < s.size
  · go_enter Try.func3, Try.ntmps3
    go_wp2_with fail
    refine (alive_any W).mono ?_
    rintro e w2 ⟨rfl, hf2⟩
    have HF2 := Lib.hid hf2
    clear hf2
    go_wp2_with fail
    go_ret
    exact ⟨rfl, HF2.out⟩
  · by_cases h2 : 500 < t.size
    · have h1' : s.size ≤ 500 := by omega
      go_enter Try.func3, Try.ntmps3
      go_wp2_with fail
      refine (alive_any W).mono ?_
      rintro e w2 ⟨rfl, hf2⟩
      have HF2 := Lib.hid hf2
      clear hf2
      go_wp2_with fail
      go_ret
      exact ⟨rfl, HF2.out⟩
    · have h1' : s.size ≤ 500 := by omega
      have h2' : t.size ≤ 500 := by omega
      have HU := Lib.hid (fun W => Unquote_any t W (by omega))
      have HR := Lib.hid (fun W => rUnquote_any t W (by omega))
      have HQ := Lib.hid (fun W => Quote_any s W (by omega))
      have HQ2 := Lib.hid (fun W => rQuote_any s W (by omega))
      obtain ⟨ql, hql⟩ : ∃ ql, quoteL s.data.toList = ql := ⟨_, rfl⟩
      rw [hql] at HQ HQ2
      have eq1 : (ql == ql) = true := by simp
      clear h1 h2 hql
      have fin : Hid (∃ (x : Bs) (n k : Int), (∀ W, Calls Try.prog 6 #[.string t] W fun e w' => e = .returned (.tuple #[strV x, .int .i64 n, .int .i64 k]) ∧ Fr W w' (fun _ => False)) ∧
          (∀ W, Calls Try.prog 7 #[.string t] W fun e w' => e = .returned (.tuple #[strV x, .int .i64 n, .int .i64 k]) ∧ Fr W w' (fun _ => False))) := by
        rcases hq : quotedD t.data.toList with k | ⟨v, r⟩
        · rw [hq] at HU HR
          exact Lib.hid ⟨[], 0, k, fun W => (HU.out W).mono fun _ _ ⟨hf, he⟩ => ⟨he, hf⟩, fun W => (HR.out W).mono fun _ _ ⟨hf, he⟩ => ⟨he, hf⟩⟩
        · rw [hq] at HU HR
          exact Lib.hid ⟨v, _, 0, fun W => (HU.out W).mono fun _ _ ⟨hf, he⟩ => ⟨he, hf⟩, fun W => (HR.out W).mono fun _ _ ⟨hf, he⟩ => ⟨he, hf⟩⟩
      obtain ⟨x, n, k, u1, u2⟩ := fin.out
      have U1 := Lib.hid u1
      have U2 := Lib.hid u2
      have eq2 : (x == x) = true := by simp
      have eq3 : (n == n) = true := by simp
      have eq4 : (k == k) = true := by simp
      clear fin u1 u2 HU HR
      go_enter Try.func3, Try.ntmps3
      go_wp2_with fail
      refine (U1.out _).mono ?_
      rintro e w2 ⟨rfl, hf2⟩
      have HF2 := Lib.hid hf2
      clear hf2
      go_wp2_with fail
      refine (U2.out _).mono ?_
      rintro e w3 ⟨rfl, hf3⟩
      have HF3 := Lib.hid hf3
      clear hf3
      go_wp2_with fail
      refine (HQ.out _).mono ?_
      rintro e w4 ⟨rfl, hf4⟩
      have HF4 := Lib.hid hf4
      clear hf4
      go_wp2_with fail
      refine (HQ2.out _).mono ?_
      rintro e w5 ⟨rfl, hf5⟩
      have HF5 := Lib.hid hf5
      clear hf5
      go_wp2_with fail
      refine (alive_any _).mono ?_
      rintro e w6 ⟨rfl, hf6⟩
      have HF6 := Lib.hid hf6
      clear hf6
      go_wp2_with fail
      go_ret
      exact ⟨rfl, ff (ff (ff (ff HF2.out HF3.out) HF4.out) HF5.out) HF6.out⟩
end Go.Proofs.Ytbolgodoifbnnaa
