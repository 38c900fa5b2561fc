import Derived.Test.YtolmemdkklfdpaaRne
namespace Go.Proofs.Ytolmemdkklfdpaa
open Go.RowKit Go.Mem Go.Lxr

theorem get_of {s : ByteArray} {j : Nat} {b : UInt8} (h : s.data.toList[j]? = some b) : s.get! j = b := by
  obtain ⟨h1, h2⟩ := List.getElem?_eq_some_iff.1 h
  have h1' : j < s.size := by rw [bytes_len] at h1; exact h1
  have := get_at s j h1'
  rw [Nat.add_zero] at this
  rw [this]
  exact h2
/-- a rune that begins at a byte of 128 or more -/
theorem decode_step (s : ByteArray) (pos : Nat) (h : pos < s.size) (ha : 128 ≤ (s[pos]'h).toNat) :
    Utf8.valid ((Utf8.decode s pos).1 : Int) = true ∧ 1 ≤ (Utf8.decode s pos).2 ∧ pos + (Utf8.decode s pos).2 ≤ s.size ∧ ∀ k, k < (Utf8.decode s pos).2 → ∀ b, s.data.toList[pos + k]? = some b → 128 ≤ b.toNat := by
  have hn : ¬ (s[pos]'h).toNat < 128 := by omega
  have hz : ∀ b, s.data.toList[pos + 0]? = some b → 128 ≤ b.toNat := fun b hb => by
    have := get_of hb
    rw [get_at s pos h] at this
    rw [← this]
    exact ha
  have herr : Utf8.valid ((Utf8.runeError : Nat) : Int) = true := by decide
  have hc : ∀ k, (s.get! (pos + k)).toNat / 64 = 2 → ∀ b, s.data.toList[pos + k]? = some b → 128 ≤ b.toNat := fun k hk b hb => by
    rw [get_of hb] at hk
    omega
  simp only [Utf8.decode, get_at s pos h, hn, if_false]
  split
  · rename_i h2
    simp only [Bool.and_eq_true, beq_iff_eq, decide_eq_true_eq] at h2
    split
    · rename_i h3
      refine ⟨?_, by simp, by simp; omega, fun k hk b hb => ?_⟩
      · unfold Utf8.valid
        have := (s[pos]'h).toNat_lt
        simp
        omega
      · have hk : k < 2 := hk
        rcases Nat.eq_zero_or_pos k with rfl | hk0
        · exact hz b hb
        · obtain rfl : k = 1 := by omega
          exact hc 1 h2.2.2 b hb
    · exact ⟨herr, by simp, by simp; omega, fun k hk b hb => by
        have hk : k < 1 := hk
        obtain rfl : k = 0 := by omega
        exact hz b hb⟩
  · split
    · rename_i h2
      simp only [Bool.and_eq_true, beq_iff_eq, decide_eq_true_eq] at h2
      split
      · rename_i h3
        simp only [Bool.and_eq_true] at h3
        refine ⟨h3.2, by simp, by simp; omega, fun k hk b hb => ?_⟩
        have hk : k < 3 := hk
        rcases Nat.eq_zero_or_pos k with rfl | hk0
        · exact hz b hb
        · rcases (show k = 1 ∨ k = 2 by omega) with rfl | rfl
          · exact hc 1 h2.1.2.2 b hb
          · exact hc 2 h2.2.2 b hb
      · exact ⟨herr, by simp, by simp; omega, fun k hk b hb => by
          have hk : k < 1 := hk
          obtain rfl : k = 0 := by omega
          exact hz b hb⟩
    · split
      · rename_i h2
        simp only [Bool.and_eq_true, beq_iff_eq, decide_eq_true_eq] at h2
        split
        · rename_i h3
          simp only [Bool.and_eq_true] at h3
          refine ⟨h3.2, by simp, by simp; omega, fun k hk b hb => ?_⟩
          have hk : k < 4 := hk
          rcases Nat.eq_zero_or_pos k with rfl | hk0
          · exact hz b hb
          · rcases (show k = 1 ∨ k = 2 ∨ k = 3 by omega) with rfl | rfl | rfl
            · exact hc 1 h2.1.1.2.2 b hb
            · exact hc 2 h2.1.2.2 b hb
            · exact hc 3 h2.2.2 b hb
        · exact ⟨herr, by simp, by simp; omega, fun k hk b hb => by
            have hk : k < 1 := hk
            obtain rfl : k = 0 := by omega
            exact hz b hb⟩
      · exact ⟨herr, by simp, by simp; omega, fun k hk b hb => by
          have hk : k < 1 := hk
          obtain rfl : k = 0 := by omega
          exact hz b hb⟩
/-- no byte of chars is in a rune of bytes of 128 and more -/
theorem noany_skip {s chars : ByteArray} {i n : Nat} (hc : Asc chars) (h : Lib.NoAny s.data.toList chars.data.toList i) (hk : ∀ k, k < n → ∀ b, s.data.toList[i + k]? = some b → 128 ≤ b.toNat) : Lib.NoAny s.data.toList chars.data.toList (i + n) := by
  intro j b hj hb
  by_cases hji : j < i
  · exact h j b hji hb
  · have := hk (j - i) (by omega) b (by rw [show i + (j - i) = j by omega]; exact hb)
    rw [← Bool.not_eq_true]
    intro e
    have e := List.elem_iff.1 e
    obtain ⟨m, hm, e⟩ := List.getElem_of_mem e
    have := hc m _ (List.getElem?_eq_getElem hm)
    rw [e] at this
    omega
theorem rune_any (chars : ByteArray) (r : Int) (w : World) (h : Asc chars) (h4 : 4 ≤ chars.size) (hz : chars.size ≤ 1000) (hr : 128 ≤ r) (hv : Utf8.valid r = true) : Calls Try.prog 34 #[.string chars, .int .i32 r] w fun e w' => e = .returned (.int .i64 (-1)) ∧ Fr w w' (fun _ => False) := by
  by_cases e : r = 65533
  · subst e
    exact rune_error chars w h hz
  · exact rune_high chars r w h h4 hz hr hv (by simpa using e)
end Go.Proofs.Ytolmemdkklfdpaa
