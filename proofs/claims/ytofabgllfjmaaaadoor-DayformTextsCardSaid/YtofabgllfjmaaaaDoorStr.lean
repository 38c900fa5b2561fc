import Derived.Test.YtofabgllfjmaaaaDoorRin
import Derived.Deep.DeepCutAuto
namespace Go.Proofs.YtofabgllfjmaaaaDoor
open Go.RowKit Go.Mem Go.Esc

theorem drop_cons {s : ByteArray} {a : Nat} {c : UInt8} {l : Bs} (h : s.data.toList.drop a = c :: l) : ∃ hs : a < s.size, s[a] = c ∧ s.data.toList.drop (a + 1) = l := by
  have hl : s.data.toList.length = s.size := bytes_len s
  have hs : a < s.size := by
    rw [← hl]
    rcases Nat.lt_or_ge a s.data.toList.length with h1 | h1
    · exact h1
    · rw [List.drop_eq_nil_of_le h1] at h
      cases h
  refine ⟨hs, ?_, ?_⟩
  · rw [List.drop_eq_getElem_cons (by rw [hl]; exact hs)] at h
    have := (List.cons.inj h).1
    rw [← this]
    rfl
  · rw [List.drop_eq_getElem_cons (by rw [hl]; exact hs)] at h
    exact (List.cons.inj h).2
theorem extract_str (s : ByteArray) (a k : Nat) : s.extract a (a + k) = ⟨((s.data.toList.drop a).take k).toArray⟩ := by
  apply ByteArray.ext
  apply Array.toList_inj.1
  simp [List.extract]
theorem rest_str {s : ByteArray} {a : Nat} {l : Bs} (h : s.data.toList.drop a = l) : s.extract a s.size = ⟨l.toArray⟩ := by
  have hl : s.data.toList.length = s.size := bytes_len s
  apply ByteArray.ext
  apply Array.toList_inj.1
  simp [← h, List.extract]
  rw [List.take_of_length_le (by rw [List.length_drop, hl]; omega)]
theorem bytes_at {s : ByteArray} {k : Nat} (h : k < s.size) : s.data.toList.take (k + 1) = s.data.toList.take k ++ [s[k]] := by
  rw [List.take_succ_eq_append_getElem (by simpa using h)]; rfl
theorem head_at {s : ByteArray} {c : UInt8} {r : Bs} (h : s.data.toList = c :: r) : ∃ hs : 0 < s.size, s[0] = c := by
  obtain ⟨hs, hc, -⟩ := drop_cons (s := s) (a := 0) (by rw [List.drop_zero, h])
  exact ⟨hs, hc⟩
theorem dig_all {s : ByteArray} : (∀ k (h : k < s.size), digB s[k] = true) ↔ s.data.toList.all digB = true := by
  rw [List.all_eq_true]
  constructor
  · intro h x hx
    obtain ⟨k, hk, e⟩ := List.getElem_of_mem hx
    rw [← e]
    exact h k (by rw [bytes_len] at hk; exact hk)
  · intro h k hk
    exact h _ (List.getElem_mem (by rw [bytes_len]; exact hk))
theorem Int_range (c : UInt8) : (48 ≤ c.toNat ∧ c.toNat ≤ 57) ↔ ¬ ((c.toNat : Int) < 48) ∧ ¬ ((57 : Int) < (c.toNat : Int)) := by omega
theorem toNat_ne {c : UInt8} {n : Int} {k : UInt8} (h : c ≠ k) (hn : n = c.toNat) : (n == (k.toNat : Int)) = false := by
  rw [beq_eq_false_iff_ne]
  intro e
  exact h (UInt8.toNat_inj.1 (by omega))
end Go.Proofs.YtofabgllfjmaaaaDoor
