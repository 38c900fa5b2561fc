import Derived.Test.YtghcfmoagkimaaaDoorYb07
import Derived.Lib.IndexMore
import Derived.Lib.Replace
/- a text found in another one, by the library's words; no program -/
namespace Go.Fmx
open Go.Lin

theorem occ_here {s t : Bs} {i : Nat} (ht : t ≠ []) : Go.Lib.occAt s t i = true ↔ hereD s t i := by
  constructor
  · intro h
    rcases Go.Lib.occAt_room h with hr | hr
    · refine ⟨hr, ?_⟩
      rw [Go.Lib.occAt_iff_take s t i hr, beq_iff_eq] at h
      exact h
    · exact absurd hr ht
  · intro h
    rw [Go.Lib.occAt_iff_take s t i h.1, beq_iff_eq]
    exact h.2
theorem index_some {s t : Bs} {i : Nat} (ht : t ≠ []) (h : findD s t = some i) : Go.Lib.index s t = (i : Int) := by
  obtain ⟨h1, h2⟩ := find_here h
  refine Go.Lib.index_first (by have := h1.1; omega) ((occ_here ht).2 h1) (fun j hj => ?_)
  cases ho : Go.Lib.occAt s t j with
  | false => rfl
  | true => exact absurd ((occ_here ht).1 ho) (h2 j hj)
theorem index_none' {s t : Bs} (ht : t ≠ []) (h : findD s t = none) : Go.Lib.index s t = -1 := by
  refine Go.Lib.index_none (fun j _ => ?_)
  cases ho : Go.Lib.occAt s t j with
  | false => rfl
  | true => exact absurd ((occ_here ht).1 ho) (find_nowhere h j)
theorem contains_find {s t : Bs} (ht : t ≠ []) : Go.Lib.contains s t = (findD s t).isSome := by
  unfold Go.Lib.contains
  cases h : findD s t with
  | none => rw [index_none' ht h]; rfl
  | some i => rw [index_some ht h]; simp
theorem cut_find {s t : Bs} {i : Nat} (ht : t ≠ []) (h : findD s t = some i) : Go.Lib.cut s t = (s.take i, s.drop (i + t.length), true) := by
  unfold Go.Lib.cut
  rw [index_some ht h]
  simp
theorem count_find {s t : Bs} {i : Nat} (ht : t ≠ []) (h : findD s t = some i) : ∃ n : Nat, Go.Lib.count s t = n + 1 := by
  unfold Go.Lib.count Go.Lib.countFrom
  rw [index_some ht h]
  have : ((i : Int) == -1) = false := by rw [beq_eq_false_iff_ne]; omega
  rw [this]
  exact ⟨_, Nat.add_comm _ _⟩
theorem count_le : ∀ (k : Nat) (s t : Bs), Go.Lib.countFrom t k s ≤ k
  | 0, _, _ => Nat.le_refl _
  | k + 1, s, t => by
    unfold Go.Lib.countFrom
    split
    · exact Nat.zero_le _
    · have := count_le k (s.drop ((Go.Lib.index s t).toNat + t.length)) t
      omega
theorem here_split {s t : Bs} {i : Nat} (h : hereD s t i) : s = s.take i ++ t ++ s.drop (i + t.length) := by
  obtain ⟨_, h2⟩ := h
  have e := List.take_append_drop i s
  have e2 := List.take_append_drop t.length (s.drop i)
  rw [h2, List.drop_drop] at e2
  rw [List.append_assoc, e2, e]
theorem replace_find {s t n : Bs} {i : Nat} (ht : t ≠ []) (h : findD s t = some i) : Go.Lib.replace s t n 1 = s.take i ++ n ++ s.drop (i + t.length) := by
  unfold Go.Lib.replace
  by_cases e : t = n
  · subst e
    rw [if_pos (by simp)]
    exact here_split (find_here h).1
  · rw [if_neg (by simpa using e)]
    obtain ⟨c, hc⟩ := count_find ht h
    have hn : Go.Lib.replaceNum s t 1 = 1 := by
      unfold Go.Lib.replaceNum
      rw [if_neg (by omega)]
      rfl
    rw [hn, Go.Lib.replaceK_hit t n 0 s i (index_some ht h)]
    rfl
end Go.Fmx
