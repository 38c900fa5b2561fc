import Derived.Test.YtgcheollgnhdlaaGreatDoorLin
import Derived.Lib.IndexMore
namespace Go.Lin
open Go.Lib

/- a format, as the code asks it: without what it may have one of, all bytes are signs -/
def signB (c : UInt8) : Bool := letB c || c == 45
theorem sign_37 : signB 37 = false := by decide
theorem sign_47 : signB 47 = false := by decide
theorem fmt0 : ∀ l : Bs, fmtM 0 l = l.all signB
  | [] => rfl
  | c :: r => by
    rw [fmtM, List.all_cons, ← fmt0 r]
    by_cases h1 : c = 37
    · subst h1
      simp [sign_37]
    · by_cases h2 : c = 47
      · subst h2
        simp [sign_47]
      · rw [if_neg h1, if_neg h2]
        rfl
theorem all_not {l : Bs} {c : UInt8} (h : c ∈ l) (hc : signB c = false) : l.all signB = false := by
  rw [List.all_eq_false]
  exact ⟨c, h, by simp [hc]⟩
def slotW : List Bs := [[47], [37, 115], [37, 122]]
theorem slot_mem {m : Bs} (h : m ∈ slotW) : m = [47] ∨ m = [37, 115] ∨ m = [37, 122] := by simpa [slotW] using h
theorem fmt_cut (a b m : Bs) (hm : m ∈ slotW) : fmtM 1 (a ++ (m ++ b)) = (a ++ b).all signB := by
  have hx : ∃ c, c ∈ m ∧ signB c = false := by
    rcases slot_mem hm with rfl | rfl | rfl
    · exact ⟨47, by simp, sign_47⟩
    · exact ⟨37, by simp, sign_37⟩
    · exact ⟨37, by simp, sign_37⟩
  obtain ⟨d, hd, hs⟩ := hx
  induction a with
  | nil =>
    have h115 : signB 115 = true := by decide
    have h122 : signB 122 = true := by decide
    have g115 : letB 115 = true := by decide
    have g122 : letB 122 = true := by decide
    rcases slot_mem hm with rfl | rfl | rfl
    · simp [fmtM, fmt0]
    · simp [fmtM, fmt0, g115]
    · simp [fmtM, fmt0, g122]
  | cons c r ih =>
    show fmtM 1 (c :: (r ++ (m ++ b))) = (c :: (r ++ b)).all signB
    have hn : (r ++ (m ++ b)).all signB = false := all_not (by simp [hd]) hs
    rw [fmtM, List.all_cons, ← ih]
    by_cases h1 : c = 37
    · rw [if_pos h1, fmt0, hn, h1, sign_37]
      simp
    · by_cases h2 : c = 47
      · rw [if_neg h1, if_pos h2, fmt0, hn, h2, sign_47]
        simp
      · rw [if_neg h1, if_neg h2]
        rfl
theorem fmt_none : ∀ l : Bs, (∀ m, m ∈ slotW → ∀ a b, l ≠ a ++ (m ++ b)) → fmtM 1 l = l.all signB
  | [], _ => rfl
  | c :: r, h => by
    have ih := fmt_none r (fun m hm a b e => h m hm (c :: a) b (by rw [e]; rfl))
    rw [fmtM, List.all_cons, ← ih]
    by_cases h1 : c = 37
    · rw [if_pos h1, h1, sign_37]
      cases r with
      | nil => rfl
      | cons d t =>
        have n1 : d ≠ 115 := fun e => h [37, 115] (by simp [slotW]) [] t (by rw [h1, e]; rfl)
        have n2 : d ≠ 122 := fun e => h [37, 122] (by simp [slotW]) [] t (by rw [h1, e]; rfl)
        simp [n1, n2]
    · by_cases h2 : c = 47
      · exact absurd (by rw [h2]; rfl) (h [47] (by simp [slotW]) [] r)
      · rw [if_neg h1, if_neg h2]
        rfl
theorem cut_yes {l m : Bs} (h : (cut l m).2.2 = true) : l = (cut l m).1 ++ (m ++ (cut l m).2.1) := by
  unfold cut at *
  rcases index_spec l m with ⟨h1, h2⟩ | ⟨i, h1, h2, h3, h4⟩
  · rw [if_neg (by omega)] at h
    cases h
  · rw [if_pos (by omega), h1]
    show l = l.take i ++ (m ++ l.drop (i + m.length))
    unfold occAt at h3
    obtain ⟨t, ht⟩ := List.isPrefixOf_iff_prefix.1 h3
    rw [← List.drop_drop, ← ht, List.drop_left, ht, List.take_append_drop]
theorem cut_no {l m : Bs} (h : (cut l m).2.2 = false) (a b : Bs) : l ≠ a ++ (m ++ b) := by
  intro e
  unfold cut at h
  rcases index_spec l m with ⟨h1, h2⟩ | ⟨i, h1, h2, h3, h4⟩
  · have h3 := h2 a.length (by rw [e]; simp)
    unfold occAt at h3
    rw [e, List.drop_left] at h3
    have : m.isPrefixOf (m ++ b) = true := List.isPrefixOf_iff_prefix.2 (List.prefix_append _ _)
    rw [this] at h3
    cases h3
  · rw [if_pos (by omega)] at h
    cases h
def withoutD : List Bs → Bs → Bs
  | [], l => l
  | m :: ms, l => if (cut l m).2.2 = true then (cut l m).1 ++ (cut l m).2.1 else withoutD ms l
theorem without_fmt (l : Bs) : (withoutD slotW l).all signB = fmtM 1 l := by
  have key : ∀ ms : List Bs, (∀ m ∈ ms, m ∈ slotW) → (∀ m ∈ slotW, m ∉ ms → ∀ a b, l ≠ a ++ (m ++ b)) → (withoutD ms l).all signB = fmtM 1 l := by
    intro ms
    induction ms with
    | nil =>
      intro _ h
      exact (fmt_none l (fun m hm => h m hm (by simp))).symm
    | cons m ms ih =>
      intro hs h
      unfold withoutD
      cases hc : (cut l m).2.2 with
      | true =>
        rw [if_pos rfl]
        have := fmt_cut (cut l m).1 (cut l m).2.1 m (hs m (by simp))
        rw [← cut_yes hc] at this
        exact this.symm
      | false =>
        rw [if_neg (by decide)]
        refine ih (fun x hx => hs x (by simp [hx])) (fun x hx hn => ?_)
        by_cases e : x = m
        · subst e
          exact cut_no hc
        · exact h x hx (by simp [e, hn])
  exact key slotW (fun _ h => h) (fun m h hn => absurd h hn)
theorem format_eq (l : Bs) : formatB l = (decide (1 ≤ l.length) && decide (l.length ≤ 20) && (withoutD slotW l).all signB) := by
  rw [without_fmt]
  rfl
theorem without_len (l : Bs) : ∀ ms : List Bs, (withoutD ms l).length ≤ l.length
  | [] => Nat.le_refl _
  | m :: ms => by
    unfold withoutD
    cases hc : (cut l m).2.2 with
    | true =>
      rw [if_pos rfl]
      have := congrArg List.length (cut_yes hc)
      simp only [List.length_append] at this ⊢
      omega
    | false =>
      rw [if_neg (by decide)]
      exact without_len l ms
theorem cut_len {l m : Bs} (h : (cut l m).2.2 = true) : (cut l m).1.length + (cut l m).2.1.length ≤ l.length := by
  have := congrArg List.length (cut_yes h)
  simp only [List.length_append] at this
  omega
end Go.Lin
