import Derived.Lib.ParseIntBCases
import Derived.Lib.ItoaNum
namespace Go.Esc
open Go.Lib
abbrev Bs := List UInt8

def digB (c : UInt8) : Bool := 48 ≤ c.toNat && c.toNat ≤ 57
/-- what digits spell, behind others -/
def accD (a : Nat) (l : Bs) : Nat := l.foldl (fun a c => a * 10 + (c.toNat - 48)) a
abbrev valD (l : Bs) : Nat := accD 0 l
def trimL (l : Bs) : Bs := if l.head? = some 45 then l.tail else l
/-- is it a whole number's text? -/
def wholeB (l : Bs) : Bool := l == [48] || (!(trimL l).isEmpty && (trimL l).head? != some 48 && (trimL l).all digB)
/-- the number of a text -/
def numV (l : Bs) : Int := if l.head? = some 45 then -(valD (trimL l) : Int) else (valD l : Int)
def inRange (v : Int) : Prop := -9223372036854775808 ≤ v ∧ v ≤ 9223372036854775807
instance (v : Int) : Decidable (inRange v) := inferInstanceAs (Decidable (_ ∧ _))
/-- what ParseInt answers -/
def parsed (l : Bs) : Int × Int := if wholeB l = true then (if inRange (numV l) then (numV l, 0) else (0, 2)) else (0, 3)

theorem accD_ge (l : Bs) : ∀ a, a ≤ accD a l := by
  induction l with
  | nil => intro a; exact Nat.le_refl _
  | cons c l ih =>
    intro a
    have := ih (a * 10 + (c.toNat - 48))
    simp only [accD, List.foldl_cons] at this ⊢
    omega
theorem accD_cons (a : Nat) (c : UInt8) (l : Bs) : accD a (c :: l) = accD (a * 10 + (c.toNat - 48)) l := by simp only [accD, List.foldl_cons]
theorem uint_nil (M a : Nat) : parseUintM M a [] = .ok a := by simp only [parseUintM]
theorem uint_cons (M a : Nat) (c : UInt8) (l : Bs) (hc : 48 ≤ c.toNat ∧ c.toNat ≤ 57) (h1 : ¬ 1844674407370955162 ≤ a) (h2 : ¬ M < a * 10 + (c.toNat - 48)) : parseUintM M a (c :: l) = parseUintM M (a * 10 + (c.toNat - 48)) l := by
  conv => lhs; unfold parseUintM
  rw [if_pos hc, if_neg h1, if_neg h2]
theorem uint_over (M a : Nat) (c : UInt8) (l : Bs) (hc : 48 ≤ c.toNat ∧ c.toNat ≤ 57) (h : 1844674407370955162 ≤ a ∨ M < a * 10 + (c.toNat - 48)) : parseUintM M a (c :: l) = .range := by
  conv => lhs; unfold parseUintM
  rw [if_pos hc]
  by_cases h1 : 1844674407370955162 ≤ a
  · rw [if_pos h1]
  · rw [if_neg h1, if_pos (h.resolve_left h1)]
theorem digB_iff (c : UInt8) : digB c = true ↔ 48 ≤ c.toNat ∧ c.toNat ≤ 57 := by simp [digB]
theorem uint_digits (M : Nat) (hM : M ≤ 18446744073709551615) (l : Bs) : ∀ a, a ≤ M → l.all digB = true → (accD a l ≤ M → parseUintM M a l = .ok (accD a l)) ∧ (¬ accD a l ≤ M → parseUintM M a l = .range) := by
  induction l with
  | nil =>
    intro a ha _
    exact ⟨fun _ => uint_nil M a, fun h => absurd ha h⟩
  | cons c l ih =>
    intro a ha h
    simp only [List.all_cons, Bool.and_eq_true] at h
    obtain ⟨hc, hl⟩ := h
    have hc := (digB_iff c).1 hc
    rw [accD_cons]
    have hge := accD_ge l (a * 10 + (c.toNat - 48))
    by_cases h1 : 1844674407370955162 ≤ a ∨ M < a * 10 + (c.toNat - 48)
    · exact ⟨fun h => absurd h (by omega), fun _ => uint_over M a c l hc h1⟩
    · have h2 : ¬ M < a * 10 + (c.toNat - 48) := fun h => h1 (.inr h)
      rw [uint_cons M a c l hc (fun h => h1 (.inl h)) h2]
      exact ih _ (Nat.le_of_not_lt h2) hl
/-- three cases of a whole number's text -/
theorem whole_cases {l : Bs} (h : wholeB l = true) : (l.head? = some 45 ∧ ∃ c r, l = 45 :: c :: r ∧ c ≠ 48 ∧ (c :: r).all digB = true) ∨ (l.head? ≠ some 45 ∧ ∃ c r, l = c :: r ∧ (c ≠ 48 ∨ r = []) ∧ (c :: r).all digB = true) := by
  simp only [wholeB, Bool.or_eq_true, beq_iff_eq, Bool.and_eq_true, Bool.not_eq_true', bne_iff_ne, ne_eq] at h
  rcases h with rfl | ⟨⟨h1, h2⟩, h3⟩
  · right
    exact ⟨by decide, 48, [], rfl, .inr rfl, by decide⟩
  · by_cases h45 : l.head? = some 45
    · left
      refine ⟨h45, ?_⟩
      rw [trimL, if_pos h45] at h1 h2 h3
      cases l with
      | nil => cases h45
      | cons x l =>
        obtain rfl : x = 45 := by simpa using h45
        rw [List.tail_cons] at h1 h2 h3
        cases l with
        | nil => cases h1
        | cons c r => exact ⟨c, r, rfl, by simpa using h2, h3⟩
    · right
      refine ⟨h45, ?_⟩
      rw [trimL, if_neg h45] at h1 h2 h3
      cases l with
      | nil => cases h1
      | cons c r => exact ⟨c, r, rfl, .inl (by simpa using h2), h3⟩
theorem numV_neg (r : Bs) : numV (45 :: r) = -(valD r : Int) := rfl
theorem numV_pos {l : Bs} (h : l.head? ≠ some 45) : numV l = (valD l : Int) := by rw [numV, if_neg h]
theorem whole_parse {l : Bs} (h : wholeB l = true) : parseIntB 64 l = if inRange (numV l) then .ok (numV l) else .range := by
  have hu : ∀ c r, (c :: r).all digB = true → parseUintB 64 (c :: r) = if valD (c :: r) ≤ 18446744073709551615 then .ok (valD (c :: r)) else .range := fun c r h => by
    rw [parseUintB, if_neg (by simp)]
    have := uint_digits (2 ^ 64 - 1) (by decide) (c :: r) 0 (Nat.zero_le _) h
    by_cases hv : valD (c :: r) ≤ 18446744073709551615
    · rw [if_pos hv]; exact this.1 hv
    · rw [if_neg hv]; exact this.2 hv
  rcases whole_cases h with ⟨_, c, r, rfl, _, hall⟩ | ⟨h45, c, r, rfl, _, hall⟩
  · rw [parseIntB_minus, hu c r hall, numV_neg]
    generalize valD (c :: r) = v
    by_cases h1 : v ≤ 18446744073709551615
    · rw [if_pos h1]
      show (if 2 ^ 63 < v then NumEnd.range else .ok (-(v : Int))) = _
      by_cases h2 : 9223372036854775808 < v
      · rw [if_pos h2, if_neg (by unfold inRange; omega)]
      · rw [if_neg h2, if_pos (by unfold inRange; omega)]
    · rw [if_neg h1, if_neg (by unfold inRange; omega)]
      rfl
  · have hc := hall
    simp only [List.all_cons, Bool.and_eq_true] at hc
    have hd := (digB_iff c).1 hc.1
    rw [parseIntB_plain 64 c r (by omega) (by omega), hu c r hall, numV_pos h45]
    generalize valD (c :: r) = v
    by_cases h1 : v ≤ 18446744073709551615
    · rw [if_pos h1]
      show (if 2 ^ 63 ≤ v then NumEnd.range else .ok (v : Int)) = _
      by_cases h2 : 9223372036854775808 ≤ v
      · rw [if_pos h2, if_neg (by unfold inRange; omega)]
      · rw [if_neg h2, if_pos (by unfold inRange; omega)]
    · rw [if_neg h1, if_neg (by unfold inRange; omega)]
      rfl

theorem itoa_pos {n : Int} (h : ¬ n < 0) : itoa n = decDigits n.toNat := by rw [itoa, if_neg h]
end Go.Esc
