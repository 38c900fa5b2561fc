import Derived.Lib.ItoaNum
namespace Go.Clk
abbrev Bs := List UInt8
def digB (c : UInt8) : Bool := 48 ≤ c.toNat && c.toNat ≤ 57
def dv (c : UInt8) : Nat := c.toNat - 48
/- what the reader's methods take: a value and what is left, or none -/
def moreD : Nat → Nat → Bs → Nat × Bs
  | 0, n, r => (n, r)
  | _ + 1, n, [] => (n, [])
  | k + 1, n, c :: r => if digB c = true then moreD k (n * 10 + dv c) r else (n, c :: r)
def sufK (c : UInt8) : Option Nat := if c = 119 then some 0 else if c = 115 then some 1 else if c = 117 ∨ c = 103 ∨ c = 122 then some 2 else none
/- the words: which texts are times -/
inductive Suf : Bs → Nat → Prop
  | nil : Suf [] 0
  | one (c : UInt8) (k : Nat) : sufK c = some k → Suf [c] k
theorem suf_ne {c : UInt8} {k : Nat} (h : sufK c = some k) : c ≠ 58 ∧ c ≠ 45 ∧ digB c = false ∧ k ≤ 2 := by
  unfold sufK at h
  split at h
  · rename_i e; subst e; cases h; decide
  · split at h
    · rename_i e; subst e; cases h; decide
    · split at h
      · rename_i e
        rcases e with e | e | e <;> (subst e; cases h; decide)
      · cases h

/-- what may stand behind a time -/
def Stop (r : Bs) : Prop := r.head? ≠ some 58 ∧ ∀ c, r.head? = some c → digB c = false
theorem Stop.nil : Stop [] := ⟨by simp, by simp⟩
theorem Suf.stop {x : Bs} {k : Nat} (h : Suf x k) : Stop x := by
  cases h with
  | nil => exact Stop.nil
  | one c k h =>
    obtain ⟨h1, -, h2, -⟩ := suf_ne h
    refine ⟨by simpa using h1, fun d hd => ?_⟩
    obtain rfl : c = d := by simpa using hd
    exact h2

/- what is read is a time's text -/
/- the document's answer -/
/- what is shown -/
def chr (n : Nat) : UInt8 := UInt8.ofNat (48 + n)
def twoL (n : Nat) : Bs := [chr (n / 10), chr (n % 10)]
def secL (n : Nat) : Bs := if n = 0 then [] else 58 :: twoL n
def textN (a : Nat) : Bs := Lib.decDigits (a / 3600) ++ (58 :: twoL (a % 3600 / 60)) ++ secL (a % 60)
def textL (n : Int) : Bs := if n < 0 then 45 :: textN n.natAbs else textN n.natAbs
def markL (k : Nat) : Bs := if k = 1 then [115] else if k = 2 then [117] else []
/- hours in two digits or three, minutes, seconds -/
end Go.Clk
