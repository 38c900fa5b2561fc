import Derived.Lib.ItoaNum
namespace Go.Clk
abbrev Bs := List UInt8
def digB (c : UInt8) : Bool := 48 ≤ c.toNat && c.toNat ≤ 57
def dv (c : UInt8) : Nat := c.toNat - 48
/- what the reader's methods take: a value and what is left, or none -/
def moreD : Nat → Nat → Bs → Nat × Bs
  | 0, n, r => (n, r)
  | _ + 1, n, [] => (n, [])
  | k + 1, n, c :: r => if digB c = true then moreD k (n * 10 + dv c) r else (n, c :: r)
/- the words: which texts are times -/
/-- what may stand behind a time -/
def Stop (r : Bs) : Prop := r.head? ≠ some 58 ∧ ∀ c, r.head? = some c → digB c = false
theorem Stop.nil : Stop [] := ⟨by simp, by simp⟩
/- what is read is a time's text -/
/- the document's answer -/
/- what is shown -/
/- hours in two digits or three, minutes, seconds -/
end Go.Clk
