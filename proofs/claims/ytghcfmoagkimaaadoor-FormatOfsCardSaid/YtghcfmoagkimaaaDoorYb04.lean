import Derived.Lib.ItoaNum
namespace Go.Clk
abbrev Bs := List UInt8
def digB (c : UInt8) : Bool := 48 ≤ c.toNat && c.toNat ≤ 57
/- what the reader's methods take: a value and what is left, or none -/
/- the words: which texts are times -/
/-- what may stand behind a time -/
def Stop (r : Bs) : Prop := r.head? ≠ some 58 ∧ ∀ c, r.head? = some c → digB c = false
theorem Stop.nil : Stop [] := ⟨by simp, by simp⟩
/- what is read is a time's text -/
/- the document's answer -/
/- what is shown -/
def chr (n : Nat) : UInt8 := UInt8.ofNat (48 + n)
def twoL (n : Nat) : Bs := [chr (n / 10), chr (n % 10)]
/- hours in two digits or three, minutes, seconds -/
end Go.Clk
