import Derived.Lib.ParseIntBCases
import Derived.Lib.ItoaNum
namespace Go.Esc
open Go.Lib
abbrev Bs := List UInt8

def digB (c : UInt8) : Bool := 48 ≤ c.toNat && c.toNat ≤ 57
def inRange (v : Int) : Prop := -9223372036854775808 ≤ v ∧ v ≤ 9223372036854775807
instance (v : Int) : Decidable (inRange v) := inferInstanceAs (Decidable (_ ∧ _))
end Go.Esc
