import Derived.Test.YtbkjafaijkmpfaaDoorYa05
import Derived.Lib.SplitLaws
import Derived.Test.YtbkjafaijkmpfaaDoorYa02
namespace Go.Kwd
open Go.Lib Go.Esc

/-- does the word w begin with s? -/
def begD (w s : Bs) : Bool := !s.isEmpty && preB (small s) (small w)
/-- what From answers of what was read -/
def yearD (p : Int × Int) : Int × Int := if p.2 = 0 ∧ 1 ≤ p.1 ∧ p.1 ≤ 9999 then (p.1, 0) else (0, 8)
end Go.Kwd
