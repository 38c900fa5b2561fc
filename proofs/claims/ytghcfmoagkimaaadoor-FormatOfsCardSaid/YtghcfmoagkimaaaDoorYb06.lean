import Derived.Test.YtghcfmoagkimaaaDoorYb05
import Derived.Lib.SplitLaws
import Derived.Test.YtghcfmoagkimaaaDoorYb02
namespace Go.Kwd
open Go.Lib Go.Esc

/-- does the word w begin with s? -/
def begD (w s : Bs) : Bool := !s.isEmpty && preB (small s) (small w)
def onlyT : Bs := [111, 110, 108, 121]
def maxT : Bs := [109, 97, 120]
def showToD (fr to : Int) : Bs × Int :=
  if ¬ (1 ≤ fr ∧ fr ≤ 9999) then ([], 8) else if to = 10000 then (maxT, 0) else if ¬ (1 ≤ to ∧ to ≤ 9999) ∨ to < fr then ([], 8) else if to = fr then (onlyT, 0) else (itoa to, 0)
end Go.Kwd
