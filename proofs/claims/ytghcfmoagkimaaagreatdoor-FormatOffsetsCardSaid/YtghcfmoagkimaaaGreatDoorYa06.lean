import Derived.Test.YtghcfmoagkimaaaGreatDoorYa05
import Derived.Lib.SplitLaws
import Derived.Test.YtghcfmoagkimaaaGreatDoorYa02
namespace Go.Kwd
open Go.Lib Go.Esc

/-- does the word w begin with s? -/
def begD (w s : Bs) : Bool := !s.isEmpty && preB (small s) (small w)
/-- what From answers of what was read -/
def yearD (p : Int × Int) : Int × Int := if p.2 = 0 ∧ 1 ≤ p.1 ∧ p.1 ≤ 9999 then (p.1, 0) else (0, 8)
def onlyT : Bs := [111, 110, 108, 121]
def maxT : Bs := [109, 97, 120]
def showToD (fr to : Int) : Bs × Int :=
  if ¬ (1 ≤ fr ∧ fr ≤ 9999) then ([], 8) else if to = 10000 then (maxT, 0) else if ¬ (1 ≤ to ∧ to ≤ 9999) ∨ to < fr then ([], 8) else if to = fr then (onlyT, 0) else (itoa to, 0)
end Go.Kwd
