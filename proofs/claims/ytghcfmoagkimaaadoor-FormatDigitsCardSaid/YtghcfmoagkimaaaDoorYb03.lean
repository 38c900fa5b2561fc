import Derived.Lib.AtoiAll
import Derived.Lib.AtoiAllCases
import Derived.Lib.IndexMore
import Derived.Lib.Strings
import Derived.Test.YtghcfmoagkimaaaDoorYb02
namespace Go.Dfm
open Go.Lib Go.Esc

/-- is a day right? -/
def rightP (k d w : Int) : Prop := (k = 0 ∧ 1 ≤ d ∧ d ≤ 31 ∧ w = 0) ∨ (k = 1 ∧ d = 0 ∧ 0 ≤ w ∧ w < 7) ∨ ((k = 2 ∨ k = 3) ∧ 1 ≤ d ∧ d ≤ 31 ∧ 0 ≤ w ∧ w < 7)
instance (k d w : Int) : Decidable (rightP k d w) := inferInstanceAs (Decidable (_ ∨ _))
def rightB (k d w : Int) : Bool := decide (rightP k d w)
/-- the program's number: of its shortest text -/
def numD (l : Bs) : Int := match atoiAll l with
  | .ok v => if itoa v = l then v else 0
  | _ => 0
/- numbers from 1 to 31 -/
/- names -/
/- what is shown is read -/
/- what is read is shown -/
/- the document's reader -/
theorem parts {l : Bs} (_h : 5 < l.length) : l.take 3 ++ (l.drop 3).take 2 ++ l.drop 5 = l := by
  have : l.drop 5 = (l.drop 3).drop 2 := by rw [List.drop_drop]
  rw [this, List.append_assoc, List.take_append_drop, List.take_append_drop]
/- Show -/
end Go.Dfm
