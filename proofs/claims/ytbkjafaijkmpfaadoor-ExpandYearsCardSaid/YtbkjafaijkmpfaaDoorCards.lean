/-
  DERIVED. GIVEN WITH THE SEED: THE CARDS: each row of YtbkjafaijkmpfaaDoorRows.lean that lists a variable, with what it lists TIED to the program's text (the seventh form; the later family's looks); each row that meets fmt, with fmt's text TOLD by the authors' own Lean function (tested against real Go, not proved from fmt's source: count such statements apart). THE CARD IS WHAT COUNTS. Prove the row's statement (the work); the ties are given (YtbkjafaijkmpfaaDoorTie.lean); close each card by the builder's one call (the guide's Derived/Test/ToyasCard.lean, 'card_holds'). Laid BY PROGRAM, IN A SANDBOX (cutbox-door.mjs). By AI agents, Wed Nov 11 2026. No macro, syntax, notation, axiom, sorry.
-/
import Derived.Test.YtbkjafaijkmpfaaDoorRows
import GoSem.ClaimSeven
namespace Go.Proofs.YtbkjafaijkmpfaaDoor
namespace Rows

/-- THE TIED CARD OF 'noonmarklaw14.ExpandYears'. -/
def expandYearsCard : Claim7 := { stood := { row := expandYearsRow, standIns := [], harness := (true, "12d5e7f4b6d988b69db88f631c98c7d490db3d345d7d0858c5ab6bc6ca879546"), looks := false }, kinds := [], alts := [], laidByText := true, laidKinds := [.data], laidTests := true, laidLooks := .later }
def ExpandYearsCardSaid : Prop := Claim7.holds Tryd.pinned (.plain (OpenSpec.ofChange expandYearsSpec)) expandYearsCard

/-- THE TIED CARD OF 'noonmarklaw14.ExpandJoins'. -/
def expandJoinsCard : Claim7 := { stood := { row := expandJoinsRow, standIns := [], harness := (true, "12d5e7f4b6d988b69db88f631c98c7d490db3d345d7d0858c5ab6bc6ca879546"), looks := false }, kinds := [], alts := [], laidByText := true, laidKinds := [.data], laidTests := true, laidLooks := .later }
def ExpandJoinsCardSaid : Prop := Claim7.holds Tryd.pinned (.plain (OpenSpec.ofChange expandJoinsSpec)) expandJoinsCard

/-- THE TIED CARD OF 'noonmarklaw14.ExpandOrder'. -/
def expandOrderCard : Claim7 := { stood := { row := expandOrderRow, standIns := [], harness := (true, "12d5e7f4b6d988b69db88f631c98c7d490db3d345d7d0858c5ab6bc6ca879546"), looks := false }, kinds := [], alts := [], laidByText := true, laidKinds := [.data], laidTests := true, laidLooks := .later }
def ExpandOrderCardSaid : Prop := Claim7.holds Tryd.pinned (.plain (OpenSpec.ofChange expandOrderSpec)) expandOrderCard

/-- THE TIED CARD OF 'noonmarklaw14.ExpandEach'. -/
def expandEachCard : Claim7 := { stood := { row := expandEachRow, standIns := [], harness := (true, "12d5e7f4b6d988b69db88f631c98c7d490db3d345d7d0858c5ab6bc6ca879546"), looks := false }, kinds := [], alts := [], laidByText := true, laidKinds := [.data], laidTests := true, laidLooks := .later }
def ExpandEachCardSaid : Prop := Claim7.holds Tryd.pinned (.plain (OpenSpec.ofChange expandEachSpec)) expandEachCard

/-- THE SECOND FORM's CARD OF 'noonmarklaw14.ExpandYears'. -/
def expandYearsUptoCard : Claim7 := { stood := { row := expandYearsUptoRow, standIns := [], harness := (true, "12d5e7f4b6d988b69db88f631c98c7d490db3d345d7d0858c5ab6bc6ca879546"), looks := false }, kinds := [], alts := [], laidByText := true, laidKinds := [.data], laidTests := true, laidLooks := .later }
def ExpandYearsUptoCardSaid : Prop := Claim7.holds Tryd.pinned (.plain (OpenSpec.upto expandYearsSpec)) expandYearsUptoCard

/-- THE SECOND FORM's CARD OF 'noonmarklaw14.ExpandJoins'. -/
def expandJoinsUptoCard : Claim7 := { stood := { row := expandJoinsUptoRow, standIns := [], harness := (true, "12d5e7f4b6d988b69db88f631c98c7d490db3d345d7d0858c5ab6bc6ca879546"), looks := false }, kinds := [], alts := [], laidByText := true, laidKinds := [.data], laidTests := true, laidLooks := .later }
def ExpandJoinsUptoCardSaid : Prop := Claim7.holds Tryd.pinned (.plain (OpenSpec.upto expandJoinsSpec)) expandJoinsUptoCard

/-- THE SECOND FORM's CARD OF 'noonmarklaw14.ExpandOrder'. -/
def expandOrderUptoCard : Claim7 := { stood := { row := expandOrderUptoRow, standIns := [], harness := (true, "12d5e7f4b6d988b69db88f631c98c7d490db3d345d7d0858c5ab6bc6ca879546"), looks := false }, kinds := [], alts := [], laidByText := true, laidKinds := [.data], laidTests := true, laidLooks := .later }
def ExpandOrderUptoCardSaid : Prop := Claim7.holds Tryd.pinned (.plain (OpenSpec.upto expandOrderSpec)) expandOrderUptoCard

/-- THE SECOND FORM's CARD OF 'noonmarklaw14.ExpandEach'. -/
def expandEachUptoCard : Claim7 := { stood := { row := expandEachUptoRow, standIns := [], harness := (true, "12d5e7f4b6d988b69db88f631c98c7d490db3d345d7d0858c5ab6bc6ca879546"), looks := false }, kinds := [], alts := [], laidByText := true, laidKinds := [.data], laidTests := true, laidLooks := .later }
def ExpandEachUptoCardSaid : Prop := Claim7.holds Tryd.pinned (.plain (OpenSpec.upto expandEachSpec)) expandEachUptoCard
end Rows
end Go.Proofs.YtbkjafaijkmpfaaDoor
