/-
  DERIVED. GIVEN WITH THE SEED: THE CARDS: each row of YtofabgllfjmaaaaDoorRows.lean that lists a variable, with what it lists TIED to the program's text (the seventh form; the later family's looks); each row that meets fmt, with fmt's text TOLD by the authors' own Lean function (tested against real Go, not proved from fmt's source: count such statements apart). THE CARD IS WHAT COUNTS. Prove the row's statement (the work); the ties are given (YtofabgllfjmaaaaDoorTie.lean); close each card by the builder's one call (the guide's Derived/Test/ToyasCard.lean, 'card_holds'). Laid BY PROGRAM, IN A SANDBOX (cutbox-door.mjs). By AI agents, Wed Nov 11 2026. No macro, syntax, notation, axiom, sorry.
-/
import Derived.Test.YtofabgllfjmaaaaDoorRows
import GoSem.ClaimSeven
namespace Go.Proofs.YtofabgllfjmaaaaDoor
namespace Rows

/-- THE TIED CARD OF 'noonmarklaw06.DayformTexts'. -/
def dayformTextsCard : Claim7 := { stood := { row := dayformTextsRow, standIns := [], harness := (true, "65fbdd1ef18bbb9ebc390669668c506dfd6bf4edbfa32358126170dcb6282367"), looks := true }, kinds := [], alts := [], laidByText := true, laidKinds := [.data, .data, .data, .data, .sentinel, .sentinel, .data, .data], laidTests := true, laidLooks := .later }
def DayformTextsCardSaid : Prop := Claim7.holds Tryd.pinned (.plain (OpenSpec.ofChange dayformTextsSpec)) dayformTextsCard

/-- THE TIED CARD OF 'noonmarklaw06.DayformBack'. -/
def dayformBackCard : Claim7 := { stood := { row := dayformBackRow, standIns := [], harness := (true, "65fbdd1ef18bbb9ebc390669668c506dfd6bf4edbfa32358126170dcb6282367"), looks := true }, kinds := [], alts := [], laidByText := true, laidKinds := [.data, .data, .data, .data, .sentinel, .sentinel, .data, .data], laidTests := true, laidLooks := .later }
def DayformBackCardSaid : Prop := Claim7.holds Tryd.pinned (.plain (OpenSpec.ofChange dayformBackSpec)) dayformBackCard

/-- THE TIED CARD OF 'noonmarklaw06.DayformWeeks'. -/
def dayformWeeksCard : Claim7 := { stood := { row := dayformWeeksRow, standIns := [], harness := (true, "65fbdd1ef18bbb9ebc390669668c506dfd6bf4edbfa32358126170dcb6282367"), looks := true }, kinds := [], alts := [], laidByText := true, laidKinds := [.data, .data, .data, .data, .sentinel, .sentinel, .data, .data], laidTests := true, laidLooks := .later }
def DayformWeeksCardSaid : Prop := Claim7.holds Tryd.pinned (.plain (OpenSpec.ofChange dayformWeeksSpec)) dayformWeeksCard

/-- THE TIED CARD OF 'noonmarklaw06.DayformSides'. -/
def dayformSidesCard : Claim7 := { stood := { row := dayformSidesRow, standIns := [], harness := (true, "65fbdd1ef18bbb9ebc390669668c506dfd6bf4edbfa32358126170dcb6282367"), looks := true }, kinds := [], alts := [], laidByText := true, laidKinds := [.data, .data, .data, .data, .sentinel, .sentinel, .data, .data], laidTests := true, laidLooks := .later }
def DayformSidesCardSaid : Prop := Claim7.holds Tryd.pinned (.plain (OpenSpec.ofChange dayformSidesSpec)) dayformSidesCard

/-- THE SECOND FORM's CARD OF 'noonmarklaw06.DayformTexts'. -/
def dayformTextsUptoCard : Claim7 := { stood := { row := dayformTextsUptoRow, standIns := [], harness := (true, "65fbdd1ef18bbb9ebc390669668c506dfd6bf4edbfa32358126170dcb6282367"), looks := true }, kinds := [], alts := [], laidByText := true, laidKinds := [.data, .data, .data, .data, .sentinel, .sentinel, .data, .data], laidTests := true, laidLooks := .later }
def DayformTextsUptoCardSaid : Prop := Claim7.holds Tryd.pinned (.plain (OpenSpec.upto dayformTextsSpec)) dayformTextsUptoCard

/-- THE SECOND FORM's CARD OF 'noonmarklaw06.DayformBack'. -/
def dayformBackUptoCard : Claim7 := { stood := { row := dayformBackUptoRow, standIns := [], harness := (true, "65fbdd1ef18bbb9ebc390669668c506dfd6bf4edbfa32358126170dcb6282367"), looks := true }, kinds := [], alts := [], laidByText := true, laidKinds := [.data, .data, .data, .data, .sentinel, .sentinel, .data, .data], laidTests := true, laidLooks := .later }
def DayformBackUptoCardSaid : Prop := Claim7.holds Tryd.pinned (.plain (OpenSpec.upto dayformBackSpec)) dayformBackUptoCard

/-- THE SECOND FORM's CARD OF 'noonmarklaw06.DayformWeeks'. -/
def dayformWeeksUptoCard : Claim7 := { stood := { row := dayformWeeksUptoRow, standIns := [], harness := (true, "65fbdd1ef18bbb9ebc390669668c506dfd6bf4edbfa32358126170dcb6282367"), looks := true }, kinds := [], alts := [], laidByText := true, laidKinds := [.data, .data, .data, .data, .sentinel, .sentinel, .data, .data], laidTests := true, laidLooks := .later }
def DayformWeeksUptoCardSaid : Prop := Claim7.holds Tryd.pinned (.plain (OpenSpec.upto dayformWeeksSpec)) dayformWeeksUptoCard

/-- THE SECOND FORM's CARD OF 'noonmarklaw06.DayformSides'. -/
def dayformSidesUptoCard : Claim7 := { stood := { row := dayformSidesUptoRow, standIns := [], harness := (true, "65fbdd1ef18bbb9ebc390669668c506dfd6bf4edbfa32358126170dcb6282367"), looks := true }, kinds := [], alts := [], laidByText := true, laidKinds := [.data, .data, .data, .data, .sentinel, .sentinel, .data, .data], laidTests := true, laidLooks := .later }
def DayformSidesUptoCardSaid : Prop := Claim7.holds Tryd.pinned (.plain (OpenSpec.upto dayformSidesSpec)) dayformSidesUptoCard
end Rows
end Go.Proofs.YtofabgllfjmaaaaDoor
