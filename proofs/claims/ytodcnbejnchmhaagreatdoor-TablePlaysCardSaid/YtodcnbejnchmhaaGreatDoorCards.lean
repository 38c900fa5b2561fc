/-
  DERIVED. GIVEN WITH THE SEED: THE CARDS: each row of YtodcnbejnchmhaaGreatDoorRows.lean that lists a variable, with what it lists TIED to the program's text (the seventh form; the later family's looks); each row that meets fmt, with fmt's text TOLD by the authors' own Lean function (tested against real Go, not proved from fmt's source: count such statements apart). THE CARD IS WHAT COUNTS. Prove the row's statement (the work); the ties are given (YtodcnbejnchmhaaGreatDoorTie.lean); close each card by the builder's one call (the guide's Derived/Test/ToyasCard.lean, 'card_holds'). Laid BY PROGRAM, IN A SANDBOX (cutbox-door.mjs). By AI agents, Wed Nov 11 2026. No macro, syntax, notation, axiom, sorry.
-/
import Derived.Test.YtodcnbejnchmhaaGreatDoorRows
import GoSem.ClaimSeven
namespace Go.Proofs.YtodcnbejnchmhaaGreatDoor
namespace Rows

/-- THE TIED CARD OF 'noonmarklaw11.TablePlays'. -/
def tablePlaysCard : Claim7 := { stood := { row := tablePlaysRow, standIns := [], harness := (true, "109248570775b442f0033c3ce7b1a09d03129fba703a364f05e9da389c1f1eb3"), looks := true }, kinds := [], alts := [], laidByText := true, laidKinds := [.data, .data, .data, .data, .data, .sentinel, .sentinel, .data, .data, .data, .data, .pinned], laidTests := true, laidLooks := .later }
def TablePlaysCardSaid : Prop := Claim7.holds Tryz.pinned (.plain (OpenSpec.ofChange tablePlaysSpec)) tablePlaysCard

/-- THE TIED CARD OF 'noonmarklaw11.TableGreat'. -/
def tableGreatCard : Claim7 := { stood := { row := tableGreatRow, standIns := [], harness := (true, "109248570775b442f0033c3ce7b1a09d03129fba703a364f05e9da389c1f1eb3"), looks := true }, kinds := [], alts := [], laidByText := true, laidKinds := [.data, .data, .data, .data, .data, .sentinel, .sentinel, .data, .data, .data, .data, .pinned], laidTests := true, laidLooks := .later }
def TableGreatCardSaid : Prop := Claim7.holds Tryz.pinned (.plain (OpenSpec.ofChange tableGreatSpec)) tableGreatCard

/-- THE TIED CARD OF 'noonmarklaw11.TableFresh'. -/
def tableFreshCard : Claim7 := { stood := { row := tableFreshRow, standIns := [], harness := (true, "109248570775b442f0033c3ce7b1a09d03129fba703a364f05e9da389c1f1eb3"), looks := true }, kinds := [], alts := [], laidByText := true, laidKinds := [.data, .data, .data, .data, .data, .sentinel, .sentinel, .data, .data, .data, .data, .pinned], laidTests := true, laidLooks := .later }
def TableFreshCardSaid : Prop := Claim7.holds Tryz.pinned (.plain (OpenSpec.ofChange tableFreshSpec)) tableFreshCard

/-- THE TIED CARD OF 'noonmarklaw11.TableFew'. -/
def tableFewCard : Claim7 := { stood := { row := tableFewRow, standIns := [], harness := (true, "109248570775b442f0033c3ce7b1a09d03129fba703a364f05e9da389c1f1eb3"), looks := true }, kinds := [], alts := [], laidByText := true, laidKinds := [.data, .data, .data, .data, .data, .sentinel, .sentinel, .data, .data, .data, .data, .pinned], laidTests := true, laidLooks := .later }
def TableFewCardSaid : Prop := Claim7.holds Tryz.pinned (.plain (OpenSpec.ofChange tableFewSpec)) tableFewCard

/-- THE TIED CARD OF 'noonmarklaw11.TableBack'. -/
def tableBackCard : Claim7 := { stood := { row := tableBackRow, standIns := [], harness := (true, "109248570775b442f0033c3ce7b1a09d03129fba703a364f05e9da389c1f1eb3"), looks := true }, kinds := [], alts := [], laidByText := true, laidKinds := [.data, .data, .data, .data, .data, .sentinel, .sentinel, .data, .data, .data, .data, .pinned], laidTests := true, laidLooks := .later }
def TableBackCardSaid : Prop := Claim7.holds Tryz.pinned (.plain (OpenSpec.ofChange tableBackSpec)) tableBackCard

/-- THE TIED CARD OF 'noonmarklaw11.TableNils'. -/
def tableNilsCard : Claim7 := { stood := { row := tableNilsRow, standIns := [], harness := (true, "109248570775b442f0033c3ce7b1a09d03129fba703a364f05e9da389c1f1eb3"), looks := true }, kinds := [], alts := [], laidByText := true, laidKinds := [.data, .data, .data, .data, .data, .sentinel, .sentinel, .data, .data, .data, .data, .pinned], laidTests := true, laidLooks := .later }
def TableNilsCardSaid : Prop := Claim7.holds Tryz.pinned (.plain (OpenSpec.ofChange tableNilsSpec)) tableNilsCard

/-- THE SECOND FORM's CARD OF 'noonmarklaw11.TablePlays'. -/
def tablePlaysUptoCard : Claim7 := { stood := { row := tablePlaysUptoRow, standIns := [], harness := (true, "109248570775b442f0033c3ce7b1a09d03129fba703a364f05e9da389c1f1eb3"), looks := true }, kinds := [], alts := [], laidByText := true, laidKinds := [.data, .data, .data, .data, .data, .sentinel, .sentinel, .data, .data, .data, .data, .pinned], laidTests := true, laidLooks := .later }
def TablePlaysUptoCardSaid : Prop := Claim7.holds Tryz.pinned (.plain (OpenSpec.upto tablePlaysSpec)) tablePlaysUptoCard

/-- THE SECOND FORM's CARD OF 'noonmarklaw11.TableGreat'. -/
def tableGreatUptoCard : Claim7 := { stood := { row := tableGreatUptoRow, standIns := [], harness := (true, "109248570775b442f0033c3ce7b1a09d03129fba703a364f05e9da389c1f1eb3"), looks := true }, kinds := [], alts := [], laidByText := true, laidKinds := [.data, .data, .data, .data, .data, .sentinel, .sentinel, .data, .data, .data, .data, .pinned], laidTests := true, laidLooks := .later }
def TableGreatUptoCardSaid : Prop := Claim7.holds Tryz.pinned (.plain (OpenSpec.upto tableGreatSpec)) tableGreatUptoCard

/-- THE SECOND FORM's CARD OF 'noonmarklaw11.TableFresh'. -/
def tableFreshUptoCard : Claim7 := { stood := { row := tableFreshUptoRow, standIns := [], harness := (true, "109248570775b442f0033c3ce7b1a09d03129fba703a364f05e9da389c1f1eb3"), looks := true }, kinds := [], alts := [], laidByText := true, laidKinds := [.data, .data, .data, .data, .data, .sentinel, .sentinel, .data, .data, .data, .data, .pinned], laidTests := true, laidLooks := .later }
def TableFreshUptoCardSaid : Prop := Claim7.holds Tryz.pinned (.plain (OpenSpec.upto tableFreshSpec)) tableFreshUptoCard

/-- THE SECOND FORM's CARD OF 'noonmarklaw11.TableFew'. -/
def tableFewUptoCard : Claim7 := { stood := { row := tableFewUptoRow, standIns := [], harness := (true, "109248570775b442f0033c3ce7b1a09d03129fba703a364f05e9da389c1f1eb3"), looks := true }, kinds := [], alts := [], laidByText := true, laidKinds := [.data, .data, .data, .data, .data, .sentinel, .sentinel, .data, .data, .data, .data, .pinned], laidTests := true, laidLooks := .later }
def TableFewUptoCardSaid : Prop := Claim7.holds Tryz.pinned (.plain (OpenSpec.upto tableFewSpec)) tableFewUptoCard

/-- THE SECOND FORM's CARD OF 'noonmarklaw11.TableBack'. -/
def tableBackUptoCard : Claim7 := { stood := { row := tableBackUptoRow, standIns := [], harness := (true, "109248570775b442f0033c3ce7b1a09d03129fba703a364f05e9da389c1f1eb3"), looks := true }, kinds := [], alts := [], laidByText := true, laidKinds := [.data, .data, .data, .data, .data, .sentinel, .sentinel, .data, .data, .data, .data, .pinned], laidTests := true, laidLooks := .later }
def TableBackUptoCardSaid : Prop := Claim7.holds Tryz.pinned (.plain (OpenSpec.upto tableBackSpec)) tableBackUptoCard

/-- THE SECOND FORM's CARD OF 'noonmarklaw11.TableNils'. -/
def tableNilsUptoCard : Claim7 := { stood := { row := tableNilsUptoRow, standIns := [], harness := (true, "109248570775b442f0033c3ce7b1a09d03129fba703a364f05e9da389c1f1eb3"), looks := true }, kinds := [], alts := [], laidByText := true, laidKinds := [.data, .data, .data, .data, .data, .sentinel, .sentinel, .data, .data, .data, .data, .pinned], laidTests := true, laidLooks := .later }
def TableNilsUptoCardSaid : Prop := Claim7.holds Tryz.pinned (.plain (OpenSpec.upto tableNilsSpec)) tableNilsUptoCard
end Rows
end Go.Proofs.YtodcnbejnchmhaaGreatDoor
