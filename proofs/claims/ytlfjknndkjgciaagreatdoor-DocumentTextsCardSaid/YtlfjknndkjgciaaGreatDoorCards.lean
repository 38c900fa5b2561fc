/-
  DERIVED. GIVEN WITH THE SEED: THE CARDS: each row of YtlfjknndkjgciaaGreatDoorRows.lean that lists a variable, with what it lists TIED to the program's text (the seventh form; the later family's looks); each row that meets fmt, with fmt's text TOLD by the authors' own Lean function (tested against real Go, not proved from fmt's source: count such statements apart). THE CARD IS WHAT COUNTS. Prove the row's statement (the work); the ties are given (YtlfjknndkjgciaaGreatDoorTie.lean); close each card by the builder's one call (the guide's Derived/Test/ToyasCard.lean, 'card_holds'). Laid BY PROGRAM, IN A SANDBOX (cutbox-door.mjs). By AI agents, Wed Nov 11 2026. No macro, syntax, notation, axiom, sorry.
-/
import Derived.Test.YtlfjknndkjgciaaGreatDoorRows
import GoSem.ClaimSeven
namespace Go.Proofs.YtlfjknndkjgciaaGreatDoor
namespace Rows

/-- THE TIED CARD OF 'noonmarklaw10.DocumentOf'. -/
def documentOfCard : Claim7 := { stood := { row := documentOfRow, standIns := [], harness := (true, "a9704993ab6f5291ee47b61a0e31b3b330e464ccbf9c156a04df2de62eca9b3d"), looks := true }, kinds := [], alts := [], laidByText := true, laidKinds := [.data, .data, .data, .data, .data, .sentinel, .sentinel, .data, .data, .data, .data, .pinned], laidTests := true, laidLooks := .later }
def DocumentOfCardSaid : Prop := Claim7.holds Tryz.pinned (.plain (OpenSpec.ofChange documentOfSpec)) documentOfCard

/-- THE TIED CARD OF 'noonmarklaw10.DocumentTexts'. -/
def documentTextsCard : Claim7 := { stood := { row := documentTextsRow, standIns := [], harness := (true, "a9704993ab6f5291ee47b61a0e31b3b330e464ccbf9c156a04df2de62eca9b3d"), looks := true }, kinds := [], alts := [], laidByText := true, laidKinds := [.data, .data, .data, .data, .data, .sentinel, .sentinel, .data, .data, .data, .data, .pinned], laidTests := true, laidLooks := .later }
def DocumentTextsCardSaid : Prop := Claim7.holds Tryz.pinned (.plain (OpenSpec.ofChange documentTextsSpec)) documentTextsCard

/-- THE TIED CARD OF 'noonmarklaw10.DocumentEmpty'. -/
def documentEmptyCard : Claim7 := { stood := { row := documentEmptyRow, standIns := [], harness := (true, "a9704993ab6f5291ee47b61a0e31b3b330e464ccbf9c156a04df2de62eca9b3d"), looks := true }, kinds := [], alts := [], laidByText := true, laidKinds := [.data, .data, .data, .data, .data, .sentinel, .sentinel, .data, .data, .data, .data, .pinned], laidTests := true, laidLooks := .later }
def DocumentEmptyCardSaid : Prop := Claim7.holds Tryz.pinned (.plain (OpenSpec.ofChange documentEmptySpec)) documentEmptyCard

/-- THE TIED CARD OF 'noonmarklaw10.DocumentCounts'. -/
def documentCountsCard : Claim7 := { stood := { row := documentCountsRow, standIns := [], harness := (true, "a9704993ab6f5291ee47b61a0e31b3b330e464ccbf9c156a04df2de62eca9b3d"), looks := true }, kinds := [], alts := [], laidByText := true, laidKinds := [.data, .data, .data, .data, .data, .sentinel, .sentinel, .data, .data, .data, .data, .pinned], laidTests := true, laidLooks := .later }
def DocumentCountsCardSaid : Prop := Claim7.holds Tryz.pinned (.plain (OpenSpec.ofChange documentCountsSpec)) documentCountsCard

/-- THE TIED CARD OF 'noonmarklaw10.DocumentWhole'. -/
def documentWholeCard : Claim7 := { stood := { row := documentWholeRow, standIns := [], harness := (true, "a9704993ab6f5291ee47b61a0e31b3b330e464ccbf9c156a04df2de62eca9b3d"), looks := true }, kinds := [], alts := [], laidByText := true, laidKinds := [.data, .data, .data, .data, .data, .sentinel, .sentinel, .data, .data, .data, .data, .pinned], laidTests := true, laidLooks := .later }
def DocumentWholeCardSaid : Prop := Claim7.holds Tryz.pinned (.plain (OpenSpec.ofChange documentWholeSpec)) documentWholeCard

/-- THE TIED CARD OF 'noonmarklaw10.DocumentJoins'. -/
def documentJoinsCard : Claim7 := { stood := { row := documentJoinsRow, standIns := [], harness := (true, "a9704993ab6f5291ee47b61a0e31b3b330e464ccbf9c156a04df2de62eca9b3d"), looks := true }, kinds := [], alts := [], laidByText := true, laidKinds := [.data, .data, .data, .data, .data, .sentinel, .sentinel, .data, .data, .data, .data, .pinned], laidTests := true, laidLooks := .later }
def DocumentJoinsCardSaid : Prop := Claim7.holds Tryz.pinned (.plain (OpenSpec.ofChange documentJoinsSpec)) documentJoinsCard

/-- THE SECOND FORM's CARD OF 'noonmarklaw10.DocumentOf'. -/
def documentOfUptoCard : Claim7 := { stood := { row := documentOfUptoRow, standIns := [], harness := (true, "a9704993ab6f5291ee47b61a0e31b3b330e464ccbf9c156a04df2de62eca9b3d"), looks := true }, kinds := [], alts := [], laidByText := true, laidKinds := [.data, .data, .data, .data, .data, .sentinel, .sentinel, .data, .data, .data, .data, .pinned], laidTests := true, laidLooks := .later }
def DocumentOfUptoCardSaid : Prop := Claim7.holds Tryz.pinned (.plain (OpenSpec.upto documentOfSpec)) documentOfUptoCard

/-- THE SECOND FORM's CARD OF 'noonmarklaw10.DocumentTexts'. -/
def documentTextsUptoCard : Claim7 := { stood := { row := documentTextsUptoRow, standIns := [], harness := (true, "a9704993ab6f5291ee47b61a0e31b3b330e464ccbf9c156a04df2de62eca9b3d"), looks := true }, kinds := [], alts := [], laidByText := true, laidKinds := [.data, .data, .data, .data, .data, .sentinel, .sentinel, .data, .data, .data, .data, .pinned], laidTests := true, laidLooks := .later }
def DocumentTextsUptoCardSaid : Prop := Claim7.holds Tryz.pinned (.plain (OpenSpec.upto documentTextsSpec)) documentTextsUptoCard

/-- THE SECOND FORM's CARD OF 'noonmarklaw10.DocumentEmpty'. -/
def documentEmptyUptoCard : Claim7 := { stood := { row := documentEmptyUptoRow, standIns := [], harness := (true, "a9704993ab6f5291ee47b61a0e31b3b330e464ccbf9c156a04df2de62eca9b3d"), looks := true }, kinds := [], alts := [], laidByText := true, laidKinds := [.data, .data, .data, .data, .data, .sentinel, .sentinel, .data, .data, .data, .data, .pinned], laidTests := true, laidLooks := .later }
def DocumentEmptyUptoCardSaid : Prop := Claim7.holds Tryz.pinned (.plain (OpenSpec.upto documentEmptySpec)) documentEmptyUptoCard

/-- THE SECOND FORM's CARD OF 'noonmarklaw10.DocumentCounts'. -/
def documentCountsUptoCard : Claim7 := { stood := { row := documentCountsUptoRow, standIns := [], harness := (true, "a9704993ab6f5291ee47b61a0e31b3b330e464ccbf9c156a04df2de62eca9b3d"), looks := true }, kinds := [], alts := [], laidByText := true, laidKinds := [.data, .data, .data, .data, .data, .sentinel, .sentinel, .data, .data, .data, .data, .pinned], laidTests := true, laidLooks := .later }
def DocumentCountsUptoCardSaid : Prop := Claim7.holds Tryz.pinned (.plain (OpenSpec.upto documentCountsSpec)) documentCountsUptoCard

/-- THE SECOND FORM's CARD OF 'noonmarklaw10.DocumentWhole'. -/
def documentWholeUptoCard : Claim7 := { stood := { row := documentWholeUptoRow, standIns := [], harness := (true, "a9704993ab6f5291ee47b61a0e31b3b330e464ccbf9c156a04df2de62eca9b3d"), looks := true }, kinds := [], alts := [], laidByText := true, laidKinds := [.data, .data, .data, .data, .data, .sentinel, .sentinel, .data, .data, .data, .data, .pinned], laidTests := true, laidLooks := .later }
def DocumentWholeUptoCardSaid : Prop := Claim7.holds Tryz.pinned (.plain (OpenSpec.upto documentWholeSpec)) documentWholeUptoCard

/-- THE SECOND FORM's CARD OF 'noonmarklaw10.DocumentJoins'. -/
def documentJoinsUptoCard : Claim7 := { stood := { row := documentJoinsUptoRow, standIns := [], harness := (true, "a9704993ab6f5291ee47b61a0e31b3b330e464ccbf9c156a04df2de62eca9b3d"), looks := true }, kinds := [], alts := [], laidByText := true, laidKinds := [.data, .data, .data, .data, .data, .sentinel, .sentinel, .data, .data, .data, .data, .pinned], laidTests := true, laidLooks := .later }
def DocumentJoinsUptoCardSaid : Prop := Claim7.holds Tryz.pinned (.plain (OpenSpec.upto documentJoinsSpec)) documentJoinsUptoCard
end Rows
end Go.Proofs.YtlfjknndkjgciaaGreatDoor
