/-
  DERIVED. GIVEN WITH THE SEED: THE CARDS: each row of YtghcfmoagkimaaaGreatDoorRows.lean that lists a variable, with what it lists TIED to the program's text (the seventh form; the later family's looks); each row that meets fmt, with fmt's text TOLD by the authors' own Lean function (tested against real Go, not proved from fmt's source: count such statements apart). THE CARD IS WHAT COUNTS. Prove the row's statement (the work); the ties are given (YtghcfmoagkimaaaGreatDoorTie.lean); close each card by the builder's one call (the guide's Derived/Test/ToyasCard.lean, 'card_holds'). Laid BY PROGRAM, IN A SANDBOX (cutbox-door.mjs). By AI agents, Wed Nov 11 2026. No macro, syntax, notation, axiom, sorry.
-/
import Derived.Test.YtghcfmoagkimaaaGreatDoorRows
import GoSem.ClaimSeven
namespace Go.Proofs.YtghcfmoagkimaaaGreatDoor
namespace Rows

/-- THE TIED CARD OF 'noonmarklaw16.FormatAts'. -/
def formatAtsCard : Claim7 := { stood := { row := formatAtsRow, standIns := [], harness := (true, "713d4a9cd7a6800152b6492ab5de6131520dada9f8d3849b1d463632278fd317"), looks := false }, kinds := [], alts := [], laidByText := true, laidKinds := [.data, .data, .pinned], laidTests := true, laidLooks := .later }
def FormatAtsCardSaid : Prop := Claim7.holds Tryz.pinned (.plain (OpenSpec.ofChange formatAtsSpec)) formatAtsCard

/-- THE TIED CARD OF 'noonmarklaw16.FormatOffsets'. -/
def formatOffsetsCard : Claim7 := { stood := { row := formatOffsetsRow, standIns := [], harness := (true, "713d4a9cd7a6800152b6492ab5de6131520dada9f8d3849b1d463632278fd317"), looks := false }, kinds := [], alts := [], laidByText := true, laidKinds := [.data, .data, .pinned], laidTests := true, laidLooks := .later }
def FormatOffsetsCardSaid : Prop := Claim7.holds Tryz.pinned (.plain (OpenSpec.ofChange formatOffsetsSpec)) formatOffsetsCard

/-- THE SECOND FORM's CARD OF 'noonmarklaw16.FormatAts'. -/
def formatAtsUptoCard : Claim7 := { stood := { row := formatAtsUptoRow, standIns := [], harness := (true, "713d4a9cd7a6800152b6492ab5de6131520dada9f8d3849b1d463632278fd317"), looks := false }, kinds := [], alts := [], laidByText := true, laidKinds := [.data, .data, .pinned], laidTests := true, laidLooks := .later }
def FormatAtsUptoCardSaid : Prop := Claim7.holds Tryz.pinned (.plain (OpenSpec.upto formatAtsSpec)) formatAtsUptoCard

/-- THE SECOND FORM's CARD OF 'noonmarklaw16.FormatOffsets'. -/
def formatOffsetsUptoCard : Claim7 := { stood := { row := formatOffsetsUptoRow, standIns := [], harness := (true, "713d4a9cd7a6800152b6492ab5de6131520dada9f8d3849b1d463632278fd317"), looks := false }, kinds := [], alts := [], laidByText := true, laidKinds := [.data, .data, .pinned], laidTests := true, laidLooks := .later }
def FormatOffsetsUptoCardSaid : Prop := Claim7.holds Tryz.pinned (.plain (OpenSpec.upto formatOffsetsSpec)) formatOffsetsUptoCard
end Rows
end Go.Proofs.YtghcfmoagkimaaaGreatDoor
