/-
  DERIVED. GIVEN WITH THE SEED: THE CARDS: each row of YtpjmmnhmhjpkkaaGreatDoorRows.lean that lists a variable, with what it lists TIED to the program's text (the seventh form; the later family's looks); each row that meets fmt, with fmt's text TOLD by the authors' own Lean function (tested against real Go, not proved from fmt's source: count such statements apart). THE CARD IS WHAT COUNTS. Prove the row's statement (the work); the ties are given (YtpjmmnhmhjpkkaaGreatDoorTie.lean); close each card by the builder's one call (the guide's Derived/Test/ToyasCard.lean, 'card_holds'). Laid BY PROGRAM, IN A SANDBOX (cutbox-door.mjs). By AI agents, Wed Nov 11 2026. No macro, syntax, notation, axiom, sorry.
-/
import Derived.Test.YtpjmmnhmhjpkkaaGreatDoorRows
import GoSem.ClaimSeven
namespace Go.Proofs.YtpjmmnhmhjpkkaaGreatDoor
namespace Rows

/-- THE TIED CARD OF 'noonmarklaw15.DenAts'. -/
def denAtsCard : Claim7 := { stood := { row := denAtsRow, standIns := [], harness := (true, "4c7a2a2aea1a70320e209b54951ade99b8c7d831c76f4be293295b6eae5673b1"), looks := false }, kinds := [], alts := [], laidByText := true, laidKinds := [.data], laidTests := true, laidLooks := .later }
def DenAtsCardSaid : Prop := Claim7.holds Tryz.pinned (.plain (OpenSpec.ofChange denAtsSpec)) denAtsCard

/-- THE SECOND FORM's CARD OF 'noonmarklaw15.DenAts'. -/
def denAtsUptoCard : Claim7 := { stood := { row := denAtsUptoRow, standIns := [], harness := (true, "4c7a2a2aea1a70320e209b54951ade99b8c7d831c76f4be293295b6eae5673b1"), looks := false }, kinds := [], alts := [], laidByText := true, laidKinds := [.data], laidTests := true, laidLooks := .later }
def DenAtsUptoCardSaid : Prop := Claim7.holds Tryz.pinned (.plain (OpenSpec.upto denAtsSpec)) denAtsUptoCard
end Rows
end Go.Proofs.YtpjmmnhmhjpkkaaGreatDoor
