/-
  DERIVED. GIVEN WITH THE SEED: THE CARDS: each row of YtpjmmnhmhjpkkaaDoorRows.lean that lists a variable, with what it lists TIED to the program's text (the seventh form; the later family's looks); each row that meets fmt, with fmt's text TOLD by the authors' own Lean function (tested against real Go, not proved from fmt's source: count such statements apart). THE CARD IS WHAT COUNTS. Prove the row's statement (the work); the ties are given (YtpjmmnhmhjpkkaaDoorTie.lean); close each card by the builder's one call (the guide's Derived/Test/ToyasCard.lean, 'card_holds'). Laid BY PROGRAM, IN A SANDBOX (cutbox-door.mjs). By AI agents, Wed Nov 11 2026. No macro, syntax, notation, axiom, sorry.
-/
import Derived.Test.YtpjmmnhmhjpkkaaDoorRows
import GoSem.ClaimSeven
namespace Go.Proofs.YtpjmmnhmhjpkkaaDoor
namespace Rows

/-- THE TIED CARD OF 'noonmarklaw15.DenEras'. -/
def denErasCard : Claim7 := { stood := { row := denErasRow, standIns := [], harness := (true, "bd5e67e720063930f88950cbe5a322377d00626caf1df49dc0b612ff1e6cf44c"), looks := false }, kinds := [], alts := [], laidByText := true, laidKinds := [.data], laidTests := true, laidLooks := .later }
def DenErasCardSaid : Prop := Claim7.holds Tryd.pinned (.plain (OpenSpec.ofChange denErasSpec)) denErasCard

/-- THE TIED CARD OF 'noonmarklaw15.DenPlain'. -/
def denPlainCard : Claim7 := { stood := { row := denPlainRow, standIns := [], harness := (true, "bd5e67e720063930f88950cbe5a322377d00626caf1df49dc0b612ff1e6cf44c"), looks := false }, kinds := [], alts := [], laidByText := true, laidKinds := [.data], laidTests := true, laidLooks := .later }
def DenPlainCardSaid : Prop := Claim7.holds Tryd.pinned (.plain (OpenSpec.ofChange denPlainSpec)) denPlainCard

/-- THE SECOND FORM's CARD OF 'noonmarklaw15.DenEras'. -/
def denErasUptoCard : Claim7 := { stood := { row := denErasUptoRow, standIns := [], harness := (true, "bd5e67e720063930f88950cbe5a322377d00626caf1df49dc0b612ff1e6cf44c"), looks := false }, kinds := [], alts := [], laidByText := true, laidKinds := [.data], laidTests := true, laidLooks := .later }
def DenErasUptoCardSaid : Prop := Claim7.holds Tryd.pinned (.plain (OpenSpec.upto denErasSpec)) denErasUptoCard

/-- THE SECOND FORM's CARD OF 'noonmarklaw15.DenPlain'. -/
def denPlainUptoCard : Claim7 := { stood := { row := denPlainUptoRow, standIns := [], harness := (true, "bd5e67e720063930f88950cbe5a322377d00626caf1df49dc0b612ff1e6cf44c"), looks := false }, kinds := [], alts := [], laidByText := true, laidKinds := [.data], laidTests := true, laidLooks := .later }
def DenPlainUptoCardSaid : Prop := Claim7.holds Tryd.pinned (.plain (OpenSpec.upto denPlainSpec)) denPlainUptoCard
end Rows
end Go.Proofs.YtpjmmnhmhjpkkaaDoor
