/-
  DERIVED. GIVEN WITH THE SEED: THE CARDS: each row of YtbolgodoifbnnaaDoorRows.lean that lists a variable, with what it lists TIED to the program's text (the seventh form; the later family's looks); each row that meets fmt, with fmt's text TOLD by the authors' own Lean function (tested against real Go, not proved from fmt's source: count such statements apart). THE CARD IS WHAT COUNTS. Prove the row's statement (the work); the ties are given (YtbolgodoifbnnaaDoorTie.lean); close each card by the builder's one call (the guide's Derived/Test/ToyasCard.lean, 'card_holds'). Laid BY PROGRAM, IN A SANDBOX (cutbox-door.mjs). By AI agents, Wed Nov 11 2026. No macro, syntax, notation, axiom, sorry.
-/
import Derived.Test.YtbolgodoifbnnaaDoorRows
import GoSem.ClaimSeven
namespace Go.Proofs.YtbolgodoifbnnaaDoor
namespace Rows

/-- THE TIED CARD OF 'noonmarklaw02.EscapeInts'. -/
def escapeIntsCard : Claim7 := { stood := { row := escapeIntsRow, standIns := [], harness := (true, "a345da3e073f00ad82e096642681a913c90013fe409994e6a6e6e6f48c219343"), looks := true }, kinds := [], alts := [], laidByText := true, laidKinds := [.data, .data, .data, .sentinel, .sentinel], laidTests := true, laidLooks := .later }
def EscapeIntsCardSaid : Prop := Claim7.holds Tryd.pinned (.plain (OpenSpec.ofChange escapeIntsSpec)) escapeIntsCard

/-- THE TIED CARD OF 'noonmarklaw02.EscapeBack'. -/
def escapeBackCard : Claim7 := { stood := { row := escapeBackRow, standIns := [], harness := (true, "a345da3e073f00ad82e096642681a913c90013fe409994e6a6e6e6f48c219343"), looks := true }, kinds := [], alts := [], laidByText := true, laidKinds := [.data, .data, .data, .sentinel, .sentinel], laidTests := true, laidLooks := .later }
def EscapeBackCardSaid : Prop := Claim7.holds Tryd.pinned (.plain (OpenSpec.ofChange escapeBackSpec)) escapeBackCard

/-- THE TIED CARD OF 'noonmarklaw02.EscapeOne'. -/
def escapeOneCard : Claim7 := { stood := { row := escapeOneRow, standIns := [], harness := (true, "a345da3e073f00ad82e096642681a913c90013fe409994e6a6e6e6f48c219343"), looks := true }, kinds := [], alts := [], laidByText := true, laidKinds := [.data, .data, .data, .sentinel, .sentinel], laidTests := true, laidLooks := .later }
def EscapeOneCardSaid : Prop := Claim7.holds Tryd.pinned (.plain (OpenSpec.ofChange escapeOneSpec)) escapeOneCard

/-- THE TIED CARD OF 'noonmarklaw02.EscapeOrder'. -/
def escapeOrderCard : Claim7 := { stood := { row := escapeOrderRow, standIns := [], harness := (true, "a345da3e073f00ad82e096642681a913c90013fe409994e6a6e6e6f48c219343"), looks := true }, kinds := [], alts := [], laidByText := true, laidKinds := [.data, .data, .data, .sentinel, .sentinel], laidTests := true, laidLooks := .later }
def EscapeOrderCardSaid : Prop := Claim7.holds Tryd.pinned (.plain (OpenSpec.ofChange escapeOrderSpec)) escapeOrderCard

/-- THE SECOND FORM's CARD OF 'noonmarklaw02.EscapeInts'. -/
def escapeIntsUptoCard : Claim7 := { stood := { row := escapeIntsUptoRow, standIns := [], harness := (true, "a345da3e073f00ad82e096642681a913c90013fe409994e6a6e6e6f48c219343"), looks := true }, kinds := [], alts := [], laidByText := true, laidKinds := [.data, .data, .data, .sentinel, .sentinel], laidTests := true, laidLooks := .later }
def EscapeIntsUptoCardSaid : Prop := Claim7.holds Tryd.pinned (.plain (OpenSpec.upto escapeIntsSpec)) escapeIntsUptoCard

/-- THE SECOND FORM's CARD OF 'noonmarklaw02.EscapeBack'. -/
def escapeBackUptoCard : Claim7 := { stood := { row := escapeBackUptoRow, standIns := [], harness := (true, "a345da3e073f00ad82e096642681a913c90013fe409994e6a6e6e6f48c219343"), looks := true }, kinds := [], alts := [], laidByText := true, laidKinds := [.data, .data, .data, .sentinel, .sentinel], laidTests := true, laidLooks := .later }
def EscapeBackUptoCardSaid : Prop := Claim7.holds Tryd.pinned (.plain (OpenSpec.upto escapeBackSpec)) escapeBackUptoCard

/-- THE SECOND FORM's CARD OF 'noonmarklaw02.EscapeOne'. -/
def escapeOneUptoCard : Claim7 := { stood := { row := escapeOneUptoRow, standIns := [], harness := (true, "a345da3e073f00ad82e096642681a913c90013fe409994e6a6e6e6f48c219343"), looks := true }, kinds := [], alts := [], laidByText := true, laidKinds := [.data, .data, .data, .sentinel, .sentinel], laidTests := true, laidLooks := .later }
def EscapeOneUptoCardSaid : Prop := Claim7.holds Tryd.pinned (.plain (OpenSpec.upto escapeOneSpec)) escapeOneUptoCard

/-- THE SECOND FORM's CARD OF 'noonmarklaw02.EscapeOrder'. -/
def escapeOrderUptoCard : Claim7 := { stood := { row := escapeOrderUptoRow, standIns := [], harness := (true, "a345da3e073f00ad82e096642681a913c90013fe409994e6a6e6e6f48c219343"), looks := true }, kinds := [], alts := [], laidByText := true, laidKinds := [.data, .data, .data, .sentinel, .sentinel], laidTests := true, laidLooks := .later }
def EscapeOrderUptoCardSaid : Prop := Claim7.holds Tryd.pinned (.plain (OpenSpec.upto escapeOrderSpec)) escapeOrderUptoCard
end Rows
end Go.Proofs.YtbolgodoifbnnaaDoor
