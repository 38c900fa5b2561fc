/-
  NARROWER THAN 'FOR EVERY INPUT', by the rows' own cells (each row's printed sentence says how): DenEras: laid · DenPlain: laid.
  DERIVED. THE GIVEN ROWS OF THIS SEAT. 2 by the template 'for every input the law returns true; each argument reads behind the call as it read before'; 0 by the template 'total and deterministic' (their statements: YtpjmmnhmhjpkkaaDoorTotals.lean).
  GIVEN WITH THE SEED: the statements are not yours to turn. If you find one false, say at which input.
  Laid BY PROGRAM, IN A SANDBOX (cutbox-rows.mjs): the forced cells as the released guide's own fill.sh prints them over the translation 4df03e5f69bc265a… (all of the seat's roots in one cut). By AI agents, Wed Nov 11 2026. No macro, syntax, notation, axiom, sorry.
-/
import Derived.Test.YtpjmmnhmhjpkkaaDoorChecked
import GoSem.Claim
import GoSem.ClaimJoined
import GoSem.ClaimMapViews
import Derived.JoinedTies
import Derived.KernelRfl
namespace Go.Proofs.YtpjmmnhmhjpkkaaDoor
/- THE CELL 'sum', in the pinned program and in every row, IS THE sha256 OF THE DUMP (.gsa) THAT YtpjmmnhmhjpkkaaDoorProg.lean LOADS. Nothing in Lean hashes anything: it is a label: what it is worth is what the hold of that sum in a sandbox is worth. -/
noncomputable def Tryd.pinned : Pinned := { name := "ytpjmmnhmhjpkkaadoor", sum := "4df03e5f69bc265aae96e41a2724d5b800bd4f30fc5dca1206f4e91106af40fe", checked := Tryd.checked }
namespace Rows
def none {H : Type} : Left H := { results := [], args := [] }

/- WHAT THE LISTED PACKAGE-LEVEL VARIABLES READ AS WHEN THE CALL BEGINS. Each datum BY PROGRAM (the guide's laid-datum.mjs) off the statement by which the dump's own 'gosem.cut.vars' lays the variable. In a bare row this is a premise. The card (YtpjmmnhmhjpkkaaDoorCards.lean) ties it to the program's text. -/
def laid_noonmark_civil_lengths {H : Type} : DataW H := .agg [.lit (.int .i64 31), .lit (.int .i64 28), .lit (.int .i64 31), .lit (.int .i64 30), .lit (.int .i64 31), .lit (.int .i64 30), .lit (.int .i64 31), .lit (.int .i64 31), .lit (.int .i64 30), .lit (.int .i64 31), .lit (.int .i64 30), .lit (.int .i64 31)]

/-- 'noonmarklaw15.DenEras': WHATEVER THE INPUT: true; the input reads as it did. -/
def denErasSpec : ChangeSpec := { name := "denEras", fn := fun _ => fun
  | [d1, d2, d3] => { results := [.lit (.bool true)], args := [d1, d2, d3] }
  | _ => none }
def denErasRow : OpenClaim := { program := "ytpjmmnhmhjpkkaadoor", sum := "4df03e5f69bc265aae96e41a2724d5b800bd4f30fc5dca1206f4e91106af40fe", func := "noonmark/noonmarklaw15.DenEras", spec := "denEras", unfollowed := true, recurses := true, named := ["noonmark/civil.lengths"], apart := false, laid := [("noonmark/civil.lengths", laid_noonmark_civil_lengths)] }
def DenErasSaid : Prop := denErasRow.holds Tryd.pinned (OpenSpec.ofChange denErasSpec)

/-- ITS FALSE NEIGHBOUR: 'it returns false'. Refute it at one input. -/
def denErasWrong : ChangeSpec := { name := "denEras", fn := fun _ => fun
  | [d1, d2, d3] => { results := [.lit (.bool false)], args := [d1, d2, d3] }
  | _ => none }
def DenErasWrongFalsely : Prop := denErasRow.holds Tryd.pinned (OpenSpec.ofChange denErasWrong)

/-- 'noonmarklaw15.DenPlain': WHATEVER THE INPUT: true; the input reads as it did. -/
def denPlainSpec : ChangeSpec := { name := "denPlain", fn := fun _ => fun
  | [d1, d2, d3, d4] => { results := [.lit (.bool true)], args := [d1, d2, d3, d4] }
  | _ => none }
def denPlainRow : OpenClaim := { program := "ytpjmmnhmhjpkkaadoor", sum := "4df03e5f69bc265aae96e41a2724d5b800bd4f30fc5dca1206f4e91106af40fe", func := "noonmark/noonmarklaw15.DenPlain", spec := "denPlain", unfollowed := true, recurses := true, named := ["noonmark/civil.lengths"], apart := false, laid := [("noonmark/civil.lengths", laid_noonmark_civil_lengths)] }
def DenPlainSaid : Prop := denPlainRow.holds Tryd.pinned (OpenSpec.ofChange denPlainSpec)

/-- ITS FALSE NEIGHBOUR: 'it returns false'. Refute it at one input. -/
def denPlainWrong : ChangeSpec := { name := "denPlain", fn := fun _ => fun
  | [d1, d2, d3, d4] => { results := [.lit (.bool false)], args := [d1, d2, d3, d4] }
  | _ => none }
def DenPlainWrongFalsely : Prop := denPlainRow.holds Tryd.pinned (OpenSpec.ofChange denPlainWrong)

/- THE SECOND FORM. 'bulk': how many values and letters a reading holds, each counted each time it is reached (what is shared counts as often as it is met; a slice's spare places count too). A statement '..UptoSaid' is the law's where the arguments, and the package variables that the reading takes, are together of bulk at most 1048576: NARROWER than '..Said'. Prove '..Said' where nothing that the law and all that it calls make is longer than what came in: it says more and counts as full. Else prove '..UptoSaid'. A law counts once. -/
mutual
def uptoBulk {H : Type} : DataW H → Nat
  | .lit (.string bytes) => bytes.length + 1
  | .lit _ => 1
  | .nil => 1
  | .ptr d => uptoBulk d + 1
  | .slice elems spare => uptoBulkAll elems + uptoBulkAll spare + 1
  | .agg parts => uptoBulkAll parts + 1
  | .iface _ d => uptoBulk d + 1
  | .map entries => uptoBulkEntries entries + 1
  | .held _ => 1
def uptoBulkAll {H : Type} : List (DataW H) → Nat
  | [] => 0
  | d :: r => uptoBulk d + uptoBulkAll r
def uptoBulkEntries {H : Type} : List (Lit × DataW H) → Nat
  | [] => 0
  | x :: r => uptoBulkEntry x + uptoBulkEntries r
def uptoBulkEntry {H : Type} : Lit × DataW H → Nat
  | (.string bytes, d) => bytes.length + uptoBulk d + 1
  | (_, d) => uptoBulk d + 1
 end
def uptoSmall : (H : Type) → List (DataW H) → Bool := fun _ ds => decide (uptoBulkAll ds ≤ 1048576)
def OpenSpec.upto (s : _root_.Go.ChangeSpec) : _root_.Go.OpenSpec := { _root_.Go.OpenSpec.ofChange s with cond := some uptoSmall }

/-- 'noonmarklaw15.DenEras', WHERE WHAT IT READS IS OF BULK AT MOST 1048576: true; the input reads as it did. -/
def denErasUptoRow : OpenClaim := { program := "ytpjmmnhmhjpkkaadoor", sum := "4df03e5f69bc265aae96e41a2724d5b800bd4f30fc5dca1206f4e91106af40fe", func := "noonmark/noonmarklaw15.DenEras", spec := "denEras", unfollowed := true, recurses := true, named := ["noonmark/civil.lengths"], apart := false, laid := [("noonmark/civil.lengths", laid_noonmark_civil_lengths)], narrowed := true }
def DenErasUptoSaid : Prop := denErasUptoRow.holds Tryd.pinned (OpenSpec.upto denErasSpec)

/-- 'noonmarklaw15.DenPlain', WHERE WHAT IT READS IS OF BULK AT MOST 1048576: true; the input reads as it did. -/
def denPlainUptoRow : OpenClaim := { program := "ytpjmmnhmhjpkkaadoor", sum := "4df03e5f69bc265aae96e41a2724d5b800bd4f30fc5dca1206f4e91106af40fe", func := "noonmark/noonmarklaw15.DenPlain", spec := "denPlain", unfollowed := true, recurses := true, named := ["noonmark/civil.lengths"], apart := false, laid := [("noonmark/civil.lengths", laid_noonmark_civil_lengths)], narrowed := true }
def DenPlainUptoSaid : Prop := denPlainUptoRow.holds Tryd.pinned (OpenSpec.upto denPlainSpec)

end Rows
end Go.Proofs.YtpjmmnhmhjpkkaaDoor
