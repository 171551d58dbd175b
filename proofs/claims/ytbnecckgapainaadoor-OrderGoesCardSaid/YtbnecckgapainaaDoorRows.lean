/-
  NARROWER THAN 'FOR EVERY INPUT', by the rows' own cells (each row's printed sentence says how): OrderGoes: laid · DenyChecks: laid.
  DERIVED. THE GIVEN ROWS OF THIS SEAT. 2 by the template 'for every input the law returns true; each argument reads behind the call as it read before'; 0 by the template 'total and deterministic' (their statements: YtbnecckgapainaaDoorTotals.lean).
  GIVEN WITH THE SEED: the statements are not yours to turn. If you find one false, say at which input.
  Laid BY PROGRAM, IN A SANDBOX (cutbox-rows.mjs): the forced cells as the released guide's own fill.sh prints them over the translation 4cbd27f14c43e6bb… (all of the seat's roots in one cut). By AI agents, Wed Nov 11 2026. No macro, syntax, notation, axiom, sorry.
-/
import Derived.Test.YtbnecckgapainaaDoorChecked
import GoSem.Claim
import GoSem.ClaimJoined
import GoSem.ClaimMapViews
import Derived.JoinedTies
import Derived.KernelRfl
namespace Go.Proofs.YtbnecckgapainaaDoor
/- THE CELL 'sum', in the pinned program and in every row, IS THE sha256 OF THE DUMP (.gsa) THAT YtbnecckgapainaaDoorProg.lean LOADS. Nothing in Lean hashes anything: it is a label: what it is worth is what the hold of that sum in a sandbox is worth. -/
noncomputable def Tryd.pinned : Pinned := { name := "ytbnecckgapainaadoor", sum := "4cbd27f14c43e6bb9acda29a256c98dd60ebd5628e7d4a556e972d99659d3f49", checked := Tryd.checked }
namespace Rows
def none {H : Type} : Left H := { results := [], args := [] }

/- WHAT THE LISTED PACKAGE-LEVEL VARIABLES READ AS WHEN THE CALL BEGINS. Each datum BY PROGRAM (the guide's laid-datum.mjs) off the statement by which the dump's own 'gosem.cut.vars' lays the variable. In a bare row this is a premise. The card (YtbnecckgapainaaDoorCards.lean) ties it to the program's text. -/
def laid_shibboleth_order_phaseNames {H : Type} : DataW H := .agg [.lit (.string [108, 105, 110, 101]), .lit (.string [105, 110, 105, 116]), .lit (.string [107, 101, 120]), .lit (.string [110, 101, 119]), .lit (.string [111, 112, 101, 110]), .lit (.string [100, 101, 97, 100])]
def laid_shibboleth_order_verdictNames {H : Type} : DataW H := .agg [.lit (.string [119, 114, 111, 110, 103]), .lit (.string [116, 97, 107, 101]), .lit (.string [112, 97, 115, 115]), .lit (.string [115, 116, 114, 97, 110, 103, 101]), .lit (.string [99, 108, 111, 115, 101])]
def laid_errors_errorType {H : Type} : DataW H := .iface "internal/reflectlite.rtype" (.agg [.ptr (.lit (.string [101, 114, 114, 111, 114]))])

/-- 'shibbolethlaw23.OrderGoes': WHATEVER THE INPUT: true; the input reads as it did. -/
def orderGoesSpec : ChangeSpec := { name := "orderGoes", fn := fun _ => fun
  | [d1, d2] => { results := [.lit (.bool true)], args := [d1, d2] }
  | _ => none }
def orderGoesRow : OpenClaim := { program := "ytbnecckgapainaadoor", sum := "4cbd27f14c43e6bb9acda29a256c98dd60ebd5628e7d4a556e972d99659d3f49", func := "shibboleth/shibbolethlaw23.OrderGoes", spec := "orderGoes", named := ["shibboleth/order.phaseNames", "shibboleth/order.verdictNames"], apart := false, laid := [("shibboleth/order.phaseNames", laid_shibboleth_order_phaseNames), ("shibboleth/order.verdictNames", laid_shibboleth_order_verdictNames)] }
def OrderGoesSaid : Prop := orderGoesRow.holds Tryd.pinned (OpenSpec.ofChange orderGoesSpec)

/-- ITS FALSE NEIGHBOUR: 'it returns false'. Refute it at one input. -/
def orderGoesWrong : ChangeSpec := { name := "orderGoes", fn := fun _ => fun
  | [d1, d2] => { results := [.lit (.bool false)], args := [d1, d2] }
  | _ => none }
def OrderGoesWrongFalsely : Prop := orderGoesRow.holds Tryd.pinned (OpenSpec.ofChange orderGoesWrong)

/-- 'shibbolethlaw24.DenyChecks': WHATEVER THE INPUT: true; the input reads as it did. -/
def denyChecksSpec : ChangeSpec := { name := "denyChecks", fn := fun _ => fun
  | [d1, d2] => { results := [.lit (.bool true)], args := [d1, d2] }
  | _ => none }
def denyChecksRow : OpenClaim := { program := "ytbnecckgapainaadoor", sum := "4cbd27f14c43e6bb9acda29a256c98dd60ebd5628e7d4a556e972d99659d3f49", func := "shibboleth/shibbolethlaw24.DenyChecks", spec := "denyChecks", inPlace := ["internal/reflectlite.ValueOf", "(internal/reflectlite.Value).Type", "(internal/reflectlite.Value).IsNil", "internal/reflectlite.TypeOf", "(internal/reflectlite.Value).Elem", "(internal/reflectlite.Value).Set"], unfollowed := true, recurses := true, named := ["errors.errorType"], apart := false, laid := [("errors.errorType", laid_errors_errorType)] }
def DenyChecksSaid : Prop := denyChecksRow.holds Tryd.pinned (OpenSpec.ofChange denyChecksSpec)

/-- ITS FALSE NEIGHBOUR: 'it returns false'. Refute it at one input. -/
def denyChecksWrong : ChangeSpec := { name := "denyChecks", fn := fun _ => fun
  | [d1, d2] => { results := [.lit (.bool false)], args := [d1, d2] }
  | _ => none }
def DenyChecksWrongFalsely : Prop := denyChecksRow.holds Tryd.pinned (OpenSpec.ofChange denyChecksWrong)

/- THE SECOND FORM. 'bulk': how many values and letters a reading holds, each counted each time it is reached (what is shared counts as often as it is met; a slice's spare places count too). A statement '..UptoSaid' is the law's where the arguments, and the package variables that the reading takes, are together of bulk at most 1048576: NARROWER than '..Said'. Prove '..Said' where nothing that the law and all that it calls make is longer than what came in: it says more and counts as full. Else prove '..UptoSaid'. A law counts once. -/
mutual
def uptoBulk {H : Type} : DataW H → Nat
  | .lit (.string bytes) => bytes.length + 1
  | .lit _ => 1
  | .nil => 1
  | .ptr d => uptoBulk d + 1
  | .slice elems spare => uptoBulkAll elems + uptoBulkAll spare + 1
  | .agg parts => uptoBulkAll parts + 1
  | .iface _ d => uptoBulk d + 1
  | .map entries => uptoBulkEntries entries + 1
  | .held _ => 1
def uptoBulkAll {H : Type} : List (DataW H) → Nat
  | [] => 0
  | d :: r => uptoBulk d + uptoBulkAll r
def uptoBulkEntries {H : Type} : List (Lit × DataW H) → Nat
  | [] => 0
  | x :: r => uptoBulkEntry x + uptoBulkEntries r
def uptoBulkEntry {H : Type} : Lit × DataW H → Nat
  | (.string bytes, d) => bytes.length + uptoBulk d + 1
  | (_, d) => uptoBulk d + 1
 end
def uptoSmall : (H : Type) → List (DataW H) → Bool := fun _ ds => decide (uptoBulkAll ds ≤ 1048576)
def OpenSpec.upto (s : _root_.Go.ChangeSpec) : _root_.Go.OpenSpec := { _root_.Go.OpenSpec.ofChange s with cond := some uptoSmall }

/-- 'shibbolethlaw23.OrderGoes', WHERE WHAT IT READS IS OF BULK AT MOST 1048576: true; the input reads as it did. -/
def orderGoesUptoRow : OpenClaim := { program := "ytbnecckgapainaadoor", sum := "4cbd27f14c43e6bb9acda29a256c98dd60ebd5628e7d4a556e972d99659d3f49", func := "shibboleth/shibbolethlaw23.OrderGoes", spec := "orderGoes", named := ["shibboleth/order.phaseNames", "shibboleth/order.verdictNames"], apart := false, laid := [("shibboleth/order.phaseNames", laid_shibboleth_order_phaseNames), ("shibboleth/order.verdictNames", laid_shibboleth_order_verdictNames)], narrowed := true }
def OrderGoesUptoSaid : Prop := orderGoesUptoRow.holds Tryd.pinned (OpenSpec.upto orderGoesSpec)

/-- 'shibbolethlaw24.DenyChecks', WHERE WHAT IT READS IS OF BULK AT MOST 1048576: true; the input reads as it did. -/
def denyChecksUptoRow : OpenClaim := { program := "ytbnecckgapainaadoor", sum := "4cbd27f14c43e6bb9acda29a256c98dd60ebd5628e7d4a556e972d99659d3f49", func := "shibboleth/shibbolethlaw24.DenyChecks", spec := "denyChecks", inPlace := ["internal/reflectlite.ValueOf", "(internal/reflectlite.Value).Type", "(internal/reflectlite.Value).IsNil", "internal/reflectlite.TypeOf", "(internal/reflectlite.Value).Elem", "(internal/reflectlite.Value).Set"], unfollowed := true, recurses := true, named := ["errors.errorType"], apart := false, laid := [("errors.errorType", laid_errors_errorType)], narrowed := true }
def DenyChecksUptoSaid : Prop := denyChecksUptoRow.holds Tryd.pinned (OpenSpec.upto denyChecksSpec)

end Rows
end Go.Proofs.YtbnecckgapainaaDoor
