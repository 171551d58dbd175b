/-
  NARROWER THAN 'FOR EVERY INPUT', by the rows' own cells (each row's printed sentence says how): CensusNames: laid · CensusChecks: laid.
  DERIVED. THE GIVEN ROWS OF THIS SEAT. 2 by the template 'for every input the law returns true; each argument reads behind the call as it read before'; 0 by the template 'total and deterministic' (their statements: YtjphlhehhigpjaaDoorTotals.lean).
  GIVEN WITH THE SEED: the statements are not yours to turn. If you find one false, say at which input.
  Laid BY PROGRAM, IN A SANDBOX (cutbox-rows.mjs): the forced cells as the released guide's own fill.sh prints them over the translation 7f044a353aad7828… (all of the seat's roots in one cut). By AI agents, Wed Nov 11 2026. No macro, syntax, notation, axiom, sorry.
-/
import Derived.Test.YtjphlhehhigpjaaDoorChecked
import GoSem.Claim
import GoSem.ClaimJoined
import GoSem.ClaimMapViews
import Derived.JoinedTies
import Derived.KernelRfl
namespace Go.Proofs.YtjphlhehhigpjaaDoor
/- THE CELL 'sum', in the pinned program and in every row, IS THE sha256 OF THE DUMP (.gsa) THAT YtjphlhehhigpjaaDoorProg.lean LOADS. Nothing in Lean hashes anything: it is a label: what it is worth is what the hold of that sum in a sandbox is worth. -/
noncomputable def Tryd.pinned : Pinned := { name := "ytjphlhehhigpjaadoor", sum := "7f044a353aad78286a0d60edfb0d016b92c2146b8114b4f0d1100f77ecf9c015", checked := Tryd.checked }
namespace Rows
def none {H : Type} : Left H := { results := [], args := [] }

/- WHAT THE LISTED PACKAGE-LEVEL VARIABLES READ AS WHEN THE CALL BEGINS. Each datum BY PROGRAM (the guide's laid-datum.mjs) off the statement by which the dump's own 'gosem.cut.vars' lays the variable. In a bare row this is a premise. The card (YtjphlhehhigpjaaDoorCards.lean) ties it to the program's text. -/
def laid_shibboleth_schema_words {H : Type} : DataW H := .agg [.agg [.lit (.int .i64 1), .lit (.string [100, 105, 115, 99, 111, 110, 110, 101, 99, 116])], .agg [.lit (.int .i64 2), .lit (.string [105, 103, 110, 111, 114, 101])], .agg [.lit (.int .i64 3), .lit (.string [117, 110, 105, 109, 112, 108, 101, 109, 101, 110, 116, 101, 100])], .agg [.lit (.int .i64 4), .lit (.string [100, 101, 98, 117, 103])], .agg [.lit (.int .i64 5), .lit (.string [115, 101, 114, 118, 105, 99, 101, 45, 114, 101, 113, 117, 101, 115, 116])], .agg [.lit (.int .i64 6), .lit (.string [115, 101, 114, 118, 105, 99, 101, 45, 97, 99, 99, 101, 112, 116])], .agg [.lit (.int .i64 7), .lit (.string [101, 120, 116, 45, 105, 110, 102, 111])], .agg [.lit (.int .i64 20), .lit (.string [107, 101, 120, 105, 110, 105, 116])], .agg [.lit (.int .i64 21), .lit (.string [110, 101, 119, 107, 101, 121, 115])], .agg [.lit (.int .i64 30), .lit (.string [101, 99, 100, 104, 45, 105, 110, 105, 116])], .agg [.lit (.int .i64 31), .lit (.string [114, 101, 112, 108, 121, 45, 111, 114, 45, 103, 114, 111, 117, 112])], .agg [.lit (.int .i64 32), .lit (.string [103, 101, 120, 45, 105, 110, 105, 116])], .agg [.lit (.int .i64 33), .lit (.string [103, 101, 120, 45, 114, 101, 112, 108, 121])], .agg [.lit (.int .i64 34), .lit (.string [103, 101, 120, 45, 114, 101, 113, 117, 101, 115, 116])], .agg [.lit (.int .i64 50), .lit (.string [117, 115, 101, 114, 97, 117, 116, 104, 45, 114, 101, 113, 117, 101, 115, 116])], .agg [.lit (.int .i64 51), .lit (.string [117, 115, 101, 114, 97, 117, 116, 104, 45, 102, 97, 105, 108, 117, 114, 101])], .agg [.lit (.int .i64 52), .lit (.string [117, 115, 101, 114, 97, 117, 116, 104, 45, 115, 117, 99, 99, 101, 115, 115])], .agg [.lit (.int .i64 53), .lit (.string [117, 115, 101, 114, 97, 117, 116, 104, 45, 98, 97, 110, 110, 101, 114])], .agg [.lit (.int .i64 60), .lit (.string [117, 115, 101, 114, 97, 117, 116, 104, 45, 112, 107, 45, 111, 107])]]
def laid_errors_errorType {H : Type} : DataW H := .iface "internal/reflectlite.rtype" (.agg [.ptr (.lit (.string [101, 114, 114, 111, 114]))])

/-- 'shibbolethlaw37.CensusNames': WHATEVER THE INPUT: true; the input reads as it did. -/
def censusNamesSpec : ChangeSpec := { name := "censusNames", fn := fun _ => fun
  | [d1, d2, d3] => { results := [.lit (.bool true)], args := [d1, d2, d3] }
  | _ => none }
def censusNamesRow : OpenClaim := { program := "ytjphlhehhigpjaadoor", sum := "7f044a353aad78286a0d60edfb0d016b92c2146b8114b4f0d1100f77ecf9c015", func := "shibboleth/shibbolethlaw37.CensusNames", spec := "censusNames", unfollowed := true, recurses := true, named := ["shibboleth/schema.words"], apart := false, laid := [("shibboleth/schema.words", laid_shibboleth_schema_words)] }
def CensusNamesSaid : Prop := censusNamesRow.holds Tryd.pinned (OpenSpec.ofChange censusNamesSpec)

/-- ITS FALSE NEIGHBOUR: 'it returns false'. Refute it at one input. -/
def censusNamesWrong : ChangeSpec := { name := "censusNames", fn := fun _ => fun
  | [d1, d2, d3] => { results := [.lit (.bool false)], args := [d1, d2, d3] }
  | _ => none }
def CensusNamesWrongFalsely : Prop := censusNamesRow.holds Tryd.pinned (OpenSpec.ofChange censusNamesWrong)

/-- 'shibbolethlaw37.CensusChecks': WHATEVER THE INPUT: true; the input reads as it did. -/
def censusChecksSpec : ChangeSpec := { name := "censusChecks", fn := fun _ => fun
  | [d] => { results := [.lit (.bool true)], args := [d] }
  | _ => none }
def censusChecksRow : OpenClaim := { program := "ytjphlhehhigpjaadoor", sum := "7f044a353aad78286a0d60edfb0d016b92c2146b8114b4f0d1100f77ecf9c015", func := "shibboleth/shibbolethlaw37.CensusChecks", spec := "censusChecks", inPlace := ["internal/reflectlite.ValueOf", "(internal/reflectlite.Value).Type", "(internal/reflectlite.Value).IsNil", "internal/reflectlite.TypeOf", "(internal/reflectlite.Value).Elem", "(internal/reflectlite.Value).Set"], unfollowed := true, recurses := true, named := ["errors.errorType"], apart := false, laid := [("errors.errorType", laid_errors_errorType)] }
def CensusChecksSaid : Prop := censusChecksRow.holds Tryd.pinned (OpenSpec.ofChange censusChecksSpec)

/-- ITS FALSE NEIGHBOUR: 'it returns false'. Refute it at one input. -/
def censusChecksWrong : ChangeSpec := { name := "censusChecks", fn := fun _ => fun
  | [d] => { results := [.lit (.bool false)], args := [d] }
  | _ => none }
def CensusChecksWrongFalsely : Prop := censusChecksRow.holds Tryd.pinned (OpenSpec.ofChange censusChecksWrong)

/- THE SECOND FORM. 'bulk': how many values and letters a reading holds, each counted each time it is reached (what is shared counts as often as it is met; a slice's spare places count too). A statement '..UptoSaid' is the law's where the arguments, and the package variables that the reading takes, are together of bulk at most 1048576: NARROWER than '..Said'. Prove '..Said' where nothing that the law and all that it calls make is longer than what came in: it says more and counts as full. Else prove '..UptoSaid'. A law counts once. -/
mutual
def uptoBulk {H : Type} : DataW H → Nat
  | .lit (.string bytes) => bytes.length + 1
  | .lit _ => 1
  | .nil => 1
  | .ptr d => uptoBulk d + 1
  | .slice elems spare => uptoBulkAll elems + uptoBulkAll spare + 1
  | .agg parts => uptoBulkAll parts + 1
  | .iface _ d => uptoBulk d + 1
  | .map entries => uptoBulkEntries entries + 1
  | .held _ => 1
def uptoBulkAll {H : Type} : List (DataW H) → Nat
  | [] => 0
  | d :: r => uptoBulk d + uptoBulkAll r
def uptoBulkEntries {H : Type} : List (Lit × DataW H) → Nat
  | [] => 0
  | x :: r => uptoBulkEntry x + uptoBulkEntries r
def uptoBulkEntry {H : Type} : Lit × DataW H → Nat
  | (.string bytes, d) => bytes.length + uptoBulk d + 1
  | (_, d) => uptoBulk d + 1
 end
def uptoSmall : (H : Type) → List (DataW H) → Bool := fun _ ds => decide (uptoBulkAll ds ≤ 1048576)
def OpenSpec.upto (s : _root_.Go.ChangeSpec) : _root_.Go.OpenSpec := { _root_.Go.OpenSpec.ofChange s with cond := some uptoSmall }

/-- 'shibbolethlaw37.CensusNames', WHERE WHAT IT READS IS OF BULK AT MOST 1048576: true; the input reads as it did. -/
def censusNamesUptoRow : OpenClaim := { program := "ytjphlhehhigpjaadoor", sum := "7f044a353aad78286a0d60edfb0d016b92c2146b8114b4f0d1100f77ecf9c015", func := "shibboleth/shibbolethlaw37.CensusNames", spec := "censusNames", unfollowed := true, recurses := true, named := ["shibboleth/schema.words"], apart := false, laid := [("shibboleth/schema.words", laid_shibboleth_schema_words)], narrowed := true }
def CensusNamesUptoSaid : Prop := censusNamesUptoRow.holds Tryd.pinned (OpenSpec.upto censusNamesSpec)

/-- 'shibbolethlaw37.CensusChecks', WHERE WHAT IT READS IS OF BULK AT MOST 1048576: true; the input reads as it did. -/
def censusChecksUptoRow : OpenClaim := { program := "ytjphlhehhigpjaadoor", sum := "7f044a353aad78286a0d60edfb0d016b92c2146b8114b4f0d1100f77ecf9c015", func := "shibboleth/shibbolethlaw37.CensusChecks", spec := "censusChecks", inPlace := ["internal/reflectlite.ValueOf", "(internal/reflectlite.Value).Type", "(internal/reflectlite.Value).IsNil", "internal/reflectlite.TypeOf", "(internal/reflectlite.Value).Elem", "(internal/reflectlite.Value).Set"], unfollowed := true, recurses := true, named := ["errors.errorType"], apart := false, laid := [("errors.errorType", laid_errors_errorType)], narrowed := true }
def CensusChecksUptoSaid : Prop := censusChecksUptoRow.holds Tryd.pinned (OpenSpec.upto censusChecksSpec)

end Rows
end Go.Proofs.YtjphlhehhigpjaaDoor
