/-
  NARROWER THAN 'FOR EVERY INPUT', by the rows' own cells (each row's printed sentence says how): SignUsers: laid · SignApart: laid · ConfChecks: laid.
  DERIVED. THE GIVEN ROWS OF THIS SEAT. 3 by the template 'for every input the law returns true; each argument reads behind the call as it read before'; 0 by the template 'total and deterministic' (their statements: YtjlbifpbdocahaaGreatDoorTotals.lean).
  GIVEN WITH THE SEED: the statements are not yours to turn. If you find one false, say at which input.
  Laid BY PROGRAM, IN A SANDBOX (cutbox-rows.mjs): the forced cells as the released guide's own fill.sh prints them over the translation 63581a8e2880604f… (all of the seat's roots in one cut). By AI agents, Wed Nov 11 2026. No macro, syntax, notation, axiom, sorry.
-/
import Derived.Test.YtjlbifpbdocahaaGreatDoorChecked
import GoSem.Claim
import GoSem.ClaimJoined
import GoSem.ClaimMapViews
import Derived.JoinedTies
import Derived.KernelRfl
namespace Go.Proofs.YtjlbifpbdocahaaGreatDoor
/- THE CELL 'sum', in the pinned program and in every row, IS THE sha256 OF THE DUMP (.gsa) THAT YtjlbifpbdocahaaGreatDoorProg.lean LOADS. Nothing in Lean hashes anything: it is a label: what it is worth is what the hold of that sum in a sandbox is worth. -/
noncomputable def Tryz.pinned : Pinned := { name := "ytjlbifpbdocahaagreatdoor", sum := "63581a8e2880604f930b85e8c7b1194b4534606700cf24e5fdf13e97a3396ee0", checked := Tryz.checked }
namespace Rows
def none {H : Type} : Left H := { results := [], args := [] }

/- WHAT THE LISTED PACKAGE-LEVEL VARIABLES READ AS WHEN THE CALL BEGINS. Each datum BY PROGRAM (the guide's laid-datum.mjs) off the statement by which the dump's own 'gosem.cut.vars' lays the variable. In a bare row this is a premise. The card (YtjlbifpbdocahaaGreatDoorCards.lean) ties it to the program's text. -/
def laid_errors_errorType {H : Type} : DataW H := .iface "internal/reflectlite.rtype" (.agg [.ptr (.lit (.string [101, 114, 114, 111, 114]))])
def laid_shibboleth_prefs_methodNames {H : Type} : DataW H := .agg [.lit (.string []), .lit (.string [99, 117, 114, 118, 101, 50, 53, 53, 49, 57, 45, 115, 104, 97, 50, 53, 54]), .lit (.string [101, 99, 100, 104, 45, 115, 104, 97, 50, 45, 110, 105, 115, 116, 112, 50, 53, 54]), .lit (.string [100, 105, 102, 102, 105, 101, 45, 104, 101, 108, 108, 109, 97, 110, 45, 103, 114, 111, 117, 112, 45, 101, 120, 99, 104, 97, 110, 103, 101, 45, 115, 104, 97, 50, 53, 54])]
def laid_shibboleth_prefs_listWords {H : Type} : DataW H := .agg [.lit (.string [107, 101, 120]), .lit (.string [104, 111, 115, 116]), .lit (.string [101, 110, 99, 45, 99]), .lit (.string [101, 110, 99, 45, 115]), .lit (.string [109, 97, 99, 45, 99]), .lit (.string [109, 97, 99, 45, 115]), .lit (.string [99, 111, 109, 112, 45, 99]), .lit (.string [99, 111, 109, 112, 45, 115])]

/-- 'shibbolethlaw22.SignUsers': WHATEVER THE INPUT: true; the input reads as it did. -/
def signUsersSpec : ChangeSpec := { name := "signUsers", fn := fun _ => fun
  | [d1, d2, d3] => { results := [.lit (.bool true)], args := [d1, d2, d3] }
  | _ => none }
def signUsersRow : OpenClaim := { program := "ytjlbifpbdocahaagreatdoor", sum := "63581a8e2880604f930b85e8c7b1194b4534606700cf24e5fdf13e97a3396ee0", func := "shibboleth/shibbolethlaw22.SignUsers", spec := "signUsers", inPlace := ["internal/reflectlite.ValueOf", "(internal/reflectlite.Value).Type", "(internal/reflectlite.Value).IsNil", "internal/reflectlite.TypeOf", "(internal/reflectlite.Value).Elem", "(internal/reflectlite.Value).Set"], unfollowed := true, recurses := true, named := ["errors.errorType"], plainKeys := false, apart := false, laid := [("errors.errorType", laid_errors_errorType)] }
def SignUsersSaid : Prop := signUsersRow.holds Tryz.pinned (OpenSpec.ofChange signUsersSpec)

/-- ITS FALSE NEIGHBOUR: 'it returns false'. Refute it at one input. -/
def signUsersWrong : ChangeSpec := { name := "signUsers", fn := fun _ => fun
  | [d1, d2, d3] => { results := [.lit (.bool false)], args := [d1, d2, d3] }
  | _ => none }
def SignUsersWrongFalsely : Prop := signUsersRow.holds Tryz.pinned (OpenSpec.ofChange signUsersWrong)

/-- 'shibbolethlaw22.SignApart': WHATEVER THE INPUT: true; the input reads as it did. -/
def signApartSpec : ChangeSpec := { name := "signApart", fn := fun _ => fun
  | [d1, d2, d3] => { results := [.lit (.bool true)], args := [d1, d2, d3] }
  | _ => none }
def signApartRow : OpenClaim := { program := "ytjlbifpbdocahaagreatdoor", sum := "63581a8e2880604f930b85e8c7b1194b4534606700cf24e5fdf13e97a3396ee0", func := "shibboleth/shibbolethlaw22.SignApart", spec := "signApart", inPlace := ["internal/reflectlite.ValueOf", "(internal/reflectlite.Value).Type", "(internal/reflectlite.Value).IsNil", "internal/reflectlite.TypeOf", "(internal/reflectlite.Value).Elem", "(internal/reflectlite.Value).Set"], unfollowed := true, recurses := true, named := ["errors.errorType"], plainKeys := false, apart := false, laid := [("errors.errorType", laid_errors_errorType)] }
def SignApartSaid : Prop := signApartRow.holds Tryz.pinned (OpenSpec.ofChange signApartSpec)

/-- ITS FALSE NEIGHBOUR: 'it returns false'. Refute it at one input. -/
def signApartWrong : ChangeSpec := { name := "signApart", fn := fun _ => fun
  | [d1, d2, d3] => { results := [.lit (.bool false)], args := [d1, d2, d3] }
  | _ => none }
def SignApartWrongFalsely : Prop := signApartRow.holds Tryz.pinned (OpenSpec.ofChange signApartWrong)

/-- 'shibbolethlaw25.ConfChecks': WHATEVER THE INPUT: true; the input reads as it did. -/
def confChecksSpec : ChangeSpec := { name := "confChecks", fn := fun _ => fun
  | [d] => { results := [.lit (.bool true)], args := [d] }
  | _ => none }
def confChecksRow : OpenClaim := { program := "ytjlbifpbdocahaagreatdoor", sum := "63581a8e2880604f930b85e8c7b1194b4534606700cf24e5fdf13e97a3396ee0", func := "shibboleth/shibbolethlaw25.ConfChecks", spec := "confChecks", inPlace := ["internal/bytealg.IndexByteString", "internal/bytealg.IndexString", "internal/reflectlite.ValueOf", "(internal/reflectlite.Value).Type", "(internal/reflectlite.Value).IsNil", "internal/reflectlite.TypeOf", "(internal/reflectlite.Value).Elem", "(internal/reflectlite.Value).Set"], unfollowed := true, recurses := true, named := ["shibboleth/prefs.methodNames", "internal/bytealg.MaxLen", "shibboleth/prefs.listWords", "errors.errorType"], plainKeys := false, apart := false, laid := [("errors.errorType", laid_errors_errorType), ("shibboleth/prefs.methodNames", laid_shibboleth_prefs_methodNames), ("shibboleth/prefs.listWords", laid_shibboleth_prefs_listWords)] }
def ConfChecksSaid : Prop := confChecksRow.holds Tryz.pinned (OpenSpec.ofChange confChecksSpec)

/-- ITS FALSE NEIGHBOUR: 'it returns false'. Refute it at one input. -/
def confChecksWrong : ChangeSpec := { name := "confChecks", fn := fun _ => fun
  | [d] => { results := [.lit (.bool false)], args := [d] }
  | _ => none }
def ConfChecksWrongFalsely : Prop := confChecksRow.holds Tryz.pinned (OpenSpec.ofChange confChecksWrong)

/- THE SECOND FORM. 'bulk': how many values and letters a reading holds, each counted each time it is reached (what is shared counts as often as it is met; a slice's spare places count too). A statement '..UptoSaid' is the law's where the arguments, and the package variables that the reading takes, are together of bulk at most 1048576: NARROWER than '..Said'. Prove '..Said' where nothing that the law and all that it calls make is longer than what came in: it says more and counts as full. Else prove '..UptoSaid'. A law counts once. -/
mutual
def uptoBulk {H : Type} : DataW H → Nat
  | .lit (.string bytes) => bytes.length + 1
  | .lit _ => 1
  | .nil => 1
  | .ptr d => uptoBulk d + 1
  | .slice elems spare => uptoBulkAll elems + uptoBulkAll spare + 1
  | .agg parts => uptoBulkAll parts + 1
  | .iface _ d => uptoBulk d + 1
  | .map entries => uptoBulkEntries entries + 1
  | .held _ => 1
def uptoBulkAll {H : Type} : List (DataW H) → Nat
  | [] => 0
  | d :: r => uptoBulk d + uptoBulkAll r
def uptoBulkEntries {H : Type} : List (Lit × DataW H) → Nat
  | [] => 0
  | x :: r => uptoBulkEntry x + uptoBulkEntries r
def uptoBulkEntry {H : Type} : Lit × DataW H → Nat
  | (.string bytes, d) => bytes.length + uptoBulk d + 1
  | (_, d) => uptoBulk d + 1
 end
def uptoSmall : (H : Type) → List (DataW H) → Bool := fun _ ds => decide (uptoBulkAll ds ≤ 1048576)
def OpenSpec.upto (s : _root_.Go.ChangeSpec) : _root_.Go.OpenSpec := { _root_.Go.OpenSpec.ofChange s with cond := some uptoSmall }

/-- 'shibbolethlaw22.SignUsers', WHERE WHAT IT READS IS OF BULK AT MOST 1048576: true; the input reads as it did. -/
def signUsersUptoRow : OpenClaim := { program := "ytjlbifpbdocahaagreatdoor", sum := "63581a8e2880604f930b85e8c7b1194b4534606700cf24e5fdf13e97a3396ee0", func := "shibboleth/shibbolethlaw22.SignUsers", spec := "signUsers", inPlace := ["internal/reflectlite.ValueOf", "(internal/reflectlite.Value).Type", "(internal/reflectlite.Value).IsNil", "internal/reflectlite.TypeOf", "(internal/reflectlite.Value).Elem", "(internal/reflectlite.Value).Set"], unfollowed := true, recurses := true, named := ["errors.errorType"], plainKeys := false, apart := false, laid := [("errors.errorType", laid_errors_errorType)], narrowed := true }
def SignUsersUptoSaid : Prop := signUsersUptoRow.holds Tryz.pinned (OpenSpec.upto signUsersSpec)

/-- 'shibbolethlaw22.SignApart', WHERE WHAT IT READS IS OF BULK AT MOST 1048576: true; the input reads as it did. -/
def signApartUptoRow : OpenClaim := { program := "ytjlbifpbdocahaagreatdoor", sum := "63581a8e2880604f930b85e8c7b1194b4534606700cf24e5fdf13e97a3396ee0", func := "shibboleth/shibbolethlaw22.SignApart", spec := "signApart", inPlace := ["internal/reflectlite.ValueOf", "(internal/reflectlite.Value).Type", "(internal/reflectlite.Value).IsNil", "internal/reflectlite.TypeOf", "(internal/reflectlite.Value).Elem", "(internal/reflectlite.Value).Set"], unfollowed := true, recurses := true, named := ["errors.errorType"], plainKeys := false, apart := false, laid := [("errors.errorType", laid_errors_errorType)], narrowed := true }
def SignApartUptoSaid : Prop := signApartUptoRow.holds Tryz.pinned (OpenSpec.upto signApartSpec)

/-- 'shibbolethlaw25.ConfChecks', WHERE WHAT IT READS IS OF BULK AT MOST 1048576: true; the input reads as it did. -/
def confChecksUptoRow : OpenClaim := { program := "ytjlbifpbdocahaagreatdoor", sum := "63581a8e2880604f930b85e8c7b1194b4534606700cf24e5fdf13e97a3396ee0", func := "shibboleth/shibbolethlaw25.ConfChecks", spec := "confChecks", inPlace := ["internal/bytealg.IndexByteString", "internal/bytealg.IndexString", "internal/reflectlite.ValueOf", "(internal/reflectlite.Value).Type", "(internal/reflectlite.Value).IsNil", "internal/reflectlite.TypeOf", "(internal/reflectlite.Value).Elem", "(internal/reflectlite.Value).Set"], unfollowed := true, recurses := true, named := ["shibboleth/prefs.methodNames", "internal/bytealg.MaxLen", "shibboleth/prefs.listWords", "errors.errorType"], plainKeys := false, apart := false, laid := [("errors.errorType", laid_errors_errorType), ("shibboleth/prefs.methodNames", laid_shibboleth_prefs_methodNames), ("shibboleth/prefs.listWords", laid_shibboleth_prefs_listWords)], narrowed := true }
def ConfChecksUptoSaid : Prop := confChecksUptoRow.holds Tryz.pinned (OpenSpec.upto confChecksSpec)

end Rows
end Go.Proofs.YtjlbifpbdocahaaGreatDoor
