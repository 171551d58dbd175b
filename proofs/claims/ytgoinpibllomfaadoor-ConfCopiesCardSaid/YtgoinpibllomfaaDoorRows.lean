/-
  NARROWER THAN 'FOR EVERY INPUT', by the rows' own cells (each row's printed sentence says how): DenyChecks: laid · ConfInits: laid · ConfCopies: laid.
  DERIVED. THE GIVEN ROWS OF THIS SEAT. 3 by the template 'for every input the law returns true; each argument reads behind the call as it read before'; 0 by the template 'total and deterministic' (their statements: YtgoinpibllomfaaDoorTotals.lean).
  GIVEN WITH THE SEED: the statements are not yours to turn. If you find one false, say at which input.
  Laid BY PROGRAM, IN A SANDBOX (cutbox-rows.mjs): the forced cells as the released guide's own fill.sh prints them over the translation fc191e675db09918… (all of the seat's roots in one cut). By AI agents, Wed Nov 11 2026. No macro, syntax, notation, axiom, sorry.
-/
import Derived.Test.YtgoinpibllomfaaDoorChecked
import GoSem.Claim
import GoSem.ClaimJoined
import GoSem.ClaimMapViews
import Derived.JoinedTies
import Derived.KernelRfl
namespace Go.Proofs.YtgoinpibllomfaaDoor
/- THE CELL 'sum', in the pinned program and in every row, IS THE sha256 OF THE DUMP (.gsa) THAT YtgoinpibllomfaaDoorProg.lean LOADS. Nothing in Lean hashes anything: it is a label: what it is worth is what the hold of that sum in a sandbox is worth. -/
noncomputable def Tryd.pinned : Pinned := { name := "ytgoinpibllomfaadoor", sum := "fc191e675db09918ee975becf412ad737f8d20f0bcb4e1dfbde13d84b42becb6", checked := Tryd.checked }
namespace Rows
def none {H : Type} : Left H := { results := [], args := [] }

/- WHAT THE LISTED PACKAGE-LEVEL VARIABLES READ AS WHEN THE CALL BEGINS. Each datum BY PROGRAM (the guide's laid-datum.mjs) off the statement by which the dump's own 'gosem.cut.vars' lays the variable. In a bare row this is a premise. The card (YtgoinpibllomfaaDoorCards.lean) ties it to the program's text. -/
def laid_errors_errorType {H : Type} : DataW H := .iface "internal/reflectlite.rtype" (.agg [.ptr (.lit (.string [101, 114, 114, 111, 114]))])
def laid_shibboleth_prefs_methodNames {H : Type} : DataW H := .agg [.lit (.string []), .lit (.string [99, 117, 114, 118, 101, 50, 53, 53, 49, 57, 45, 115, 104, 97, 50, 53, 54]), .lit (.string [101, 99, 100, 104, 45, 115, 104, 97, 50, 45, 110, 105, 115, 116, 112, 50, 53, 54]), .lit (.string [100, 105, 102, 102, 105, 101, 45, 104, 101, 108, 108, 109, 97, 110, 45, 103, 114, 111, 117, 112, 45, 101, 120, 99, 104, 97, 110, 103, 101, 45, 115, 104, 97, 50, 53, 54])]
def laid_shibboleth_prefs_listWords {H : Type} : DataW H := .agg [.lit (.string [107, 101, 120]), .lit (.string [104, 111, 115, 116]), .lit (.string [101, 110, 99, 45, 99]), .lit (.string [101, 110, 99, 45, 115]), .lit (.string [109, 97, 99, 45, 99]), .lit (.string [109, 97, 99, 45, 115]), .lit (.string [99, 111, 109, 112, 45, 99]), .lit (.string [99, 111, 109, 112, 45, 115])]

/-- 'shibbolethlaw24.DenyChecks': WHATEVER THE INPUT: true; the input reads as it did. -/
def denyChecksSpec : ChangeSpec := { name := "denyChecks", fn := fun _ => fun
  | [d1, d2] => { results := [.lit (.bool true)], args := [d1, d2] }
  | _ => none }
def denyChecksRow : OpenClaim := { program := "ytgoinpibllomfaadoor", sum := "fc191e675db09918ee975becf412ad737f8d20f0bcb4e1dfbde13d84b42becb6", func := "shibboleth/shibbolethlaw24.DenyChecks", spec := "denyChecks", inPlace := ["internal/reflectlite.ValueOf", "(internal/reflectlite.Value).Type", "(internal/reflectlite.Value).IsNil", "internal/reflectlite.TypeOf", "(internal/reflectlite.Value).Elem", "(internal/reflectlite.Value).Set"], unfollowed := true, recurses := true, named := ["errors.errorType"], apart := false, laid := [("errors.errorType", laid_errors_errorType)] }
def DenyChecksSaid : Prop := denyChecksRow.holds Tryd.pinned (OpenSpec.ofChange denyChecksSpec)

/-- ITS FALSE NEIGHBOUR: 'it returns false'. Refute it at one input. -/
def denyChecksWrong : ChangeSpec := { name := "denyChecks", fn := fun _ => fun
  | [d1, d2] => { results := [.lit (.bool false)], args := [d1, d2] }
  | _ => none }
def DenyChecksWrongFalsely : Prop := denyChecksRow.holds Tryd.pinned (OpenSpec.ofChange denyChecksWrong)

/-- 'shibbolethlaw25.ConfInits': WHATEVER THE INPUT: true; the input reads as it did. -/
def confInitsSpec : ChangeSpec := { name := "confInits", fn := fun _ => fun
  | [d1, d2, d3] => { results := [.lit (.bool true)], args := [d1, d2, d3] }
  | _ => none }
def confInitsRow : OpenClaim := { program := "ytgoinpibllomfaadoor", sum := "fc191e675db09918ee975becf412ad737f8d20f0bcb4e1dfbde13d84b42becb6", func := "shibboleth/shibbolethlaw25.ConfInits", spec := "confInits", inPlace := ["internal/bytealg.IndexByteString", "internal/bytealg.IndexString"], unfollowed := true, recurses := true, named := ["shibboleth/prefs.methodNames", "internal/bytealg.MaxLen", "shibboleth/prefs.listWords"], apart := false, laid := [("shibboleth/prefs.methodNames", laid_shibboleth_prefs_methodNames), ("shibboleth/prefs.listWords", laid_shibboleth_prefs_listWords)] }
def ConfInitsSaid : Prop := confInitsRow.holds Tryd.pinned (OpenSpec.ofChange confInitsSpec)

/-- ITS FALSE NEIGHBOUR: 'it returns false'. Refute it at one input. -/
def confInitsWrong : ChangeSpec := { name := "confInits", fn := fun _ => fun
  | [d1, d2, d3] => { results := [.lit (.bool false)], args := [d1, d2, d3] }
  | _ => none }
def ConfInitsWrongFalsely : Prop := confInitsRow.holds Tryd.pinned (OpenSpec.ofChange confInitsWrong)

/-- 'shibbolethlaw25.ConfCopies': WHATEVER THE INPUT: true; the input reads as it did. -/
def confCopiesSpec : ChangeSpec := { name := "confCopies", fn := fun _ => fun
  | [d1, d2, d3] => { results := [.lit (.bool true)], args := [d1, d2, d3] }
  | _ => none }
def confCopiesRow : OpenClaim := { program := "ytgoinpibllomfaadoor", sum := "fc191e675db09918ee975becf412ad737f8d20f0bcb4e1dfbde13d84b42becb6", func := "shibboleth/shibbolethlaw25.ConfCopies", spec := "confCopies", inPlace := ["internal/bytealg.IndexByteString", "internal/bytealg.IndexString"], unfollowed := true, recurses := true, named := ["shibboleth/prefs.methodNames", "internal/bytealg.MaxLen", "shibboleth/prefs.listWords"], apart := false, laid := [("shibboleth/prefs.methodNames", laid_shibboleth_prefs_methodNames), ("shibboleth/prefs.listWords", laid_shibboleth_prefs_listWords)] }
def ConfCopiesSaid : Prop := confCopiesRow.holds Tryd.pinned (OpenSpec.ofChange confCopiesSpec)

/-- ITS FALSE NEIGHBOUR: 'it returns false'. Refute it at one input. -/
def confCopiesWrong : ChangeSpec := { name := "confCopies", fn := fun _ => fun
  | [d1, d2, d3] => { results := [.lit (.bool false)], args := [d1, d2, d3] }
  | _ => none }
def ConfCopiesWrongFalsely : Prop := confCopiesRow.holds Tryd.pinned (OpenSpec.ofChange confCopiesWrong)

/- THE SECOND FORM. 'bulk': how many values and letters a reading holds, each counted each time it is reached (what is shared counts as often as it is met; a slice's spare places count too). A statement '..UptoSaid' is the law's where the arguments, and the package variables that the reading takes, are together of bulk at most 1048576: NARROWER than '..Said'. Prove '..Said' where nothing that the law and all that it calls make is longer than what came in: it says more and counts as full. Else prove '..UptoSaid'. A law counts once. -/
mutual
def uptoBulk {H : Type} : DataW H → Nat
  | .lit (.string bytes) => bytes.length + 1
  | .lit _ => 1
  | .nil => 1
  | .ptr d => uptoBulk d + 1
  | .slice elems spare => uptoBulkAll elems + uptoBulkAll spare + 1
  | .agg parts => uptoBulkAll parts + 1
  | .iface _ d => uptoBulk d + 1
  | .map entries => uptoBulkEntries entries + 1
  | .held _ => 1
def uptoBulkAll {H : Type} : List (DataW H) → Nat
  | [] => 0
  | d :: r => uptoBulk d + uptoBulkAll r
def uptoBulkEntries {H : Type} : List (Lit × DataW H) → Nat
  | [] => 0
  | x :: r => uptoBulkEntry x + uptoBulkEntries r
def uptoBulkEntry {H : Type} : Lit × DataW H → Nat
  | (.string bytes, d) => bytes.length + uptoBulk d + 1
  | (_, d) => uptoBulk d + 1
 end
def uptoSmall : (H : Type) → List (DataW H) → Bool := fun _ ds => decide (uptoBulkAll ds ≤ 1048576)
def OpenSpec.upto (s : _root_.Go.ChangeSpec) : _root_.Go.OpenSpec := { _root_.Go.OpenSpec.ofChange s with cond := some uptoSmall }

/-- 'shibbolethlaw24.DenyChecks', WHERE WHAT IT READS IS OF BULK AT MOST 1048576: true; the input reads as it did. -/
def denyChecksUptoRow : OpenClaim := { program := "ytgoinpibllomfaadoor", sum := "fc191e675db09918ee975becf412ad737f8d20f0bcb4e1dfbde13d84b42becb6", func := "shibboleth/shibbolethlaw24.DenyChecks", spec := "denyChecks", inPlace := ["internal/reflectlite.ValueOf", "(internal/reflectlite.Value).Type", "(internal/reflectlite.Value).IsNil", "internal/reflectlite.TypeOf", "(internal/reflectlite.Value).Elem", "(internal/reflectlite.Value).Set"], unfollowed := true, recurses := true, named := ["errors.errorType"], apart := false, laid := [("errors.errorType", laid_errors_errorType)], narrowed := true }
def DenyChecksUptoSaid : Prop := denyChecksUptoRow.holds Tryd.pinned (OpenSpec.upto denyChecksSpec)

/-- 'shibbolethlaw25.ConfInits', WHERE WHAT IT READS IS OF BULK AT MOST 1048576: true; the input reads as it did. -/
def confInitsUptoRow : OpenClaim := { program := "ytgoinpibllomfaadoor", sum := "fc191e675db09918ee975becf412ad737f8d20f0bcb4e1dfbde13d84b42becb6", func := "shibboleth/shibbolethlaw25.ConfInits", spec := "confInits", inPlace := ["internal/bytealg.IndexByteString", "internal/bytealg.IndexString"], unfollowed := true, recurses := true, named := ["shibboleth/prefs.methodNames", "internal/bytealg.MaxLen", "shibboleth/prefs.listWords"], apart := false, laid := [("shibboleth/prefs.methodNames", laid_shibboleth_prefs_methodNames), ("shibboleth/prefs.listWords", laid_shibboleth_prefs_listWords)], narrowed := true }
def ConfInitsUptoSaid : Prop := confInitsUptoRow.holds Tryd.pinned (OpenSpec.upto confInitsSpec)

/-- 'shibbolethlaw25.ConfCopies', WHERE WHAT IT READS IS OF BULK AT MOST 1048576: true; the input reads as it did. -/
def confCopiesUptoRow : OpenClaim := { program := "ytgoinpibllomfaadoor", sum := "fc191e675db09918ee975becf412ad737f8d20f0bcb4e1dfbde13d84b42becb6", func := "shibboleth/shibbolethlaw25.ConfCopies", spec := "confCopies", inPlace := ["internal/bytealg.IndexByteString", "internal/bytealg.IndexString"], unfollowed := true, recurses := true, named := ["shibboleth/prefs.methodNames", "internal/bytealg.MaxLen", "shibboleth/prefs.listWords"], apart := false, laid := [("shibboleth/prefs.methodNames", laid_shibboleth_prefs_methodNames), ("shibboleth/prefs.listWords", laid_shibboleth_prefs_listWords)], narrowed := true }
def ConfCopiesUptoSaid : Prop := confCopiesUptoRow.holds Tryd.pinned (OpenSpec.upto confCopiesSpec)

end Rows
end Go.Proofs.YtgoinpibllomfaaDoor
