/-
  No cell of these rows narrows 'for every input' (looked for: loops, veiled, ifaces, maps, wideKeys, modest, calm, conditions, laid).
  DERIVED. THE GIVEN ROWS OF THIS SEAT. 3 by the template 'for every input the law returns true; each argument reads behind the call as it read before'; 0 by the template 'total and deterministic' (their statements: YtkajajekjpkekaaTotals.lean).
  GIVEN WITH THE SEED: the statements are not yours to turn. If you find one false, say at which input.
  Laid BY PROGRAM, IN A SANDBOX (cutbox-rows.mjs): the forced cells as the released guide's own fill.sh prints them over the translation add88934ef07606c… (all of the seat's roots in one cut). By AI agents, Wed Nov 11 2026. No macro, syntax, notation, axiom, sorry.
-/
import Derived.Test.YtkajajekjpkekaaChecked
import GoSem.Claim
import GoSem.ClaimJoined
import GoSem.ClaimMapViews
import Derived.JoinedTies
import Derived.KernelRfl
namespace Go.Proofs.Ytkajajekjpkekaa
/- THE CELL 'sum', in the pinned program and in every row, IS THE sha256 OF THE DUMP (.gsa) THAT YtkajajekjpkekaaProg.lean LOADS. Nothing in Lean hashes anything: it is a label: what it is worth is what the hold of that sum in a sandbox is worth. -/
noncomputable def Try.pinned : Pinned := { name := "ytkajajekjpkekaa", sum := "add88934ef07606cd10d41215b4151863c042188e0355a319c6eb32e2a893326", checked := Try.checked }
namespace Rows
def none {H : Type} : Left H := { results := [], args := [] }

/-- 'shibbolethlaw32.AgreeSources': WHATEVER THE INPUT: true; the input reads as it did. -/
def agreeSourcesSpec : ChangeSpec := { name := "agreeSources", fn := fun _ => fun
  | [d1, d2] => { results := [.lit (.bool true)], args := [d1, d2] }
  | _ => none }
def agreeSourcesRow : OpenClaim := { program := "ytkajajekjpkekaa", sum := "add88934ef07606cd10d41215b4151863c042188e0355a319c6eb32e2a893326", func := "shibboleth/shibbolethlaw32.AgreeSources", spec := "agreeSources", unfollowed := true, recurses := true, plainKeys := false, apart := false }
def AgreeSourcesSaid : Prop := agreeSourcesRow.holds Try.pinned (OpenSpec.ofChange agreeSourcesSpec)

/-- ITS FALSE NEIGHBOUR: 'it returns false'. Refute it at one input. -/
def agreeSourcesWrong : ChangeSpec := { name := "agreeSources", fn := fun _ => fun
  | [d1, d2] => { results := [.lit (.bool false)], args := [d1, d2] }
  | _ => none }
def AgreeSourcesWrongFalsely : Prop := agreeSourcesRow.holds Try.pinned (OpenSpec.ofChange agreeSourcesWrong)

/-- 'shibbolethlaw32.AgreeMaps': WHATEVER THE INPUT: true; the input reads as it did. -/
def agreeMapsSpec : ChangeSpec := { name := "agreeMaps", fn := fun _ => fun
  | [d] => { results := [.lit (.bool true)], args := [d] }
  | _ => none }
def agreeMapsRow : OpenClaim := { program := "ytkajajekjpkekaa", sum := "add88934ef07606cd10d41215b4151863c042188e0355a319c6eb32e2a893326", func := "shibboleth/shibbolethlaw32.AgreeMaps", spec := "agreeMaps", unfollowed := true, recurses := true, plainKeys := false, apart := false }
def AgreeMapsSaid : Prop := agreeMapsRow.holds Try.pinned (OpenSpec.ofChange agreeMapsSpec)

/-- ITS FALSE NEIGHBOUR: 'it returns false'. Refute it at one input. -/
def agreeMapsWrong : ChangeSpec := { name := "agreeMaps", fn := fun _ => fun
  | [d] => { results := [.lit (.bool false)], args := [d] }
  | _ => none }
def AgreeMapsWrongFalsely : Prop := agreeMapsRow.holds Try.pinned (OpenSpec.ofChange agreeMapsWrong)

/-- 'shibbolethlaw32.AgreeBegins': WHATEVER THE INPUT: true; the input reads as it did. -/
def agreeBeginsSpec : ChangeSpec := { name := "agreeBegins", fn := fun _ => fun
  | [d1, d2] => { results := [.lit (.bool true)], args := [d1, d2] }
  | _ => none }
def agreeBeginsRow : OpenClaim := { program := "ytkajajekjpkekaa", sum := "add88934ef07606cd10d41215b4151863c042188e0355a319c6eb32e2a893326", func := "shibboleth/shibbolethlaw32.AgreeBegins", spec := "agreeBegins", unfollowed := true, recurses := true, plainKeys := false, apart := false }
def AgreeBeginsSaid : Prop := agreeBeginsRow.holds Try.pinned (OpenSpec.ofChange agreeBeginsSpec)

/-- ITS FALSE NEIGHBOUR: 'it returns false'. Refute it at one input. -/
def agreeBeginsWrong : ChangeSpec := { name := "agreeBegins", fn := fun _ => fun
  | [d1, d2] => { results := [.lit (.bool false)], args := [d1, d2] }
  | _ => none }
def AgreeBeginsWrongFalsely : Prop := agreeBeginsRow.holds Try.pinned (OpenSpec.ofChange agreeBeginsWrong)

/- THE SECOND FORM. 'bulk': how many values and letters a reading holds, each counted each time it is reached (what is shared counts as often as it is met; a slice's spare places count too). A statement '..UptoSaid' is the law's where the arguments, and the package variables that the reading takes, are together of bulk at most 1048576: NARROWER than '..Said'. Prove '..Said' where nothing that the law and all that it calls make is longer than what came in: it says more and counts as full. Else prove '..UptoSaid'. A law counts once. -/
mutual
def uptoBulk {H : Type} : DataW H → Nat
  | .lit (.string bytes) => bytes.length + 1
  | .lit _ => 1
  | .nil => 1
  | .ptr d => uptoBulk d + 1
  | .slice elems spare => uptoBulkAll elems + uptoBulkAll spare + 1
  | .agg parts => uptoBulkAll parts + 1
  | .iface _ d => uptoBulk d + 1
  | .map entries => uptoBulkEntries entries + 1
  | .held _ => 1
def uptoBulkAll {H : Type} : List (DataW H) → Nat
  | [] => 0
  | d :: r => uptoBulk d + uptoBulkAll r
def uptoBulkEntries {H : Type} : List (Lit × DataW H) → Nat
  | [] => 0
  | x :: r => uptoBulkEntry x + uptoBulkEntries r
def uptoBulkEntry {H : Type} : Lit × DataW H → Nat
  | (.string bytes, d) => bytes.length + uptoBulk d + 1
  | (_, d) => uptoBulk d + 1
 end
def uptoSmall : (H : Type) → List (DataW H) → Bool := fun _ ds => decide (uptoBulkAll ds ≤ 1048576)
def OpenSpec.upto (s : _root_.Go.ChangeSpec) : _root_.Go.OpenSpec := { _root_.Go.OpenSpec.ofChange s with cond := some uptoSmall }

/-- 'shibbolethlaw32.AgreeSources', WHERE WHAT IT READS IS OF BULK AT MOST 1048576: true; the input reads as it did. -/
def agreeSourcesUptoRow : OpenClaim := { program := "ytkajajekjpkekaa", sum := "add88934ef07606cd10d41215b4151863c042188e0355a319c6eb32e2a893326", func := "shibboleth/shibbolethlaw32.AgreeSources", spec := "agreeSources", unfollowed := true, recurses := true, plainKeys := false, apart := false, narrowed := true }
def AgreeSourcesUptoSaid : Prop := agreeSourcesUptoRow.holds Try.pinned (OpenSpec.upto agreeSourcesSpec)

/-- 'shibbolethlaw32.AgreeMaps', WHERE WHAT IT READS IS OF BULK AT MOST 1048576: true; the input reads as it did. -/
def agreeMapsUptoRow : OpenClaim := { program := "ytkajajekjpkekaa", sum := "add88934ef07606cd10d41215b4151863c042188e0355a319c6eb32e2a893326", func := "shibboleth/shibbolethlaw32.AgreeMaps", spec := "agreeMaps", unfollowed := true, recurses := true, plainKeys := false, apart := false, narrowed := true }
def AgreeMapsUptoSaid : Prop := agreeMapsUptoRow.holds Try.pinned (OpenSpec.upto agreeMapsSpec)

/-- 'shibbolethlaw32.AgreeBegins', WHERE WHAT IT READS IS OF BULK AT MOST 1048576: true; the input reads as it did. -/
def agreeBeginsUptoRow : OpenClaim := { program := "ytkajajekjpkekaa", sum := "add88934ef07606cd10d41215b4151863c042188e0355a319c6eb32e2a893326", func := "shibboleth/shibbolethlaw32.AgreeBegins", spec := "agreeBegins", unfollowed := true, recurses := true, plainKeys := false, apart := false, narrowed := true }
def AgreeBeginsUptoSaid : Prop := agreeBeginsUptoRow.holds Try.pinned (OpenSpec.upto agreeBeginsSpec)

end Rows
end Go.Proofs.Ytkajajekjpkekaa
