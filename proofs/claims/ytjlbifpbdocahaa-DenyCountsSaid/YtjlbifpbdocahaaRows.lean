/-
  No cell of these rows narrows 'for every input' (looked for: loops, veiled, ifaces, maps, wideKeys, modest, calm, conditions, laid).
  DERIVED. THE GIVEN ROWS OF THIS SEAT. 3 by the template 'for every input the law returns true; each argument reads behind the call as it read before'; 0 by the template 'total and deterministic' (their statements: YtjlbifpbdocahaaTotals.lean).
  GIVEN WITH THE SEED: the statements are not yours to turn. If you find one false, say at which input.
  Laid BY PROGRAM, IN A SANDBOX (cutbox-rows.mjs): the forced cells as the released guide's own fill.sh prints them over the translation 62df99ed5a778e21… (all of the seat's roots in one cut). By AI agents, Wed Nov 11 2026. No macro, syntax, notation, axiom, sorry.
-/
import Derived.Test.YtjlbifpbdocahaaChecked
import GoSem.Claim
import GoSem.ClaimJoined
import GoSem.ClaimMapViews
import Derived.JoinedTies
import Derived.KernelRfl
namespace Go.Proofs.Ytjlbifpbdocahaa
/- THE CELL 'sum', in the pinned program and in every row, IS THE sha256 OF THE DUMP (.gsa) THAT YtjlbifpbdocahaaProg.lean LOADS. Nothing in Lean hashes anything: it is a label: what it is worth is what the hold of that sum in a sandbox is worth. -/
noncomputable def Try.pinned : Pinned := { name := "ytjlbifpbdocahaa", sum := "62df99ed5a778e2194749c338a48ef4e00d74ffebca403913e20a5074c484da3", checked := Try.checked }
namespace Rows
def none {H : Type} : Left H := { results := [], args := [] }

/-- 'shibbolethlaw21.KeysSix': WHATEVER THE INPUT: true; the input reads as it did. -/
def keysSixSpec : ChangeSpec := { name := "keysSix", fn := fun _ => fun
  | [d1, d2] => { results := [.lit (.bool true)], args := [d1, d2] }
  | _ => none }
def keysSixRow : OpenClaim := { program := "ytjlbifpbdocahaa", sum := "62df99ed5a778e2194749c338a48ef4e00d74ffebca403913e20a5074c484da3", func := "shibboleth/shibbolethlaw21.KeysSix", spec := "keysSix", unfollowed := true, recurses := true, plainKeys := false, apart := false }
def KeysSixSaid : Prop := keysSixRow.holds Try.pinned (OpenSpec.ofChange keysSixSpec)

/-- ITS FALSE NEIGHBOUR: 'it returns false'. Refute it at one input. -/
def keysSixWrong : ChangeSpec := { name := "keysSix", fn := fun _ => fun
  | [d1, d2] => { results := [.lit (.bool false)], args := [d1, d2] }
  | _ => none }
def KeysSixWrongFalsely : Prop := keysSixRow.holds Try.pinned (OpenSpec.ofChange keysSixWrong)

/-- 'shibbolethlaw24.DenyHas': WHATEVER THE INPUT: true; the input reads as it did. -/
def denyHasSpec : ChangeSpec := { name := "denyHas", fn := fun _ => fun
  | [d1, d2, d3] => { results := [.lit (.bool true)], args := [d1, d2, d3] }
  | _ => none }
def denyHasRow : OpenClaim := { program := "ytjlbifpbdocahaa", sum := "62df99ed5a778e2194749c338a48ef4e00d74ffebca403913e20a5074c484da3", func := "shibboleth/shibbolethlaw24.DenyHas", spec := "denyHas", recurses := true, plainKeys := false, apart := false }
def DenyHasSaid : Prop := denyHasRow.holds Try.pinned (OpenSpec.ofChange denyHasSpec)

/-- ITS FALSE NEIGHBOUR: 'it returns false'. Refute it at one input. -/
def denyHasWrong : ChangeSpec := { name := "denyHas", fn := fun _ => fun
  | [d1, d2, d3] => { results := [.lit (.bool false)], args := [d1, d2, d3] }
  | _ => none }
def DenyHasWrongFalsely : Prop := denyHasRow.holds Try.pinned (OpenSpec.ofChange denyHasWrong)

/-- 'shibbolethlaw24.DenyCounts': WHATEVER THE INPUT: true; the input reads as it did. -/
def denyCountsSpec : ChangeSpec := { name := "denyCounts", fn := fun _ => fun
  | [d1, d2] => { results := [.lit (.bool true)], args := [d1, d2] }
  | _ => none }
def denyCountsRow : OpenClaim := { program := "ytjlbifpbdocahaa", sum := "62df99ed5a778e2194749c338a48ef4e00d74ffebca403913e20a5074c484da3", func := "shibboleth/shibbolethlaw24.DenyCounts", spec := "denyCounts", plainKeys := false, apart := false }
def DenyCountsSaid : Prop := denyCountsRow.holds Try.pinned (OpenSpec.ofChange denyCountsSpec)

/-- ITS FALSE NEIGHBOUR: 'it returns false'. Refute it at one input. -/
def denyCountsWrong : ChangeSpec := { name := "denyCounts", fn := fun _ => fun
  | [d1, d2] => { results := [.lit (.bool false)], args := [d1, d2] }
  | _ => none }
def DenyCountsWrongFalsely : Prop := denyCountsRow.holds Try.pinned (OpenSpec.ofChange denyCountsWrong)

/- THE SECOND FORM. 'bulk': how many values and letters a reading holds, each counted each time it is reached (what is shared counts as often as it is met; a slice's spare places count too). A statement '..UptoSaid' is the law's where the arguments, and the package variables that the reading takes, are together of bulk at most 1048576: NARROWER than '..Said'. Prove '..Said' where nothing that the law and all that it calls make is longer than what came in: it says more and counts as full. Else prove '..UptoSaid'. A law counts once. -/
mutual
def uptoBulk {H : Type} : DataW H → Nat
  | .lit (.string bytes) => bytes.length + 1
  | .lit _ => 1
  | .nil => 1
  | .ptr d => uptoBulk d + 1
  | .slice elems spare => uptoBulkAll elems + uptoBulkAll spare + 1
  | .agg parts => uptoBulkAll parts + 1
  | .iface _ d => uptoBulk d + 1
  | .map entries => uptoBulkEntries entries + 1
  | .held _ => 1
def uptoBulkAll {H : Type} : List (DataW H) → Nat
  | [] => 0
  | d :: r => uptoBulk d + uptoBulkAll r
def uptoBulkEntries {H : Type} : List (Lit × DataW H) → Nat
  | [] => 0
  | x :: r => uptoBulkEntry x + uptoBulkEntries r
def uptoBulkEntry {H : Type} : Lit × DataW H → Nat
  | (.string bytes, d) => bytes.length + uptoBulk d + 1
  | (_, d) => uptoBulk d + 1
 end
def uptoSmall : (H : Type) → List (DataW H) → Bool := fun _ ds => decide (uptoBulkAll ds ≤ 1048576)
def OpenSpec.upto (s : _root_.Go.ChangeSpec) : _root_.Go.OpenSpec := { _root_.Go.OpenSpec.ofChange s with cond := some uptoSmall }

/-- 'shibbolethlaw21.KeysSix', WHERE WHAT IT READS IS OF BULK AT MOST 1048576: true; the input reads as it did. -/
def keysSixUptoRow : OpenClaim := { program := "ytjlbifpbdocahaa", sum := "62df99ed5a778e2194749c338a48ef4e00d74ffebca403913e20a5074c484da3", func := "shibboleth/shibbolethlaw21.KeysSix", spec := "keysSix", unfollowed := true, recurses := true, plainKeys := false, apart := false, narrowed := true }
def KeysSixUptoSaid : Prop := keysSixUptoRow.holds Try.pinned (OpenSpec.upto keysSixSpec)

/-- 'shibbolethlaw24.DenyHas', WHERE WHAT IT READS IS OF BULK AT MOST 1048576: true; the input reads as it did. -/
def denyHasUptoRow : OpenClaim := { program := "ytjlbifpbdocahaa", sum := "62df99ed5a778e2194749c338a48ef4e00d74ffebca403913e20a5074c484da3", func := "shibboleth/shibbolethlaw24.DenyHas", spec := "denyHas", recurses := true, plainKeys := false, apart := false, narrowed := true }
def DenyHasUptoSaid : Prop := denyHasUptoRow.holds Try.pinned (OpenSpec.upto denyHasSpec)

/-- 'shibbolethlaw24.DenyCounts', WHERE WHAT IT READS IS OF BULK AT MOST 1048576: true; the input reads as it did. -/
def denyCountsUptoRow : OpenClaim := { program := "ytjlbifpbdocahaa", sum := "62df99ed5a778e2194749c338a48ef4e00d74ffebca403913e20a5074c484da3", func := "shibboleth/shibbolethlaw24.DenyCounts", spec := "denyCounts", plainKeys := false, apart := false, narrowed := true }
def DenyCountsUptoSaid : Prop := denyCountsUptoRow.holds Try.pinned (OpenSpec.upto denyCountsSpec)

end Rows
end Go.Proofs.Ytjlbifpbdocahaa
