/-
  No cell of these rows narrows 'for every input' (looked for: loops, veiled, ifaces, maps, wideKeys, modest, calm, conditions, laid).
  DERIVED. THE GIVEN ROWS OF THIS SEAT. 3 by the template 'for every input the law returns true; each argument reads behind the call as it read before'; 0 by the template 'total and deterministic' (their statements: YtjphlhehhigpjaaTotals.lean).
  GIVEN WITH THE SEED: the statements are not yours to turn. If you find one false, say at which input.
  Laid BY PROGRAM, IN A SANDBOX (cutbox-rows.mjs): the forced cells as the released guide's own fill.sh prints them over the translation a32e68c8a88117e8… (all of the seat's roots in one cut). By AI agents, Wed Nov 11 2026. No macro, syntax, notation, axiom, sorry.
-/
import Derived.Test.YtjphlhehhigpjaaChecked
import GoSem.Claim
import GoSem.ClaimJoined
import GoSem.ClaimMapViews
import Derived.JoinedTies
import Derived.KernelRfl
namespace Go.Proofs.Ytjphlhehhigpjaa
/- THE CELL 'sum', in the pinned program and in every row, IS THE sha256 OF THE DUMP (.gsa) THAT YtjphlhehhigpjaaProg.lean LOADS. Nothing in Lean hashes anything: it is a label: what it is worth is what the hold of that sum in a sandbox is worth. -/
noncomputable def Try.pinned : Pinned := { name := "ytjphlhehhigpjaa", sum := "a32e68c8a88117e82761c7658d122494a448d051799fc994bfd3be6924ef5b0a", checked := Try.checked }
namespace Rows
def none {H : Type} : Left H := { results := [], args := [] }

/-- 'shibbolethlaw37.CensusCounts': WHATEVER THE INPUT: true; the input reads as it did. -/
def censusCountsSpec : ChangeSpec := { name := "censusCounts", fn := fun _ => fun
  | [d] => { results := [.lit (.bool true)], args := [d] }
  | _ => none }
def censusCountsRow : OpenClaim := { program := "ytjphlhehhigpjaa", sum := "a32e68c8a88117e82761c7658d122494a448d051799fc994bfd3be6924ef5b0a", func := "shibboleth/shibbolethlaw37.CensusCounts", spec := "censusCounts", apart := false }
def CensusCountsSaid : Prop := censusCountsRow.holds Try.pinned (OpenSpec.ofChange censusCountsSpec)

/-- ITS FALSE NEIGHBOUR: 'it returns false'. Refute it at one input. -/
def censusCountsWrong : ChangeSpec := { name := "censusCounts", fn := fun _ => fun
  | [d] => { results := [.lit (.bool false)], args := [d] }
  | _ => none }
def CensusCountsWrongFalsely : Prop := censusCountsRow.holds Try.pinned (OpenSpec.ofChange censusCountsWrong)

/-- 'shibbolethlaw37.CensusSums': WHATEVER THE INPUT: true; the input reads as it did. -/
def censusSumsSpec : ChangeSpec := { name := "censusSums", fn := fun _ => fun
  | [d1, d2] => { results := [.lit (.bool true)], args := [d1, d2] }
  | _ => none }
def censusSumsRow : OpenClaim := { program := "ytjphlhehhigpjaa", sum := "a32e68c8a88117e82761c7658d122494a448d051799fc994bfd3be6924ef5b0a", func := "shibboleth/shibbolethlaw37.CensusSums", spec := "censusSums", apart := false }
def CensusSumsSaid : Prop := censusSumsRow.holds Try.pinned (OpenSpec.ofChange censusSumsSpec)

/-- ITS FALSE NEIGHBOUR: 'it returns false'. Refute it at one input. -/
def censusSumsWrong : ChangeSpec := { name := "censusSums", fn := fun _ => fun
  | [d1, d2] => { results := [.lit (.bool false)], args := [d1, d2] }
  | _ => none }
def CensusSumsWrongFalsely : Prop := censusSumsRow.holds Try.pinned (OpenSpec.ofChange censusSumsWrong)

/-- 'shibbolethlaw37.CensusSessions': WHATEVER THE INPUT: true; the input reads as it did. -/
def censusSessionsSpec : ChangeSpec := { name := "censusSessions", fn := fun _ => fun
  | [d] => { results := [.lit (.bool true)], args := [d] }
  | _ => none }
def censusSessionsRow : OpenClaim := { program := "ytjphlhehhigpjaa", sum := "a32e68c8a88117e82761c7658d122494a448d051799fc994bfd3be6924ef5b0a", func := "shibboleth/shibbolethlaw37.CensusSessions", spec := "censusSessions", unfollowed := true, recurses := true, apart := false }
def CensusSessionsSaid : Prop := censusSessionsRow.holds Try.pinned (OpenSpec.ofChange censusSessionsSpec)

/-- ITS FALSE NEIGHBOUR: 'it returns false'. Refute it at one input. -/
def censusSessionsWrong : ChangeSpec := { name := "censusSessions", fn := fun _ => fun
  | [d] => { results := [.lit (.bool false)], args := [d] }
  | _ => none }
def CensusSessionsWrongFalsely : Prop := censusSessionsRow.holds Try.pinned (OpenSpec.ofChange censusSessionsWrong)

/- THE SECOND FORM. 'bulk': how many values and letters a reading holds, each counted each time it is reached (what is shared counts as often as it is met; a slice's spare places count too). A statement '..UptoSaid' is the law's where the arguments, and the package variables that the reading takes, are together of bulk at most 1048576: NARROWER than '..Said'. Prove '..Said' where nothing that the law and all that it calls make is longer than what came in: it says more and counts as full. Else prove '..UptoSaid'. A law counts once. -/
mutual
def uptoBulk {H : Type} : DataW H → Nat
  | .lit (.string bytes) => bytes.length + 1
  | .lit _ => 1
  | .nil => 1
  | .ptr d => uptoBulk d + 1
  | .slice elems spare => uptoBulkAll elems + uptoBulkAll spare + 1
  | .agg parts => uptoBulkAll parts + 1
  | .iface _ d => uptoBulk d + 1
  | .map entries => uptoBulkEntries entries + 1
  | .held _ => 1
def uptoBulkAll {H : Type} : List (DataW H) → Nat
  | [] => 0
  | d :: r => uptoBulk d + uptoBulkAll r
def uptoBulkEntries {H : Type} : List (Lit × DataW H) → Nat
  | [] => 0
  | x :: r => uptoBulkEntry x + uptoBulkEntries r
def uptoBulkEntry {H : Type} : Lit × DataW H → Nat
  | (.string bytes, d) => bytes.length + uptoBulk d + 1
  | (_, d) => uptoBulk d + 1
 end
def uptoSmall : (H : Type) → List (DataW H) → Bool := fun _ ds => decide (uptoBulkAll ds ≤ 1048576)
def OpenSpec.upto (s : _root_.Go.ChangeSpec) : _root_.Go.OpenSpec := { _root_.Go.OpenSpec.ofChange s with cond := some uptoSmall }

/-- 'shibbolethlaw37.CensusCounts', WHERE WHAT IT READS IS OF BULK AT MOST 1048576: true; the input reads as it did. -/
def censusCountsUptoRow : OpenClaim := { program := "ytjphlhehhigpjaa", sum := "a32e68c8a88117e82761c7658d122494a448d051799fc994bfd3be6924ef5b0a", func := "shibboleth/shibbolethlaw37.CensusCounts", spec := "censusCounts", apart := false, narrowed := true }
def CensusCountsUptoSaid : Prop := censusCountsUptoRow.holds Try.pinned (OpenSpec.upto censusCountsSpec)

/-- 'shibbolethlaw37.CensusSums', WHERE WHAT IT READS IS OF BULK AT MOST 1048576: true; the input reads as it did. -/
def censusSumsUptoRow : OpenClaim := { program := "ytjphlhehhigpjaa", sum := "a32e68c8a88117e82761c7658d122494a448d051799fc994bfd3be6924ef5b0a", func := "shibboleth/shibbolethlaw37.CensusSums", spec := "censusSums", apart := false, narrowed := true }
def CensusSumsUptoSaid : Prop := censusSumsUptoRow.holds Try.pinned (OpenSpec.upto censusSumsSpec)

/-- 'shibbolethlaw37.CensusSessions', WHERE WHAT IT READS IS OF BULK AT MOST 1048576: true; the input reads as it did. -/
def censusSessionsUptoRow : OpenClaim := { program := "ytjphlhehhigpjaa", sum := "a32e68c8a88117e82761c7658d122494a448d051799fc994bfd3be6924ef5b0a", func := "shibboleth/shibbolethlaw37.CensusSessions", spec := "censusSessions", unfollowed := true, recurses := true, apart := false, narrowed := true }
def CensusSessionsUptoSaid : Prop := censusSessionsUptoRow.holds Try.pinned (OpenSpec.upto censusSessionsSpec)

end Rows
end Go.Proofs.Ytjphlhehhigpjaa
