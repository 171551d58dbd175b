/-
  No cell of these rows narrows 'for every input' (looked for: loops, veiled, ifaces, maps, wideKeys, modest, calm, conditions, laid).
  DERIVED. THE GIVEN ROWS OF THIS SEAT. 8 by the template 'for every input the law returns true; each argument reads behind the call as it read before'; 0 by the template 'total and deterministic' (their statements: YtamgbeinmfgglaaTotals.lean).
  GIVEN WITH THE SEED: the statements are not yours to turn. If you find one false, say at which input.
  Laid BY PROGRAM, IN A SANDBOX (cutbox-rows.mjs): the forced cells as the released guide's own fill.sh prints them over the translation 753450a85f4e6edf… (all of the seat's roots in one cut). By AI agents, Wed Nov 11 2026. No macro, syntax, notation, axiom, sorry.
-/
import Derived.Test.YtamgbeinmfgglaaChecked
import GoSem.Claim
import GoSem.ClaimJoined
import GoSem.ClaimMapViews
import Derived.JoinedTies
import Derived.KernelRfl
namespace Go.Proofs.Ytamgbeinmfgglaa
/- THE CELL 'sum', in the pinned program and in every row, IS THE sha256 OF THE DUMP (.gsa) THAT YtamgbeinmfgglaaProg.lean LOADS. Nothing in Lean hashes anything: it is a label: what it is worth is what the hold of that sum in a sandbox is worth. -/
noncomputable def Try.pinned : Pinned := { name := "ytamgbeinmfgglaa", sum := "753450a85f4e6edf56ff3c5f356c0f5ac4b6b44b1ee49373ff3dc9ef734cb6ef", checked := Try.checked }
namespace Rows
def none {H : Type} : Left H := { results := [], args := [] }

/-- 'shibbolethlaw01.TermMakes': WHATEVER THE INPUT: true; the input reads as it did. -/
def termMakesSpec : ChangeSpec := { name := "termMakes", fn := fun _ => fun
  | [d] => { results := [.lit (.bool true)], args := [d] }
  | _ => none }
def termMakesRow : OpenClaim := { program := "ytamgbeinmfgglaa", sum := "753450a85f4e6edf56ff3c5f356c0f5ac4b6b44b1ee49373ff3dc9ef734cb6ef", func := "shibboleth/shibbolethlaw01.TermMakes", spec := "termMakes", unfollowed := true, recurses := true, plainKeys := false, apart := false }
def TermMakesSaid : Prop := termMakesRow.holds Try.pinned (OpenSpec.ofChange termMakesSpec)

/-- ITS FALSE NEIGHBOUR: 'it returns false'. Refute it at one input. -/
def termMakesWrong : ChangeSpec := { name := "termMakes", fn := fun _ => fun
  | [d] => { results := [.lit (.bool false)], args := [d] }
  | _ => none }
def TermMakesWrongFalsely : Prop := termMakesRow.holds Try.pinned (OpenSpec.ofChange termMakesWrong)

/-- 'shibbolethlaw01.TermViews': WHATEVER THE INPUT: true; the input reads as it did. -/
def termViewsSpec : ChangeSpec := { name := "termViews", fn := fun _ => fun
  | [d1, d2] => { results := [.lit (.bool true)], args := [d1, d2] }
  | _ => none }
def termViewsRow : OpenClaim := { program := "ytamgbeinmfgglaa", sum := "753450a85f4e6edf56ff3c5f356c0f5ac4b6b44b1ee49373ff3dc9ef734cb6ef", func := "shibboleth/shibbolethlaw01.TermViews", spec := "termViews", unfollowed := true, recurses := true, plainKeys := false, apart := false }
def TermViewsSaid : Prop := termViewsRow.holds Try.pinned (OpenSpec.ofChange termViewsSpec)

/-- ITS FALSE NEIGHBOUR: 'it returns false'. Refute it at one input. -/
def termViewsWrong : ChangeSpec := { name := "termViews", fn := fun _ => fun
  | [d1, d2] => { results := [.lit (.bool false)], args := [d1, d2] }
  | _ => none }
def TermViewsWrongFalsely : Prop := termViewsRow.holds Try.pinned (OpenSpec.ofChange termViewsWrong)

/-- 'shibbolethlaw01.TermShares': WHATEVER THE INPUT: true; the input reads as it did. -/
def termSharesSpec : ChangeSpec := { name := "termShares", fn := fun _ => fun
  | [d1, d2, d3] => { results := [.lit (.bool true)], args := [d1, d2, d3] }
  | _ => none }
def termSharesRow : OpenClaim := { program := "ytamgbeinmfgglaa", sum := "753450a85f4e6edf56ff3c5f356c0f5ac4b6b44b1ee49373ff3dc9ef734cb6ef", func := "shibboleth/shibbolethlaw01.TermShares", spec := "termShares", unfollowed := true, recurses := true, plainKeys := false, apart := false }
def TermSharesSaid : Prop := termSharesRow.holds Try.pinned (OpenSpec.ofChange termSharesSpec)

/-- ITS FALSE NEIGHBOUR: 'it returns false'. Refute it at one input. -/
def termSharesWrong : ChangeSpec := { name := "termShares", fn := fun _ => fun
  | [d1, d2, d3] => { results := [.lit (.bool false)], args := [d1, d2, d3] }
  | _ => none }
def TermSharesWrongFalsely : Prop := termSharesRow.holds Try.pinned (OpenSpec.ofChange termSharesWrong)

/-- 'shibbolethlaw01.TermLong': WHATEVER THE INPUT: true; the input reads as it did. -/
def termLongSpec : ChangeSpec := { name := "termLong", fn := fun _ => fun
  | [d1, d2] => { results := [.lit (.bool true)], args := [d1, d2] }
  | _ => none }
def termLongRow : OpenClaim := { program := "ytamgbeinmfgglaa", sum := "753450a85f4e6edf56ff3c5f356c0f5ac4b6b44b1ee49373ff3dc9ef734cb6ef", func := "shibboleth/shibbolethlaw01.TermLong", spec := "termLong", plainKeys := false, apart := false }
def TermLongSaid : Prop := termLongRow.holds Try.pinned (OpenSpec.ofChange termLongSpec)

/-- ITS FALSE NEIGHBOUR: 'it returns false'. Refute it at one input. -/
def termLongWrong : ChangeSpec := { name := "termLong", fn := fun _ => fun
  | [d1, d2] => { results := [.lit (.bool false)], args := [d1, d2] }
  | _ => none }
def TermLongWrongFalsely : Prop := termLongRow.holds Try.pinned (OpenSpec.ofChange termLongWrong)

/-- 'shibbolethlaw02.CodeEncodes': WHATEVER THE INPUT: true; the input reads as it did. -/
def codeEncodesSpec : ChangeSpec := { name := "codeEncodes", fn := fun _ => fun
  | [d1, d2] => { results := [.lit (.bool true)], args := [d1, d2] }
  | _ => none }
def codeEncodesRow : OpenClaim := { program := "ytamgbeinmfgglaa", sum := "753450a85f4e6edf56ff3c5f356c0f5ac4b6b44b1ee49373ff3dc9ef734cb6ef", func := "shibboleth/shibbolethlaw02.CodeEncodes", spec := "codeEncodes", unfollowed := true, recurses := true, plainKeys := false, apart := false }
def CodeEncodesSaid : Prop := codeEncodesRow.holds Try.pinned (OpenSpec.ofChange codeEncodesSpec)

/-- ITS FALSE NEIGHBOUR: 'it returns false'. Refute it at one input. -/
def codeEncodesWrong : ChangeSpec := { name := "codeEncodes", fn := fun _ => fun
  | [d1, d2] => { results := [.lit (.bool false)], args := [d1, d2] }
  | _ => none }
def CodeEncodesWrongFalsely : Prop := codeEncodesRow.holds Try.pinned (OpenSpec.ofChange codeEncodesWrong)

/-- 'shibbolethlaw02.CodeDecodes': WHATEVER THE INPUT: true; the input reads as it did. -/
def codeDecodesSpec : ChangeSpec := { name := "codeDecodes", fn := fun _ => fun
  | [d] => { results := [.lit (.bool true)], args := [d] }
  | _ => none }
def codeDecodesRow : OpenClaim := { program := "ytamgbeinmfgglaa", sum := "753450a85f4e6edf56ff3c5f356c0f5ac4b6b44b1ee49373ff3dc9ef734cb6ef", func := "shibboleth/shibbolethlaw02.CodeDecodes", spec := "codeDecodes", unfollowed := true, recurses := true, plainKeys := false, apart := false }
def CodeDecodesSaid : Prop := codeDecodesRow.holds Try.pinned (OpenSpec.ofChange codeDecodesSpec)

/-- ITS FALSE NEIGHBOUR: 'it returns false'. Refute it at one input. -/
def codeDecodesWrong : ChangeSpec := { name := "codeDecodes", fn := fun _ => fun
  | [d] => { results := [.lit (.bool false)], args := [d] }
  | _ => none }
def CodeDecodesWrongFalsely : Prop := codeDecodesRow.holds Try.pinned (OpenSpec.ofChange codeDecodesWrong)

/-- 'shibbolethlaw02.CodeApart': WHATEVER THE INPUT: true; the input reads as it did. -/
def codeApartSpec : ChangeSpec := { name := "codeApart", fn := fun _ => fun
  | [d1, d2, d3] => { results := [.lit (.bool true)], args := [d1, d2, d3] }
  | _ => none }
def codeApartRow : OpenClaim := { program := "ytamgbeinmfgglaa", sum := "753450a85f4e6edf56ff3c5f356c0f5ac4b6b44b1ee49373ff3dc9ef734cb6ef", func := "shibboleth/shibbolethlaw02.CodeApart", spec := "codeApart", unfollowed := true, recurses := true, plainKeys := false, apart := false }
def CodeApartSaid : Prop := codeApartRow.holds Try.pinned (OpenSpec.ofChange codeApartSpec)

/-- ITS FALSE NEIGHBOUR: 'it returns false'. Refute it at one input. -/
def codeApartWrong : ChangeSpec := { name := "codeApart", fn := fun _ => fun
  | [d1, d2, d3] => { results := [.lit (.bool false)], args := [d1, d2, d3] }
  | _ => none }
def CodeApartWrongFalsely : Prop := codeApartRow.holds Try.pinned (OpenSpec.ofChange codeApartWrong)

/-- 'shibbolethlaw02.CodeLong': WHATEVER THE INPUT: true; the input reads as it did. -/
def codeLongSpec : ChangeSpec := { name := "codeLong", fn := fun _ => fun
  | [d] => { results := [.lit (.bool true)], args := [d] }
  | _ => none }
def codeLongRow : OpenClaim := { program := "ytamgbeinmfgglaa", sum := "753450a85f4e6edf56ff3c5f356c0f5ac4b6b44b1ee49373ff3dc9ef734cb6ef", func := "shibboleth/shibbolethlaw02.CodeLong", spec := "codeLong", unfollowed := true, recurses := true, plainKeys := false, apart := false }
def CodeLongSaid : Prop := codeLongRow.holds Try.pinned (OpenSpec.ofChange codeLongSpec)

/-- ITS FALSE NEIGHBOUR: 'it returns false'. Refute it at one input. -/
def codeLongWrong : ChangeSpec := { name := "codeLong", fn := fun _ => fun
  | [d] => { results := [.lit (.bool false)], args := [d] }
  | _ => none }
def CodeLongWrongFalsely : Prop := codeLongRow.holds Try.pinned (OpenSpec.ofChange codeLongWrong)

/- THE SECOND FORM. 'bulk': how many values and letters a reading holds, each counted each time it is reached (what is shared counts as often as it is met; a slice's spare places count too). A statement '..UptoSaid' is the law's where the arguments, and the package variables that the reading takes, are together of bulk at most 1048576: NARROWER than '..Said'. Prove '..Said' where nothing that the law and all that it calls make is longer than what came in: it says more and counts as full. Else prove '..UptoSaid'. A law counts once. -/
mutual
def uptoBulk {H : Type} : DataW H → Nat
  | .lit (.string bytes) => bytes.length + 1
  | .lit _ => 1
  | .nil => 1
  | .ptr d => uptoBulk d + 1
  | .slice elems spare => uptoBulkAll elems + uptoBulkAll spare + 1
  | .agg parts => uptoBulkAll parts + 1
  | .iface _ d => uptoBulk d + 1
  | .map entries => uptoBulkEntries entries + 1
  | .held _ => 1
def uptoBulkAll {H : Type} : List (DataW H) → Nat
  | [] => 0
  | d :: r => uptoBulk d + uptoBulkAll r
def uptoBulkEntries {H : Type} : List (Lit × DataW H) → Nat
  | [] => 0
  | x :: r => uptoBulkEntry x + uptoBulkEntries r
def uptoBulkEntry {H : Type} : Lit × DataW H → Nat
  | (.string bytes, d) => bytes.length + uptoBulk d + 1
  | (_, d) => uptoBulk d + 1
 end
def uptoSmall : (H : Type) → List (DataW H) → Bool := fun _ ds => decide (uptoBulkAll ds ≤ 1048576)
def OpenSpec.upto (s : _root_.Go.ChangeSpec) : _root_.Go.OpenSpec := { _root_.Go.OpenSpec.ofChange s with cond := some uptoSmall }

/-- 'shibbolethlaw01.TermMakes', WHERE WHAT IT READS IS OF BULK AT MOST 1048576: true; the input reads as it did. -/
def termMakesUptoRow : OpenClaim := { program := "ytamgbeinmfgglaa", sum := "753450a85f4e6edf56ff3c5f356c0f5ac4b6b44b1ee49373ff3dc9ef734cb6ef", func := "shibboleth/shibbolethlaw01.TermMakes", spec := "termMakes", unfollowed := true, recurses := true, plainKeys := false, apart := false, narrowed := true }
def TermMakesUptoSaid : Prop := termMakesUptoRow.holds Try.pinned (OpenSpec.upto termMakesSpec)

/-- 'shibbolethlaw01.TermViews', WHERE WHAT IT READS IS OF BULK AT MOST 1048576: true; the input reads as it did. -/
def termViewsUptoRow : OpenClaim := { program := "ytamgbeinmfgglaa", sum := "753450a85f4e6edf56ff3c5f356c0f5ac4b6b44b1ee49373ff3dc9ef734cb6ef", func := "shibboleth/shibbolethlaw01.TermViews", spec := "termViews", unfollowed := true, recurses := true, plainKeys := false, apart := false, narrowed := true }
def TermViewsUptoSaid : Prop := termViewsUptoRow.holds Try.pinned (OpenSpec.upto termViewsSpec)

/-- 'shibbolethlaw01.TermShares', WHERE WHAT IT READS IS OF BULK AT MOST 1048576: true; the input reads as it did. -/
def termSharesUptoRow : OpenClaim := { program := "ytamgbeinmfgglaa", sum := "753450a85f4e6edf56ff3c5f356c0f5ac4b6b44b1ee49373ff3dc9ef734cb6ef", func := "shibboleth/shibbolethlaw01.TermShares", spec := "termShares", unfollowed := true, recurses := true, plainKeys := false, apart := false, narrowed := true }
def TermSharesUptoSaid : Prop := termSharesUptoRow.holds Try.pinned (OpenSpec.upto termSharesSpec)

/-- 'shibbolethlaw01.TermLong', WHERE WHAT IT READS IS OF BULK AT MOST 1048576: true; the input reads as it did. -/
def termLongUptoRow : OpenClaim := { program := "ytamgbeinmfgglaa", sum := "753450a85f4e6edf56ff3c5f356c0f5ac4b6b44b1ee49373ff3dc9ef734cb6ef", func := "shibboleth/shibbolethlaw01.TermLong", spec := "termLong", plainKeys := false, apart := false, narrowed := true }
def TermLongUptoSaid : Prop := termLongUptoRow.holds Try.pinned (OpenSpec.upto termLongSpec)

/-- 'shibbolethlaw02.CodeEncodes', WHERE WHAT IT READS IS OF BULK AT MOST 1048576: true; the input reads as it did. -/
def codeEncodesUptoRow : OpenClaim := { program := "ytamgbeinmfgglaa", sum := "753450a85f4e6edf56ff3c5f356c0f5ac4b6b44b1ee49373ff3dc9ef734cb6ef", func := "shibboleth/shibbolethlaw02.CodeEncodes", spec := "codeEncodes", unfollowed := true, recurses := true, plainKeys := false, apart := false, narrowed := true }
def CodeEncodesUptoSaid : Prop := codeEncodesUptoRow.holds Try.pinned (OpenSpec.upto codeEncodesSpec)

/-- 'shibbolethlaw02.CodeDecodes', WHERE WHAT IT READS IS OF BULK AT MOST 1048576: true; the input reads as it did. -/
def codeDecodesUptoRow : OpenClaim := { program := "ytamgbeinmfgglaa", sum := "753450a85f4e6edf56ff3c5f356c0f5ac4b6b44b1ee49373ff3dc9ef734cb6ef", func := "shibboleth/shibbolethlaw02.CodeDecodes", spec := "codeDecodes", unfollowed := true, recurses := true, plainKeys := false, apart := false, narrowed := true }
def CodeDecodesUptoSaid : Prop := codeDecodesUptoRow.holds Try.pinned (OpenSpec.upto codeDecodesSpec)

/-- 'shibbolethlaw02.CodeApart', WHERE WHAT IT READS IS OF BULK AT MOST 1048576: true; the input reads as it did. -/
def codeApartUptoRow : OpenClaim := { program := "ytamgbeinmfgglaa", sum := "753450a85f4e6edf56ff3c5f356c0f5ac4b6b44b1ee49373ff3dc9ef734cb6ef", func := "shibboleth/shibbolethlaw02.CodeApart", spec := "codeApart", unfollowed := true, recurses := true, plainKeys := false, apart := false, narrowed := true }
def CodeApartUptoSaid : Prop := codeApartUptoRow.holds Try.pinned (OpenSpec.upto codeApartSpec)

/-- 'shibbolethlaw02.CodeLong', WHERE WHAT IT READS IS OF BULK AT MOST 1048576: true; the input reads as it did. -/
def codeLongUptoRow : OpenClaim := { program := "ytamgbeinmfgglaa", sum := "753450a85f4e6edf56ff3c5f356c0f5ac4b6b44b1ee49373ff3dc9ef734cb6ef", func := "shibboleth/shibbolethlaw02.CodeLong", spec := "codeLong", unfollowed := true, recurses := true, plainKeys := false, apart := false, narrowed := true }
def CodeLongUptoSaid : Prop := codeLongUptoRow.holds Try.pinned (OpenSpec.upto codeLongSpec)

end Rows
end Go.Proofs.Ytamgbeinmfgglaa
