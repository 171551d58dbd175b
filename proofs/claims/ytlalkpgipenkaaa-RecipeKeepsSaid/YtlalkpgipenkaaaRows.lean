/-
  No cell of these rows narrows 'for every input' (looked for: loops, veiled, ifaces, maps, wideKeys, modest, calm, conditions, laid).
  DERIVED. THE GIVEN ROWS OF THIS SEAT. 3 by the template 'for every input the law returns true; each argument reads behind the call as it read before'; 0 by the template 'total and deterministic' (their statements: YtlalkpgipenkaaaTotals.lean).
  GIVEN WITH THE SEED: the statements are not yours to turn. If you find one false, say at which input.
  Laid BY PROGRAM, IN A SANDBOX (cutbox-rows.mjs): the forced cells as the released guide's own fill.sh prints them over the translation f218d1b0ae437406… (all of the seat's roots in one cut). By AI agents, Wed Nov 11 2026. No macro, syntax, notation, axiom, sorry.
-/
import Derived.Test.YtlalkpgipenkaaaChecked
import GoSem.Claim
import GoSem.ClaimJoined
import GoSem.ClaimMapViews
import Derived.JoinedTies
import Derived.KernelRfl
namespace Go.Proofs.Ytlalkpgipenkaaa
/- THE CELL 'sum', in the pinned program and in every row, IS THE sha256 OF THE DUMP (.gsa) THAT YtlalkpgipenkaaaProg.lean LOADS. Nothing in Lean hashes anything: it is a label: what it is worth is what the hold of that sum in a sandbox is worth. -/
noncomputable def Try.pinned : Pinned := { name := "ytlalkpgipenkaaa", sum := "f218d1b0ae437406cac50f5d23c2ee2f6ec366a62629522254e640f85dd107d7", checked := Try.checked }
namespace Rows
def none {H : Type} : Left H := { results := [], args := [] }

/-- 'shibbolethlaw13.StreamTakes': WHATEVER THE INPUT: true; the input reads as it did. -/
def streamTakesSpec : ChangeSpec := { name := "streamTakes", fn := fun _ => fun
  | [d] => { results := [.lit (.bool true)], args := [d] }
  | _ => none }
def streamTakesRow : OpenClaim := { program := "ytlalkpgipenkaaa", sum := "f218d1b0ae437406cac50f5d23c2ee2f6ec366a62629522254e640f85dd107d7", func := "shibboleth/shibbolethlaw13.StreamTakes", spec := "streamTakes", unfollowed := true, recurses := true, plainKeys := false, apart := false }
def StreamTakesSaid : Prop := streamTakesRow.holds Try.pinned (OpenSpec.ofChange streamTakesSpec)

/-- ITS FALSE NEIGHBOUR: 'it returns false'. Refute it at one input. -/
def streamTakesWrong : ChangeSpec := { name := "streamTakes", fn := fun _ => fun
  | [d] => { results := [.lit (.bool false)], args := [d] }
  | _ => none }
def StreamTakesWrongFalsely : Prop := streamTakesRow.holds Try.pinned (OpenSpec.ofChange streamTakesWrong)

/-- 'shibbolethlaw13.StreamPieces': WHATEVER THE INPUT: true; the input reads as it did. -/
def streamPiecesSpec : ChangeSpec := { name := "streamPieces", fn := fun _ => fun
  | [d1, d2] => { results := [.lit (.bool true)], args := [d1, d2] }
  | _ => none }
def streamPiecesRow : OpenClaim := { program := "ytlalkpgipenkaaa", sum := "f218d1b0ae437406cac50f5d23c2ee2f6ec366a62629522254e640f85dd107d7", func := "shibboleth/shibbolethlaw13.StreamPieces", spec := "streamPieces", unfollowed := true, recurses := true, plainKeys := false, apart := false }
def StreamPiecesSaid : Prop := streamPiecesRow.holds Try.pinned (OpenSpec.ofChange streamPiecesSpec)

/-- ITS FALSE NEIGHBOUR: 'it returns false'. Refute it at one input. -/
def streamPiecesWrong : ChangeSpec := { name := "streamPieces", fn := fun _ => fun
  | [d1, d2] => { results := [.lit (.bool false)], args := [d1, d2] }
  | _ => none }
def StreamPiecesWrongFalsely : Prop := streamPiecesRow.holds Try.pinned (OpenSpec.ofChange streamPiecesWrong)

/-- 'shibbolethlaw14.RecipeKeeps': WHATEVER THE INPUT: true; the input reads as it did. -/
def recipeKeepsSpec : ChangeSpec := { name := "recipeKeeps", fn := fun _ => fun
  | [d1, d2, d3] => { results := [.lit (.bool true)], args := [d1, d2, d3] }
  | _ => none }
def recipeKeepsRow : OpenClaim := { program := "ytlalkpgipenkaaa", sum := "f218d1b0ae437406cac50f5d23c2ee2f6ec366a62629522254e640f85dd107d7", func := "shibboleth/shibbolethlaw14.RecipeKeeps", spec := "recipeKeeps", unfollowed := true, recurses := true, plainKeys := false, apart := false }
def RecipeKeepsSaid : Prop := recipeKeepsRow.holds Try.pinned (OpenSpec.ofChange recipeKeepsSpec)

/-- ITS FALSE NEIGHBOUR: 'it returns false'. Refute it at one input. -/
def recipeKeepsWrong : ChangeSpec := { name := "recipeKeeps", fn := fun _ => fun
  | [d1, d2, d3] => { results := [.lit (.bool false)], args := [d1, d2, d3] }
  | _ => none }
def RecipeKeepsWrongFalsely : Prop := recipeKeepsRow.holds Try.pinned (OpenSpec.ofChange recipeKeepsWrong)

/- THE SECOND FORM. 'bulk': how many values and letters a reading holds, each counted each time it is reached (what is shared counts as often as it is met; a slice's spare places count too). A statement '..UptoSaid' is the law's where the arguments, and the package variables that the reading takes, are together of bulk at most 1048576: NARROWER than '..Said'. Prove '..Said' where nothing that the law and all that it calls make is longer than what came in: it says more and counts as full. Else prove '..UptoSaid'. A law counts once. -/
mutual
def uptoBulk {H : Type} : DataW H → Nat
  | .lit (.string bytes) => bytes.length + 1
  | .lit _ => 1
  | .nil => 1
  | .ptr d => uptoBulk d + 1
  | .slice elems spare => uptoBulkAll elems + uptoBulkAll spare + 1
  | .agg parts => uptoBulkAll parts + 1
  | .iface _ d => uptoBulk d + 1
  | .map entries => uptoBulkEntries entries + 1
  | .held _ => 1
def uptoBulkAll {H : Type} : List (DataW H) → Nat
  | [] => 0
  | d :: r => uptoBulk d + uptoBulkAll r
def uptoBulkEntries {H : Type} : List (Lit × DataW H) → Nat
  | [] => 0
  | x :: r => uptoBulkEntry x + uptoBulkEntries r
def uptoBulkEntry {H : Type} : Lit × DataW H → Nat
  | (.string bytes, d) => bytes.length + uptoBulk d + 1
  | (_, d) => uptoBulk d + 1
 end
def uptoSmall : (H : Type) → List (DataW H) → Bool := fun _ ds => decide (uptoBulkAll ds ≤ 1048576)
def OpenSpec.upto (s : _root_.Go.ChangeSpec) : _root_.Go.OpenSpec := { _root_.Go.OpenSpec.ofChange s with cond := some uptoSmall }

/-- 'shibbolethlaw13.StreamTakes', WHERE WHAT IT READS IS OF BULK AT MOST 1048576: true; the input reads as it did. -/
def streamTakesUptoRow : OpenClaim := { program := "ytlalkpgipenkaaa", sum := "f218d1b0ae437406cac50f5d23c2ee2f6ec366a62629522254e640f85dd107d7", func := "shibboleth/shibbolethlaw13.StreamTakes", spec := "streamTakes", unfollowed := true, recurses := true, plainKeys := false, apart := false, narrowed := true }
def StreamTakesUptoSaid : Prop := streamTakesUptoRow.holds Try.pinned (OpenSpec.upto streamTakesSpec)

/-- 'shibbolethlaw13.StreamPieces', WHERE WHAT IT READS IS OF BULK AT MOST 1048576: true; the input reads as it did. -/
def streamPiecesUptoRow : OpenClaim := { program := "ytlalkpgipenkaaa", sum := "f218d1b0ae437406cac50f5d23c2ee2f6ec366a62629522254e640f85dd107d7", func := "shibboleth/shibbolethlaw13.StreamPieces", spec := "streamPieces", unfollowed := true, recurses := true, plainKeys := false, apart := false, narrowed := true }
def StreamPiecesUptoSaid : Prop := streamPiecesUptoRow.holds Try.pinned (OpenSpec.upto streamPiecesSpec)

/-- 'shibbolethlaw14.RecipeKeeps', WHERE WHAT IT READS IS OF BULK AT MOST 1048576: true; the input reads as it did. -/
def recipeKeepsUptoRow : OpenClaim := { program := "ytlalkpgipenkaaa", sum := "f218d1b0ae437406cac50f5d23c2ee2f6ec366a62629522254e640f85dd107d7", func := "shibboleth/shibbolethlaw14.RecipeKeeps", spec := "recipeKeeps", unfollowed := true, recurses := true, plainKeys := false, apart := false, narrowed := true }
def RecipeKeepsUptoSaid : Prop := recipeKeepsUptoRow.holds Try.pinned (OpenSpec.upto recipeKeepsSpec)

end Rows
end Go.Proofs.Ytlalkpgipenkaaa
