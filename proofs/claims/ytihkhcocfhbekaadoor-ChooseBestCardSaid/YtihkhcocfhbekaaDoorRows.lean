/-
  NARROWER THAN 'FOR EVERY INPUT', by the rows' own cells (each row's printed sentence says how): ChooseAny: laid · ChooseBest: laid · ChooseSelf: laid · GexPicks: laid · GexChecks: laid · GexTable: laid · GexNames: laid.
  DERIVED. THE GIVEN ROWS OF THIS SEAT. 7 by the template 'for every input the law returns true; each argument reads behind the call as it read before'; 0 by the template 'total and deterministic' (their statements: YtihkhcocfhbekaaDoorTotals.lean).
  GIVEN WITH THE SEED: the statements are not yours to turn. If you find one false, say at which input.
  Laid BY PROGRAM, IN A SANDBOX (cutbox-rows.mjs): the forced cells as the released guide's own fill.sh prints them over the translation 155b2b31e60423bb… (all of the seat's roots in one cut). By AI agents, Wed Nov 11 2026. No macro, syntax, notation, axiom, sorry.
-/
import Derived.Test.YtihkhcocfhbekaaDoorChecked
import GoSem.PinnedTables
import GoSem.Claim
import GoSem.ClaimJoined
import GoSem.ClaimMapViews
import Derived.JoinedTies
import Derived.KernelRfl
namespace Go.Proofs.YtihkhcocfhbekaaDoor
/- THE CELL 'sum', in the pinned program and in every row, IS THE sha256 OF THE DUMP (.gsa) THAT YtihkhcocfhbekaaDoorProg.lean LOADS. Nothing in Lean hashes anything: it is a label: what it is worth is what the hold of that sum in a sandbox is worth. -/
noncomputable def Tryd.pinned : Pinned := { name := "ytihkhcocfhbekaadoor", sum := "155b2b31e60423bba42ac7f18dcde7a115107e5db2be6cf4d2db3aad480d8e6d", checked := Tryd.checked }
namespace Rows
def none {H : Type} : Left H := { results := [], args := [] }

/- WHAT THE LISTED PACKAGE-LEVEL VARIABLES READ AS WHEN THE CALL BEGINS. Each datum BY PROGRAM (the guide's laid-datum.mjs) off the statement by which the dump's own 'gosem.cut.vars' lays the variable. In a bare row this is a premise. The card (YtihkhcocfhbekaaDoorCards.lean) ties it to the program's text. -/
def laid_errors_errorType {H : Type} : DataW H := .iface "internal/reflectlite.rtype" (.agg [.ptr (.lit (.string [101, 114, 114, 111, 114]))])
def laid_shibboleth_prefs_methodNames {H : Type} : DataW H := .agg [.lit (.string []), .lit (.string [99, 117, 114, 118, 101, 50, 53, 53, 49, 57, 45, 115, 104, 97, 50, 53, 54]), .lit (.string [101, 99, 100, 104, 45, 115, 104, 97, 50, 45, 110, 105, 115, 116, 112, 50, 53, 54]), .lit (.string [100, 105, 102, 102, 105, 101, 45, 104, 101, 108, 108, 109, 97, 110, 45, 103, 114, 111, 117, 112, 45, 101, 120, 99, 104, 97, 110, 103, 101, 45, 115, 104, 97, 50, 53, 54])]
def laid_shibboleth_prefs_listWords {H : Type} : DataW H := .agg [.lit (.string [107, 101, 120]), .lit (.string [104, 111, 115, 116]), .lit (.string [101, 110, 99, 45, 99]), .lit (.string [101, 110, 99, 45, 115]), .lit (.string [109, 97, 99, 45, 99]), .lit (.string [109, 97, 99, 45, 115]), .lit (.string [99, 111, 109, 112, 45, 99]), .lit (.string [99, 111, 109, 112, 45, 115])]
def laid_unicode_utf8_acceptRanges {H : Type} : DataW H := .agg [.agg [.lit (.int .u8 128), .lit (.int .u8 191)], .agg [.lit (.int .u8 160), .lit (.int .u8 191)], .agg [.lit (.int .u8 128), .lit (.int .u8 159)], .agg [.lit (.int .u8 144), .lit (.int .u8 191)], .agg [.lit (.int .u8 128), .lit (.int .u8 143)], .agg [.lit (.int .u8 0), .lit (.int .u8 0)], .agg [.lit (.int .u8 0), .lit (.int .u8 0)], .agg [.lit (.int .u8 0), .lit (.int .u8 0)], .agg [.lit (.int .u8 0), .lit (.int .u8 0)], .agg [.lit (.int .u8 0), .lit (.int .u8 0)], .agg [.lit (.int .u8 0), .lit (.int .u8 0)], .agg [.lit (.int .u8 0), .lit (.int .u8 0)], .agg [.lit (.int .u8 0), .lit (.int .u8 0)], .agg [.lit (.int .u8 0), .lit (.int .u8 0)], .agg [.lit (.int .u8 0), .lit (.int .u8 0)], .agg [.lit (.int .u8 0), .lit (.int .u8 0)]]
def laid_shibboleth_gex_sizes {H : Type} : DataW H := .agg [.lit (.int .i64 1024), .lit (.int .i64 2048), .lit (.int .i64 3072), .lit (.int .i64 4096)]
/-- One of Go's own tables, pinned by name: the form's constant. -/
def laid_unicode_utf8_first : DataW Unit := Go.Pinned.utf8First

/-- 'shibbolethlaw17.ChooseAny': WHATEVER THE INPUT: true; the input reads as it did. -/
def chooseAnySpec : ChangeSpec := { name := "chooseAny", fn := fun _ => fun
  | [d1, d2] => { results := [.lit (.bool true)], args := [d1, d2] }
  | _ => none }
def chooseAnyRow : OpenClaim := { program := "ytihkhcocfhbekaadoor", sum := "155b2b31e60423bba42ac7f18dcde7a115107e5db2be6cf4d2db3aad480d8e6d", func := "shibboleth/shibbolethlaw17.ChooseAny", spec := "chooseAny", inPlace := ["internal/reflectlite.ValueOf", "(internal/reflectlite.Value).Type", "(internal/reflectlite.Value).IsNil", "internal/reflectlite.TypeOf", "(internal/reflectlite.Value).Elem", "(internal/reflectlite.Value).Set"], unfollowed := true, recurses := true, named := ["shibboleth/prefs.methodNames", "shibboleth/prefs.listWords", "errors.errorType"], apart := false, laid := [("errors.errorType", laid_errors_errorType), ("shibboleth/prefs.methodNames", laid_shibboleth_prefs_methodNames), ("shibboleth/prefs.listWords", laid_shibboleth_prefs_listWords)] }
def ChooseAnySaid : Prop := chooseAnyRow.holds Tryd.pinned (OpenSpec.ofChange chooseAnySpec)

/-- ITS FALSE NEIGHBOUR: 'it returns false'. Refute it at one input. -/
def chooseAnyWrong : ChangeSpec := { name := "chooseAny", fn := fun _ => fun
  | [d1, d2] => { results := [.lit (.bool false)], args := [d1, d2] }
  | _ => none }
def ChooseAnyWrongFalsely : Prop := chooseAnyRow.holds Tryd.pinned (OpenSpec.ofChange chooseAnyWrong)

/-- 'shibbolethlaw17.ChooseBest': WHATEVER THE INPUT: true; the input reads as it did. -/
def chooseBestSpec : ChangeSpec := { name := "chooseBest", fn := fun _ => fun
  | [d1, d2] => { results := [.lit (.bool true)], args := [d1, d2] }
  | _ => none }
def chooseBestRow : OpenClaim := { program := "ytihkhcocfhbekaadoor", sum := "155b2b31e60423bba42ac7f18dcde7a115107e5db2be6cf4d2db3aad480d8e6d", func := "shibboleth/shibbolethlaw17.ChooseBest", spec := "chooseBest", named := ["shibboleth/prefs.methodNames", "shibboleth/prefs.listWords"], apart := false, laid := [("shibboleth/prefs.methodNames", laid_shibboleth_prefs_methodNames), ("shibboleth/prefs.listWords", laid_shibboleth_prefs_listWords)] }
def ChooseBestSaid : Prop := chooseBestRow.holds Tryd.pinned (OpenSpec.ofChange chooseBestSpec)

/-- ITS FALSE NEIGHBOUR: 'it returns false'. Refute it at one input. -/
def chooseBestWrong : ChangeSpec := { name := "chooseBest", fn := fun _ => fun
  | [d1, d2] => { results := [.lit (.bool false)], args := [d1, d2] }
  | _ => none }
def ChooseBestWrongFalsely : Prop := chooseBestRow.holds Tryd.pinned (OpenSpec.ofChange chooseBestWrong)

/-- 'shibbolethlaw17.ChooseSelf': WHATEVER THE INPUT: true; the input reads as it did. -/
def chooseSelfSpec : ChangeSpec := { name := "chooseSelf", fn := fun _ => fun
  | [d] => { results := [.lit (.bool true)], args := [d] }
  | _ => none }
def chooseSelfRow : OpenClaim := { program := "ytihkhcocfhbekaadoor", sum := "155b2b31e60423bba42ac7f18dcde7a115107e5db2be6cf4d2db3aad480d8e6d", func := "shibboleth/shibbolethlaw17.ChooseSelf", spec := "chooseSelf", named := ["shibboleth/prefs.methodNames", "shibboleth/prefs.listWords"], apart := false, laid := [("shibboleth/prefs.methodNames", laid_shibboleth_prefs_methodNames), ("shibboleth/prefs.listWords", laid_shibboleth_prefs_listWords)] }
def ChooseSelfSaid : Prop := chooseSelfRow.holds Tryd.pinned (OpenSpec.ofChange chooseSelfSpec)

/-- ITS FALSE NEIGHBOUR: 'it returns false'. Refute it at one input. -/
def chooseSelfWrong : ChangeSpec := { name := "chooseSelf", fn := fun _ => fun
  | [d] => { results := [.lit (.bool false)], args := [d] }
  | _ => none }
def ChooseSelfWrongFalsely : Prop := chooseSelfRow.holds Tryd.pinned (OpenSpec.ofChange chooseSelfWrong)

/-- 'shibbolethlaw18.GexPicks': WHATEVER THE INPUT: true; the input reads as it did. -/
def gexPicksSpec : ChangeSpec := { name := "gexPicks", fn := fun _ => fun
  | [d1, d2, d3] => { results := [.lit (.bool true)], args := [d1, d2, d3] }
  | _ => none }
def gexPicksRow : OpenClaim := { program := "ytihkhcocfhbekaadoor", sum := "155b2b31e60423bba42ac7f18dcde7a115107e5db2be6cf4d2db3aad480d8e6d", func := "shibboleth/shibbolethlaw18.GexPicks", spec := "gexPicks", inPlace := ["internal/bytealg.IndexByteString", "internal/bytealg.IndexString", "internal/reflectlite.ValueOf", "(internal/reflectlite.Value).Type", "(internal/reflectlite.Value).IsNil", "internal/reflectlite.TypeOf", "(internal/reflectlite.Value).Elem", "(internal/reflectlite.Value).Set"], unfollowed := true, recurses := true, named := ["shibboleth/gex.sizes", "unicode/utf8.first", "unicode/utf8.acceptRanges", "errors.errorType", "internal/bytealg.MaxLen"], apart := false, laid := [("unicode/utf8.acceptRanges", laid_unicode_utf8_acceptRanges), ("errors.errorType", laid_errors_errorType), ("shibboleth/gex.sizes", laid_shibboleth_gex_sizes), ("unicode/utf8.first", laid_unicode_utf8_first)] }
def GexPicksSaid : Prop := gexPicksRow.holds Tryd.pinned (OpenSpec.ofChange gexPicksSpec)

/-- ITS FALSE NEIGHBOUR: 'it returns false'. Refute it at one input. -/
def gexPicksWrong : ChangeSpec := { name := "gexPicks", fn := fun _ => fun
  | [d1, d2, d3] => { results := [.lit (.bool false)], args := [d1, d2, d3] }
  | _ => none }
def GexPicksWrongFalsely : Prop := gexPicksRow.holds Tryd.pinned (OpenSpec.ofChange gexPicksWrong)

/-- 'shibbolethlaw18.GexChecks': WHATEVER THE INPUT: true; the input reads as it did. -/
def gexChecksSpec : ChangeSpec := { name := "gexChecks", fn := fun _ => fun
  | [d1, d2, d3] => { results := [.lit (.bool true)], args := [d1, d2, d3] }
  | _ => none }
def gexChecksRow : OpenClaim := { program := "ytihkhcocfhbekaadoor", sum := "155b2b31e60423bba42ac7f18dcde7a115107e5db2be6cf4d2db3aad480d8e6d", func := "shibboleth/shibbolethlaw18.GexChecks", spec := "gexChecks", inPlace := ["internal/bytealg.IndexByteString", "internal/bytealg.IndexString", "internal/reflectlite.ValueOf", "(internal/reflectlite.Value).Type", "(internal/reflectlite.Value).IsNil", "internal/reflectlite.TypeOf", "(internal/reflectlite.Value).Elem", "(internal/reflectlite.Value).Set"], unfollowed := true, recurses := true, named := ["shibboleth/gex.sizes", "unicode/utf8.first", "unicode/utf8.acceptRanges", "errors.errorType", "internal/bytealg.MaxLen"], apart := false, laid := [("unicode/utf8.acceptRanges", laid_unicode_utf8_acceptRanges), ("errors.errorType", laid_errors_errorType), ("shibboleth/gex.sizes", laid_shibboleth_gex_sizes), ("unicode/utf8.first", laid_unicode_utf8_first)] }
def GexChecksSaid : Prop := gexChecksRow.holds Tryd.pinned (OpenSpec.ofChange gexChecksSpec)

/-- ITS FALSE NEIGHBOUR: 'it returns false'. Refute it at one input. -/
def gexChecksWrong : ChangeSpec := { name := "gexChecks", fn := fun _ => fun
  | [d1, d2, d3] => { results := [.lit (.bool false)], args := [d1, d2, d3] }
  | _ => none }
def GexChecksWrongFalsely : Prop := gexChecksRow.holds Tryd.pinned (OpenSpec.ofChange gexChecksWrong)

/-- 'shibbolethlaw18.GexTable': WHATEVER THE INPUT: true; the input reads as it did. -/
def gexTableSpec : ChangeSpec := { name := "gexTable", fn := fun _ => fun
  | [d1, d2] => { results := [.lit (.bool true)], args := [d1, d2] }
  | _ => none }
def gexTableRow : OpenClaim := { program := "ytihkhcocfhbekaadoor", sum := "155b2b31e60423bba42ac7f18dcde7a115107e5db2be6cf4d2db3aad480d8e6d", func := "shibboleth/shibbolethlaw18.GexTable", spec := "gexTable", inPlace := ["internal/bytealg.IndexByteString", "internal/bytealg.IndexString"], unfollowed := true, recurses := true, named := ["shibboleth/gex.sizes", "unicode/utf8.first", "unicode/utf8.acceptRanges", "internal/bytealg.MaxLen"], apart := false, laid := [("unicode/utf8.acceptRanges", laid_unicode_utf8_acceptRanges), ("shibboleth/gex.sizes", laid_shibboleth_gex_sizes), ("unicode/utf8.first", laid_unicode_utf8_first)] }
def GexTableSaid : Prop := gexTableRow.holds Tryd.pinned (OpenSpec.ofChange gexTableSpec)

/-- ITS FALSE NEIGHBOUR: 'it returns false'. Refute it at one input. -/
def gexTableWrong : ChangeSpec := { name := "gexTable", fn := fun _ => fun
  | [d1, d2] => { results := [.lit (.bool false)], args := [d1, d2] }
  | _ => none }
def GexTableWrongFalsely : Prop := gexTableRow.holds Tryd.pinned (OpenSpec.ofChange gexTableWrong)

/-- 'shibbolethlaw18.GexNames': WHATEVER THE INPUT: true; the input reads as it did. -/
def gexNamesSpec : ChangeSpec := { name := "gexNames", fn := fun _ => fun
  | [d1, d2] => { results := [.lit (.bool true)], args := [d1, d2] }
  | _ => none }
def gexNamesRow : OpenClaim := { program := "ytihkhcocfhbekaadoor", sum := "155b2b31e60423bba42ac7f18dcde7a115107e5db2be6cf4d2db3aad480d8e6d", func := "shibboleth/shibbolethlaw18.GexNames", spec := "gexNames", inPlace := ["internal/bytealg.IndexByteString", "internal/bytealg.IndexString"], unfollowed := true, recurses := true, named := ["shibboleth/gex.sizes", "unicode/utf8.first", "unicode/utf8.acceptRanges", "internal/bytealg.MaxLen"], apart := false, laid := [("unicode/utf8.acceptRanges", laid_unicode_utf8_acceptRanges), ("shibboleth/gex.sizes", laid_shibboleth_gex_sizes), ("unicode/utf8.first", laid_unicode_utf8_first)] }
def GexNamesSaid : Prop := gexNamesRow.holds Tryd.pinned (OpenSpec.ofChange gexNamesSpec)

/-- ITS FALSE NEIGHBOUR: 'it returns false'. Refute it at one input. -/
def gexNamesWrong : ChangeSpec := { name := "gexNames", fn := fun _ => fun
  | [d1, d2] => { results := [.lit (.bool false)], args := [d1, d2] }
  | _ => none }
def GexNamesWrongFalsely : Prop := gexNamesRow.holds Tryd.pinned (OpenSpec.ofChange gexNamesWrong)

/- THE SECOND FORM. 'bulk': how many values and letters a reading holds, each counted each time it is reached (what is shared counts as often as it is met; a slice's spare places count too). A statement '..UptoSaid' is the law's where the arguments, and the package variables that the reading takes, are together of bulk at most 1048576: NARROWER than '..Said'. Prove '..Said' where nothing that the law and all that it calls make is longer than what came in: it says more and counts as full. Else prove '..UptoSaid'. A law counts once. -/
mutual
def uptoBulk {H : Type} : DataW H → Nat
  | .lit (.string bytes) => bytes.length + 1
  | .lit _ => 1
  | .nil => 1
  | .ptr d => uptoBulk d + 1
  | .slice elems spare => uptoBulkAll elems + uptoBulkAll spare + 1
  | .agg parts => uptoBulkAll parts + 1
  | .iface _ d => uptoBulk d + 1
  | .map entries => uptoBulkEntries entries + 1
  | .held _ => 1
def uptoBulkAll {H : Type} : List (DataW H) → Nat
  | [] => 0
  | d :: r => uptoBulk d + uptoBulkAll r
def uptoBulkEntries {H : Type} : List (Lit × DataW H) → Nat
  | [] => 0
  | x :: r => uptoBulkEntry x + uptoBulkEntries r
def uptoBulkEntry {H : Type} : Lit × DataW H → Nat
  | (.string bytes, d) => bytes.length + uptoBulk d + 1
  | (_, d) => uptoBulk d + 1
 end
def uptoSmall : (H : Type) → List (DataW H) → Bool := fun _ ds => decide (uptoBulkAll ds ≤ 1048576)
def OpenSpec.upto (s : _root_.Go.ChangeSpec) : _root_.Go.OpenSpec := { _root_.Go.OpenSpec.ofChange s with cond := some uptoSmall }

/-- 'shibbolethlaw17.ChooseAny', WHERE WHAT IT READS IS OF BULK AT MOST 1048576: true; the input reads as it did. -/
def chooseAnyUptoRow : OpenClaim := { program := "ytihkhcocfhbekaadoor", sum := "155b2b31e60423bba42ac7f18dcde7a115107e5db2be6cf4d2db3aad480d8e6d", func := "shibboleth/shibbolethlaw17.ChooseAny", spec := "chooseAny", inPlace := ["internal/reflectlite.ValueOf", "(internal/reflectlite.Value).Type", "(internal/reflectlite.Value).IsNil", "internal/reflectlite.TypeOf", "(internal/reflectlite.Value).Elem", "(internal/reflectlite.Value).Set"], unfollowed := true, recurses := true, named := ["shibboleth/prefs.methodNames", "shibboleth/prefs.listWords", "errors.errorType"], apart := false, laid := [("errors.errorType", laid_errors_errorType), ("shibboleth/prefs.methodNames", laid_shibboleth_prefs_methodNames), ("shibboleth/prefs.listWords", laid_shibboleth_prefs_listWords)], narrowed := true }
def ChooseAnyUptoSaid : Prop := chooseAnyUptoRow.holds Tryd.pinned (OpenSpec.upto chooseAnySpec)

/-- 'shibbolethlaw17.ChooseBest', WHERE WHAT IT READS IS OF BULK AT MOST 1048576: true; the input reads as it did. -/
def chooseBestUptoRow : OpenClaim := { program := "ytihkhcocfhbekaadoor", sum := "155b2b31e60423bba42ac7f18dcde7a115107e5db2be6cf4d2db3aad480d8e6d", func := "shibboleth/shibbolethlaw17.ChooseBest", spec := "chooseBest", named := ["shibboleth/prefs.methodNames", "shibboleth/prefs.listWords"], apart := false, laid := [("shibboleth/prefs.methodNames", laid_shibboleth_prefs_methodNames), ("shibboleth/prefs.listWords", laid_shibboleth_prefs_listWords)], narrowed := true }
def ChooseBestUptoSaid : Prop := chooseBestUptoRow.holds Tryd.pinned (OpenSpec.upto chooseBestSpec)

/-- 'shibbolethlaw17.ChooseSelf', WHERE WHAT IT READS IS OF BULK AT MOST 1048576: true; the input reads as it did. -/
def chooseSelfUptoRow : OpenClaim := { program := "ytihkhcocfhbekaadoor", sum := "155b2b31e60423bba42ac7f18dcde7a115107e5db2be6cf4d2db3aad480d8e6d", func := "shibboleth/shibbolethlaw17.ChooseSelf", spec := "chooseSelf", named := ["shibboleth/prefs.methodNames", "shibboleth/prefs.listWords"], apart := false, laid := [("shibboleth/prefs.methodNames", laid_shibboleth_prefs_methodNames), ("shibboleth/prefs.listWords", laid_shibboleth_prefs_listWords)], narrowed := true }
def ChooseSelfUptoSaid : Prop := chooseSelfUptoRow.holds Tryd.pinned (OpenSpec.upto chooseSelfSpec)

/-- 'shibbolethlaw18.GexPicks', WHERE WHAT IT READS IS OF BULK AT MOST 1048576: true; the input reads as it did. -/
def gexPicksUptoRow : OpenClaim := { program := "ytihkhcocfhbekaadoor", sum := "155b2b31e60423bba42ac7f18dcde7a115107e5db2be6cf4d2db3aad480d8e6d", func := "shibboleth/shibbolethlaw18.GexPicks", spec := "gexPicks", inPlace := ["internal/bytealg.IndexByteString", "internal/bytealg.IndexString", "internal/reflectlite.ValueOf", "(internal/reflectlite.Value).Type", "(internal/reflectlite.Value).IsNil", "internal/reflectlite.TypeOf", "(internal/reflectlite.Value).Elem", "(internal/reflectlite.Value).Set"], unfollowed := true, recurses := true, named := ["shibboleth/gex.sizes", "unicode/utf8.first", "unicode/utf8.acceptRanges", "errors.errorType", "internal/bytealg.MaxLen"], apart := false, laid := [("unicode/utf8.acceptRanges", laid_unicode_utf8_acceptRanges), ("errors.errorType", laid_errors_errorType), ("shibboleth/gex.sizes", laid_shibboleth_gex_sizes), ("unicode/utf8.first", laid_unicode_utf8_first)], narrowed := true }
def GexPicksUptoSaid : Prop := gexPicksUptoRow.holds Tryd.pinned (OpenSpec.upto gexPicksSpec)

/-- 'shibbolethlaw18.GexChecks', WHERE WHAT IT READS IS OF BULK AT MOST 1048576: true; the input reads as it did. -/
def gexChecksUptoRow : OpenClaim := { program := "ytihkhcocfhbekaadoor", sum := "155b2b31e60423bba42ac7f18dcde7a115107e5db2be6cf4d2db3aad480d8e6d", func := "shibboleth/shibbolethlaw18.GexChecks", spec := "gexChecks", inPlace := ["internal/bytealg.IndexByteString", "internal/bytealg.IndexString", "internal/reflectlite.ValueOf", "(internal/reflectlite.Value).Type", "(internal/reflectlite.Value).IsNil", "internal/reflectlite.TypeOf", "(internal/reflectlite.Value).Elem", "(internal/reflectlite.Value).Set"], unfollowed := true, recurses := true, named := ["shibboleth/gex.sizes", "unicode/utf8.first", "unicode/utf8.acceptRanges", "errors.errorType", "internal/bytealg.MaxLen"], apart := false, laid := [("unicode/utf8.acceptRanges", laid_unicode_utf8_acceptRanges), ("errors.errorType", laid_errors_errorType), ("shibboleth/gex.sizes", laid_shibboleth_gex_sizes), ("unicode/utf8.first", laid_unicode_utf8_first)], narrowed := true }
def GexChecksUptoSaid : Prop := gexChecksUptoRow.holds Tryd.pinned (OpenSpec.upto gexChecksSpec)

/-- 'shibbolethlaw18.GexTable', WHERE WHAT IT READS IS OF BULK AT MOST 1048576: true; the input reads as it did. -/
def gexTableUptoRow : OpenClaim := { program := "ytihkhcocfhbekaadoor", sum := "155b2b31e60423bba42ac7f18dcde7a115107e5db2be6cf4d2db3aad480d8e6d", func := "shibboleth/shibbolethlaw18.GexTable", spec := "gexTable", inPlace := ["internal/bytealg.IndexByteString", "internal/bytealg.IndexString"], unfollowed := true, recurses := true, named := ["shibboleth/gex.sizes", "unicode/utf8.first", "unicode/utf8.acceptRanges", "internal/bytealg.MaxLen"], apart := false, laid := [("unicode/utf8.acceptRanges", laid_unicode_utf8_acceptRanges), ("shibboleth/gex.sizes", laid_shibboleth_gex_sizes), ("unicode/utf8.first", laid_unicode_utf8_first)], narrowed := true }
def GexTableUptoSaid : Prop := gexTableUptoRow.holds Tryd.pinned (OpenSpec.upto gexTableSpec)

/-- 'shibbolethlaw18.GexNames', WHERE WHAT IT READS IS OF BULK AT MOST 1048576: true; the input reads as it did. -/
def gexNamesUptoRow : OpenClaim := { program := "ytihkhcocfhbekaadoor", sum := "155b2b31e60423bba42ac7f18dcde7a115107e5db2be6cf4d2db3aad480d8e6d", func := "shibboleth/shibbolethlaw18.GexNames", spec := "gexNames", inPlace := ["internal/bytealg.IndexByteString", "internal/bytealg.IndexString"], unfollowed := true, recurses := true, named := ["shibboleth/gex.sizes", "unicode/utf8.first", "unicode/utf8.acceptRanges", "internal/bytealg.MaxLen"], apart := false, laid := [("unicode/utf8.acceptRanges", laid_unicode_utf8_acceptRanges), ("shibboleth/gex.sizes", laid_shibboleth_gex_sizes), ("unicode/utf8.first", laid_unicode_utf8_first)], narrowed := true }
def GexNamesUptoSaid : Prop := gexNamesUptoRow.holds Tryd.pinned (OpenSpec.upto gexNamesSpec)

end Rows
end Go.Proofs.YtihkhcocfhbekaaDoor
