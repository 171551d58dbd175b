/-
  No cell of these rows narrows 'for every input' (looked for: loops, veiled, ifaces, maps, wideKeys, modest, calm, conditions, laid).
  DERIVED. THE GIVEN ROWS OF THIS SEAT. 4 by the template 'for every input the law returns true; each argument reads behind the call as it read before'; 0 by the template 'total and deterministic' (their statements: YtfjbpaigbphbbaaTotals.lean).
  GIVEN WITH THE SEED: the statements are not yours to turn. If you find one false, say at which input.
  Laid BY PROGRAM, IN A SANDBOX (cutbox-rows.mjs): the forced cells as the released guide's own fill.sh prints them over the translation 6b569292be0564f8… (all of the seat's roots in one cut). By AI agents, Wed Nov 11 2026. No macro, syntax, notation, axiom, sorry.
-/
import Derived.Test.YtfjbpaigbphbbaaChecked
import GoSem.Claim
import GoSem.ClaimJoined
import GoSem.ClaimMapViews
import Derived.JoinedTies
import Derived.KernelRfl
namespace Go.Proofs.Ytfjbpaigbphbbaa
/- THE CELL 'sum', in the pinned program and in every row, IS THE sha256 OF THE DUMP (.gsa) THAT YtfjbpaigbphbbaaProg.lean LOADS. Nothing in Lean hashes anything: it is a label: what it is worth is what the hold of that sum in a sandbox is worth. -/
noncomputable def Try.pinned : Pinned := { name := "ytfjbpaigbphbbaa", sum := "6b569292be0564f88271e21e6eeb276dd0b0e8ce0a4066a0d871ed66aabf2080", checked := Try.checked }
namespace Rows
def none {H : Type} : Left H := { results := [], args := [] }

/-- 'shibbolethlaw31.TrustSafe': WHATEVER THE INPUT: true; the input reads as it did. -/
def trustSafeSpec : ChangeSpec := { name := "trustSafe", fn := fun _ => fun
  | [d1, d2, d3] => { results := [.lit (.bool true)], args := [d1, d2, d3] }
  | _ => none }
def trustSafeRow : OpenClaim := { program := "ytfjbpaigbphbbaa", sum := "6b569292be0564f88271e21e6eeb276dd0b0e8ce0a4066a0d871ed66aabf2080", func := "shibboleth/shibbolethlaw31.TrustSafe", spec := "trustSafe", unfollowed := true, recurses := true, apart := false }
def TrustSafeSaid : Prop := trustSafeRow.holds Try.pinned (OpenSpec.ofChange trustSafeSpec)

/-- ITS FALSE NEIGHBOUR: 'it returns false'. Refute it at one input. -/
def trustSafeWrong : ChangeSpec := { name := "trustSafe", fn := fun _ => fun
  | [d1, d2, d3] => { results := [.lit (.bool false)], args := [d1, d2, d3] }
  | _ => none }
def TrustSafeWrongFalsely : Prop := trustSafeRow.holds Try.pinned (OpenSpec.ofChange trustSafeWrong)

/-- 'shibbolethlaw31.TrustTaken': WHATEVER THE INPUT: true; the input reads as it did. -/
def trustTakenSpec : ChangeSpec := { name := "trustTaken", fn := fun _ => fun
  | [d1, d2] => { results := [.lit (.bool true)], args := [d1, d2] }
  | _ => none }
def trustTakenRow : OpenClaim := { program := "ytfjbpaigbphbbaa", sum := "6b569292be0564f88271e21e6eeb276dd0b0e8ce0a4066a0d871ed66aabf2080", func := "shibboleth/shibbolethlaw31.TrustTaken", spec := "trustTaken", unfollowed := true, recurses := true, apart := false }
def TrustTakenSaid : Prop := trustTakenRow.holds Try.pinned (OpenSpec.ofChange trustTakenSpec)

/-- ITS FALSE NEIGHBOUR: 'it returns false'. Refute it at one input. -/
def trustTakenWrong : ChangeSpec := { name := "trustTaken", fn := fun _ => fun
  | [d1, d2] => { results := [.lit (.bool false)], args := [d1, d2] }
  | _ => none }
def TrustTakenWrongFalsely : Prop := trustTakenRow.holds Try.pinned (OpenSpec.ofChange trustTakenWrong)

/-- 'shibbolethlaw31.TrustStays': WHATEVER THE INPUT: true; the input reads as it did. -/
def trustStaysSpec : ChangeSpec := { name := "trustStays", fn := fun _ => fun
  | [d1, d2] => { results := [.lit (.bool true)], args := [d1, d2] }
  | _ => none }
def trustStaysRow : OpenClaim := { program := "ytfjbpaigbphbbaa", sum := "6b569292be0564f88271e21e6eeb276dd0b0e8ce0a4066a0d871ed66aabf2080", func := "shibboleth/shibbolethlaw31.TrustStays", spec := "trustStays", unfollowed := true, recurses := true, apart := false }
def TrustStaysSaid : Prop := trustStaysRow.holds Try.pinned (OpenSpec.ofChange trustStaysSpec)

/-- ITS FALSE NEIGHBOUR: 'it returns false'. Refute it at one input. -/
def trustStaysWrong : ChangeSpec := { name := "trustStays", fn := fun _ => fun
  | [d1, d2] => { results := [.lit (.bool false)], args := [d1, d2] }
  | _ => none }
def TrustStaysWrongFalsely : Prop := trustStaysRow.holds Try.pinned (OpenSpec.ofChange trustStaysWrong)

/-- 'shibbolethlaw31.TrustPartners': WHATEVER THE INPUT: true; the input reads as it did. -/
def trustPartnersSpec : ChangeSpec := { name := "trustPartners", fn := fun _ => fun
  | [d1, d2] => { results := [.lit (.bool true)], args := [d1, d2] }
  | _ => none }
def trustPartnersRow : OpenClaim := { program := "ytfjbpaigbphbbaa", sum := "6b569292be0564f88271e21e6eeb276dd0b0e8ce0a4066a0d871ed66aabf2080", func := "shibboleth/shibbolethlaw31.TrustPartners", spec := "trustPartners", unfollowed := true, recurses := true, apart := false }
def TrustPartnersSaid : Prop := trustPartnersRow.holds Try.pinned (OpenSpec.ofChange trustPartnersSpec)

/-- ITS FALSE NEIGHBOUR: 'it returns false'. Refute it at one input. -/
def trustPartnersWrong : ChangeSpec := { name := "trustPartners", fn := fun _ => fun
  | [d1, d2] => { results := [.lit (.bool false)], args := [d1, d2] }
  | _ => none }
def TrustPartnersWrongFalsely : Prop := trustPartnersRow.holds Try.pinned (OpenSpec.ofChange trustPartnersWrong)

/- THE SECOND FORM. 'bulk': how many values and letters a reading holds, each counted each time it is reached (what is shared counts as often as it is met; a slice's spare places count too). A statement '..UptoSaid' is the law's where the arguments, and the package variables that the reading takes, are together of bulk at most 1048576: NARROWER than '..Said'. Prove '..Said' where nothing that the law and all that it calls make is longer than what came in: it says more and counts as full. Else prove '..UptoSaid'. A law counts once. -/
mutual
def uptoBulk {H : Type} : DataW H → Nat
  | .lit (.string bytes) => bytes.length + 1
  | .lit _ => 1
  | .nil => 1
  | .ptr d => uptoBulk d + 1
  | .slice elems spare => uptoBulkAll elems + uptoBulkAll spare + 1
  | .agg parts => uptoBulkAll parts + 1
  | .iface _ d => uptoBulk d + 1
  | .map entries => uptoBulkEntries entries + 1
  | .held _ => 1
def uptoBulkAll {H : Type} : List (DataW H) → Nat
  | [] => 0
  | d :: r => uptoBulk d + uptoBulkAll r
def uptoBulkEntries {H : Type} : List (Lit × DataW H) → Nat
  | [] => 0
  | x :: r => uptoBulkEntry x + uptoBulkEntries r
def uptoBulkEntry {H : Type} : Lit × DataW H → Nat
  | (.string bytes, d) => bytes.length + uptoBulk d + 1
  | (_, d) => uptoBulk d + 1
 end
def uptoSmall : (H : Type) → List (DataW H) → Bool := fun _ ds => decide (uptoBulkAll ds ≤ 1048576)
def OpenSpec.upto (s : _root_.Go.ChangeSpec) : _root_.Go.OpenSpec := { _root_.Go.OpenSpec.ofChange s with cond := some uptoSmall }

/-- 'shibbolethlaw31.TrustSafe', WHERE WHAT IT READS IS OF BULK AT MOST 1048576: true; the input reads as it did. -/
def trustSafeUptoRow : OpenClaim := { program := "ytfjbpaigbphbbaa", sum := "6b569292be0564f88271e21e6eeb276dd0b0e8ce0a4066a0d871ed66aabf2080", func := "shibboleth/shibbolethlaw31.TrustSafe", spec := "trustSafe", unfollowed := true, recurses := true, apart := false, narrowed := true }
def TrustSafeUptoSaid : Prop := trustSafeUptoRow.holds Try.pinned (OpenSpec.upto trustSafeSpec)

/-- 'shibbolethlaw31.TrustTaken', WHERE WHAT IT READS IS OF BULK AT MOST 1048576: true; the input reads as it did. -/
def trustTakenUptoRow : OpenClaim := { program := "ytfjbpaigbphbbaa", sum := "6b569292be0564f88271e21e6eeb276dd0b0e8ce0a4066a0d871ed66aabf2080", func := "shibboleth/shibbolethlaw31.TrustTaken", spec := "trustTaken", unfollowed := true, recurses := true, apart := false, narrowed := true }
def TrustTakenUptoSaid : Prop := trustTakenUptoRow.holds Try.pinned (OpenSpec.upto trustTakenSpec)

/-- 'shibbolethlaw31.TrustStays', WHERE WHAT IT READS IS OF BULK AT MOST 1048576: true; the input reads as it did. -/
def trustStaysUptoRow : OpenClaim := { program := "ytfjbpaigbphbbaa", sum := "6b569292be0564f88271e21e6eeb276dd0b0e8ce0a4066a0d871ed66aabf2080", func := "shibboleth/shibbolethlaw31.TrustStays", spec := "trustStays", unfollowed := true, recurses := true, apart := false, narrowed := true }
def TrustStaysUptoSaid : Prop := trustStaysUptoRow.holds Try.pinned (OpenSpec.upto trustStaysSpec)

/-- 'shibbolethlaw31.TrustPartners', WHERE WHAT IT READS IS OF BULK AT MOST 1048576: true; the input reads as it did. -/
def trustPartnersUptoRow : OpenClaim := { program := "ytfjbpaigbphbbaa", sum := "6b569292be0564f88271e21e6eeb276dd0b0e8ce0a4066a0d871ed66aabf2080", func := "shibboleth/shibbolethlaw31.TrustPartners", spec := "trustPartners", unfollowed := true, recurses := true, apart := false, narrowed := true }
def TrustPartnersUptoSaid : Prop := trustPartnersUptoRow.holds Try.pinned (OpenSpec.upto trustPartnersSpec)

end Rows
end Go.Proofs.Ytfjbpaigbphbbaa
