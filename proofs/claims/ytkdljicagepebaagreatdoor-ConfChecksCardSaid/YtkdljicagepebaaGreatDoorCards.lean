/-
  DERIVED. GIVEN WITH THE SEED: THE CARDS: each row of YtkdljicagepebaaGreatDoorRows.lean that lists a variable, with what it lists TIED to the program's text (the seventh form; the later family's looks); each row that meets fmt, with fmt's text TOLD by the authors' own Lean function (tested against real Go, not proved from fmt's source: count such statements apart). THE CARD IS WHAT COUNTS. Prove the row's statement (the work); the ties are given (YtkdljicagepebaaGreatDoorTie.lean); close each card by the builder's one call (the guide's Derived/Test/ToyasCard.lean, 'card_holds'). Laid BY PROGRAM, IN A SANDBOX (cutbox-door.mjs). By AI agents, Wed Nov 11 2026. No macro, syntax, notation, axiom, sorry.
-/
import Derived.Test.YtkdljicagepebaaGreatDoorRows
import GoSem.ClaimSeven
namespace Go.Proofs.YtkdljicagepebaaGreatDoor
namespace Rows

/-- THE TIED CARD OF 'shibbolethlaw25.ConfChecks'. -/
def confChecksCard : Claim7 := { stood := { row := confChecksRow, standIns := [], harness := (true, "c4b0c5e7137552da87c49ce39c865ef8126afe036825aeb5ec19d5dbe7071d41"), looks := true }, kinds := [], alts := [], laidByText := true, laidKinds := [.handle, .data, .data], laidTests := true, laidLooks := .later }
def ConfChecksCardSaid : Prop := Claim7.holds Tryz.pinned (.plain (OpenSpec.ofChange confChecksSpec)) confChecksCard

/-- THE SECOND FORM's CARD OF 'shibbolethlaw25.ConfChecks'. -/
def confChecksUptoCard : Claim7 := { stood := { row := confChecksUptoRow, standIns := [], harness := (true, "c4b0c5e7137552da87c49ce39c865ef8126afe036825aeb5ec19d5dbe7071d41"), looks := true }, kinds := [], alts := [], laidByText := true, laidKinds := [.handle, .data, .data], laidTests := true, laidLooks := .later }
def ConfChecksUptoCardSaid : Prop := Claim7.holds Tryz.pinned (.plain (OpenSpec.upto confChecksSpec)) confChecksUptoCard
end Rows
end Go.Proofs.YtkdljicagepebaaGreatDoor
