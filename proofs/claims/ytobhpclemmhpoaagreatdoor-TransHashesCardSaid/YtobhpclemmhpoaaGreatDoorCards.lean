/-
  DERIVED. GIVEN WITH THE SEED: THE CARDS: each row of YtobhpclemmhpoaaGreatDoorRows.lean that lists a variable, with what it lists TIED to the program's text (the seventh form; the later family's looks); each row that meets fmt, with fmt's text TOLD by the authors' own Lean function (tested against real Go, not proved from fmt's source: count such statements apart). THE CARD IS WHAT COUNTS. Prove the row's statement (the work); the ties are given (YtobhpclemmhpoaaGreatDoorTie.lean); close each card by the builder's one call (the guide's Derived/Test/ToyasCard.lean, 'card_holds'). Laid BY PROGRAM, IN A SANDBOX (cutbox-door.mjs). By AI agents, Wed Nov 11 2026. No macro, syntax, notation, axiom, sorry.
-/
import Derived.Test.YtobhpclemmhpoaaGreatDoorRows
import GoSem.ClaimSeven
namespace Go.Proofs.YtobhpclemmhpoaaGreatDoor
namespace Rows

/-- THE TIED CARD OF 'shibbolethlaw20.TransHashes'. -/
def transHashesCard : Claim7 := { stood := { row := transHashesRow, standIns := [], harness := (true, "30c9445bfcaa205e4486b6b0fb70a3b8c5501d9c6fcb0e915ebc919d701d3075"), looks := false }, kinds := [], alts := [], laidByText := true, laidKinds := [.data, .pinned], laidTests := true, laidLooks := .later }
def TransHashesCardSaid : Prop := Claim7.holds Tryz.pinned (.plain (OpenSpec.ofChange transHashesSpec)) transHashesCard

/-- THE TIED CARD OF 'shibbolethlaw20.TransApart'. -/
def transApartCard : Claim7 := { stood := { row := transApartRow, standIns := [], harness := (true, "30c9445bfcaa205e4486b6b0fb70a3b8c5501d9c6fcb0e915ebc919d701d3075"), looks := false }, kinds := [], alts := [], laidByText := true, laidKinds := [.data, .pinned], laidTests := true, laidLooks := .later }
def TransApartCardSaid : Prop := Claim7.holds Tryz.pinned (.plain (OpenSpec.ofChange transApartSpec)) transApartCard

/-- THE SECOND FORM's CARD OF 'shibbolethlaw20.TransHashes'. -/
def transHashesUptoCard : Claim7 := { stood := { row := transHashesUptoRow, standIns := [], harness := (true, "30c9445bfcaa205e4486b6b0fb70a3b8c5501d9c6fcb0e915ebc919d701d3075"), looks := false }, kinds := [], alts := [], laidByText := true, laidKinds := [.data, .pinned], laidTests := true, laidLooks := .later }
def TransHashesUptoCardSaid : Prop := Claim7.holds Tryz.pinned (.plain (OpenSpec.upto transHashesSpec)) transHashesUptoCard

/-- THE SECOND FORM's CARD OF 'shibbolethlaw20.TransApart'. -/
def transApartUptoCard : Claim7 := { stood := { row := transApartUptoRow, standIns := [], harness := (true, "30c9445bfcaa205e4486b6b0fb70a3b8c5501d9c6fcb0e915ebc919d701d3075"), looks := false }, kinds := [], alts := [], laidByText := true, laidKinds := [.data, .pinned], laidTests := true, laidLooks := .later }
def TransApartUptoCardSaid : Prop := Claim7.holds Tryz.pinned (.plain (OpenSpec.upto transApartSpec)) transApartUptoCard
end Rows
end Go.Proofs.YtobhpclemmhpoaaGreatDoor
