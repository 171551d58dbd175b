/-
  DERIVED. GIVEN WITH THE SEED: THE CARDS: each row of YtjphlhehhigpjaaDoorRows.lean that lists a variable, with what it lists TIED to the program's text (the seventh form; the later family's looks); each row that meets fmt, with fmt's text TOLD by the authors' own Lean function (tested against real Go, not proved from fmt's source: count such statements apart). THE CARD IS WHAT COUNTS. Prove the row's statement (the work); the ties are given (YtjphlhehhigpjaaDoorTie.lean); close each card by the builder's one call (the guide's Derived/Test/ToyasCard.lean, 'card_holds'). Laid BY PROGRAM, IN A SANDBOX (cutbox-door.mjs). By AI agents, Wed Nov 11 2026. No macro, syntax, notation, axiom, sorry.
-/
import Derived.Test.YtjphlhehhigpjaaDoorRows
import GoSem.ClaimSeven
namespace Go.Proofs.YtjphlhehhigpjaaDoor
namespace Rows

/-- THE TIED CARD OF 'shibbolethlaw37.CensusNames'. -/
def censusNamesCard : Claim7 := { stood := { row := censusNamesRow, standIns := [], harness := (true, "2d80511b70949451672e58e1bd6597eb5d54c1e207d488b4bfa016effa9cecd3"), looks := true }, kinds := [], alts := [], laidByText := true, laidKinds := [.data], laidTests := true, laidLooks := .later }
def CensusNamesCardSaid : Prop := Claim7.holds Tryd.pinned (.plain (OpenSpec.ofChange censusNamesSpec)) censusNamesCard

/-- THE TIED CARD OF 'shibbolethlaw37.CensusChecks'. -/
def censusChecksCard : Claim7 := { stood := { row := censusChecksRow, standIns := [], harness := (true, "2d80511b70949451672e58e1bd6597eb5d54c1e207d488b4bfa016effa9cecd3"), looks := true }, kinds := [], alts := [], laidByText := true, laidKinds := [.handle], laidTests := true, laidLooks := .later }
def CensusChecksCardSaid : Prop := Claim7.holds Tryd.pinned (.plain (OpenSpec.ofChange censusChecksSpec)) censusChecksCard

/-- THE SECOND FORM's CARD OF 'shibbolethlaw37.CensusNames'. -/
def censusNamesUptoCard : Claim7 := { stood := { row := censusNamesUptoRow, standIns := [], harness := (true, "2d80511b70949451672e58e1bd6597eb5d54c1e207d488b4bfa016effa9cecd3"), looks := true }, kinds := [], alts := [], laidByText := true, laidKinds := [.data], laidTests := true, laidLooks := .later }
def CensusNamesUptoCardSaid : Prop := Claim7.holds Tryd.pinned (.plain (OpenSpec.upto censusNamesSpec)) censusNamesUptoCard

/-- THE SECOND FORM's CARD OF 'shibbolethlaw37.CensusChecks'. -/
def censusChecksUptoCard : Claim7 := { stood := { row := censusChecksUptoRow, standIns := [], harness := (true, "2d80511b70949451672e58e1bd6597eb5d54c1e207d488b4bfa016effa9cecd3"), looks := true }, kinds := [], alts := [], laidByText := true, laidKinds := [.handle], laidTests := true, laidLooks := .later }
def CensusChecksUptoCardSaid : Prop := Claim7.holds Tryd.pinned (.plain (OpenSpec.upto censusChecksSpec)) censusChecksUptoCard
end Rows
end Go.Proofs.YtjphlhehhigpjaaDoor
