/-
  DERIVED. GIVEN WITH THE SEED: THE CARDS: each row of YtbnecckgapainaaDoorRows.lean that lists a variable, with what it lists TIED to the program's text (the seventh form; the later family's looks); each row that meets fmt, with fmt's text TOLD by the authors' own Lean function (tested against real Go, not proved from fmt's source: count such statements apart). THE CARD IS WHAT COUNTS. Prove the row's statement (the work); the ties are given (YtbnecckgapainaaDoorTie.lean); close each card by the builder's one call (the guide's Derived/Test/ToyasCard.lean, 'card_holds'). Laid BY PROGRAM, IN A SANDBOX (cutbox-door.mjs). By AI agents, Wed Nov 11 2026. No macro, syntax, notation, axiom, sorry.
-/
import Derived.Test.YtbnecckgapainaaDoorRows
import GoSem.ClaimSeven
namespace Go.Proofs.YtbnecckgapainaaDoor
namespace Rows

/-- THE TIED CARD OF 'shibbolethlaw23.OrderGoes'. -/
def orderGoesCard : Claim7 := { stood := { row := orderGoesRow, standIns := [], harness := (true, "17c6c27f34e3faab3187f12a5eddc26981d6622f47a942ba9e4f5e918f1431f2"), looks := true }, kinds := [], alts := [], laidByText := true, laidKinds := [.data, .data], laidTests := true, laidLooks := .later }
def OrderGoesCardSaid : Prop := Claim7.holds Tryd.pinned (.plain (OpenSpec.ofChange orderGoesSpec)) orderGoesCard

/-- THE TIED CARD OF 'shibbolethlaw24.DenyChecks'. -/
def denyChecksCard : Claim7 := { stood := { row := denyChecksRow, standIns := [], harness := (true, "17c6c27f34e3faab3187f12a5eddc26981d6622f47a942ba9e4f5e918f1431f2"), looks := true }, kinds := [], alts := [], laidByText := true, laidKinds := [.handle], laidTests := true, laidLooks := .later }
def DenyChecksCardSaid : Prop := Claim7.holds Tryd.pinned (.plain (OpenSpec.ofChange denyChecksSpec)) denyChecksCard

/-- THE SECOND FORM's CARD OF 'shibbolethlaw23.OrderGoes'. -/
def orderGoesUptoCard : Claim7 := { stood := { row := orderGoesUptoRow, standIns := [], harness := (true, "17c6c27f34e3faab3187f12a5eddc26981d6622f47a942ba9e4f5e918f1431f2"), looks := true }, kinds := [], alts := [], laidByText := true, laidKinds := [.data, .data], laidTests := true, laidLooks := .later }
def OrderGoesUptoCardSaid : Prop := Claim7.holds Tryd.pinned (.plain (OpenSpec.upto orderGoesSpec)) orderGoesUptoCard

/-- THE SECOND FORM's CARD OF 'shibbolethlaw24.DenyChecks'. -/
def denyChecksUptoCard : Claim7 := { stood := { row := denyChecksUptoRow, standIns := [], harness := (true, "17c6c27f34e3faab3187f12a5eddc26981d6622f47a942ba9e4f5e918f1431f2"), looks := true }, kinds := [], alts := [], laidByText := true, laidKinds := [.handle], laidTests := true, laidLooks := .later }
def DenyChecksUptoCardSaid : Prop := Claim7.holds Tryd.pinned (.plain (OpenSpec.upto denyChecksSpec)) denyChecksUptoCard
end Rows
end Go.Proofs.YtbnecckgapainaaDoor
