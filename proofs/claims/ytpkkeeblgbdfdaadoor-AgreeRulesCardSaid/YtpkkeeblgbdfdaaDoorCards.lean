/-
  DERIVED. GIVEN WITH THE SEED: THE CARDS: each row of YtpkkeeblgbdfdaaDoorRows.lean that lists a variable, with what it lists TIED to the program's text (the seventh form; the later family's looks); each row that meets fmt, with fmt's text TOLD by the authors' own Lean function (tested against real Go, not proved from fmt's source: count such statements apart). THE CARD IS WHAT COUNTS. Prove the row's statement (the work); the ties are given (YtpkkeeblgbdfdaaDoorTie.lean); close each card by the builder's one call (the guide's Derived/Test/ToyasCard.lean, 'card_holds'). Laid BY PROGRAM, IN A SANDBOX (cutbox-door.mjs). By AI agents, Wed Nov 11 2026. No macro, syntax, notation, axiom, sorry.
-/
import Derived.Test.YtpkkeeblgbdfdaaDoorRows
import GoSem.ClaimSeven
namespace Go.Proofs.YtpkkeeblgbdfdaaDoor
namespace Rows

/-- THE TIED CARD OF 'shibbolethlaw32.AgreeRules'. -/
def agreeRulesCard : Claim7 := { stood := { row := agreeRulesRow, standIns := [], harness := (true, "72064c08010267b424766a020460837117aeeb0fe41f1a7188944734314d60f3"), looks := true }, kinds := [], alts := [], laidByText := true, laidKinds := [.handle], laidTests := true, laidLooks := .later }
def AgreeRulesCardSaid : Prop := Claim7.holds Tryd.pinned (.plain (OpenSpec.ofChange agreeRulesSpec)) agreeRulesCard

/-- THE SECOND FORM's CARD OF 'shibbolethlaw32.AgreeRules'. -/
def agreeRulesUptoCard : Claim7 := { stood := { row := agreeRulesUptoRow, standIns := [], harness := (true, "72064c08010267b424766a020460837117aeeb0fe41f1a7188944734314d60f3"), looks := true }, kinds := [], alts := [], laidByText := true, laidKinds := [.handle], laidTests := true, laidLooks := .later }
def AgreeRulesUptoCardSaid : Prop := Claim7.holds Tryd.pinned (.plain (OpenSpec.upto agreeRulesSpec)) agreeRulesUptoCard
end Rows
end Go.Proofs.YtpkkeeblgbdfdaaDoor
