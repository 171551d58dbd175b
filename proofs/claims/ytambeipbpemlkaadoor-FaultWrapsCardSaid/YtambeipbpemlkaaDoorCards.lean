/-
  DERIVED. GIVEN WITH THE SEED: THE CARDS: each row of YtambeipbpemlkaaDoorRows.lean that lists a variable, with what it lists TIED to the program's text (the seventh form; the later family's looks); each row that meets fmt, with fmt's text TOLD by the authors' own Lean function (tested against real Go, not proved from fmt's source: count such statements apart). THE CARD IS WHAT COUNTS. Prove the row's statement (the work); the ties are given (YtambeipbpemlkaaDoorTie.lean); close each card by the builder's one call (the guide's Derived/Test/ToyasCard.lean, 'card_holds'). Laid BY PROGRAM, IN A SANDBOX (cutbox-door.mjs). By AI agents, Wed Nov 11 2026. No macro, syntax, notation, axiom, sorry.
-/
import Derived.Test.YtambeipbpemlkaaDoorRows
import GoSem.ClaimSeven
namespace Go.Proofs.YtambeipbpemlkaaDoor
namespace Rows

/-- THE TIED CARD OF 'shibbolethlaw05.FaultWraps'. -/
def faultWrapsCard : Claim7 := { stood := { row := faultWrapsRow, standIns := [], harness := (true, "34c7c43626de745cdc91b57c15a55128b98aea90fd4c6ffc01eb566c594cc307"), looks := true }, kinds := [], alts := [], laidByText := true, laidKinds := [.handle], laidTests := true, laidLooks := .later }
def FaultWrapsCardSaid : Prop := Claim7.holds Tryd.pinned (.plain (OpenSpec.ofChange faultWrapsSpec)) faultWrapsCard

/-- THE TIED CARD OF 'shibbolethlaw05.FaultPlain'. -/
def faultPlainCard : Claim7 := { stood := { row := faultPlainRow, standIns := [], harness := (true, "34c7c43626de745cdc91b57c15a55128b98aea90fd4c6ffc01eb566c594cc307"), looks := true }, kinds := [], alts := [], laidByText := true, laidKinds := [.handle], laidTests := true, laidLooks := .later }
def FaultPlainCardSaid : Prop := Claim7.holds Tryd.pinned (.plain (OpenSpec.ofChange faultPlainSpec)) faultPlainCard

/-- THE TIED CARD OF 'shibbolethlaw05.FaultOdd'. -/
def faultOddCard : Claim7 := { stood := { row := faultOddRow, standIns := [], harness := (true, "34c7c43626de745cdc91b57c15a55128b98aea90fd4c6ffc01eb566c594cc307"), looks := true }, kinds := [], alts := [], laidByText := true, laidKinds := [.handle], laidTests := true, laidLooks := .later }
def FaultOddCardSaid : Prop := Claim7.holds Tryd.pinned (.plain (OpenSpec.ofChange faultOddSpec)) faultOddCard

/-- THE TIED CARD OF 'shibbolethlaw06.SchemaForms'. -/
def schemaFormsCard : Claim7 := { stood := { row := schemaFormsRow, standIns := [], harness := (true, "34c7c43626de745cdc91b57c15a55128b98aea90fd4c6ffc01eb566c594cc307"), looks := true }, kinds := [], alts := [], laidByText := true, laidKinds := [.data], laidTests := true, laidLooks := .later }
def SchemaFormsCardSaid : Prop := Claim7.holds Tryd.pinned (.plain (OpenSpec.ofChange schemaFormsSpec)) schemaFormsCard

/-- THE TIED CARD OF 'shibbolethlaw06.SchemaWords'. -/
def schemaWordsCard : Claim7 := { stood := { row := schemaWordsRow, standIns := [], harness := (true, "34c7c43626de745cdc91b57c15a55128b98aea90fd4c6ffc01eb566c594cc307"), looks := true }, kinds := [], alts := [], laidByText := true, laidKinds := [.data], laidTests := true, laidLooks := .later }
def SchemaWordsCardSaid : Prop := Claim7.holds Tryd.pinned (.plain (OpenSpec.ofChange schemaWordsSpec)) schemaWordsCard

/-- THE SECOND FORM's CARD OF 'shibbolethlaw05.FaultWraps'. -/
def faultWrapsUptoCard : Claim7 := { stood := { row := faultWrapsUptoRow, standIns := [], harness := (true, "34c7c43626de745cdc91b57c15a55128b98aea90fd4c6ffc01eb566c594cc307"), looks := true }, kinds := [], alts := [], laidByText := true, laidKinds := [.handle], laidTests := true, laidLooks := .later }
def FaultWrapsUptoCardSaid : Prop := Claim7.holds Tryd.pinned (.plain (OpenSpec.upto faultWrapsSpec)) faultWrapsUptoCard

/-- THE SECOND FORM's CARD OF 'shibbolethlaw05.FaultPlain'. -/
def faultPlainUptoCard : Claim7 := { stood := { row := faultPlainUptoRow, standIns := [], harness := (true, "34c7c43626de745cdc91b57c15a55128b98aea90fd4c6ffc01eb566c594cc307"), looks := true }, kinds := [], alts := [], laidByText := true, laidKinds := [.handle], laidTests := true, laidLooks := .later }
def FaultPlainUptoCardSaid : Prop := Claim7.holds Tryd.pinned (.plain (OpenSpec.upto faultPlainSpec)) faultPlainUptoCard

/-- THE SECOND FORM's CARD OF 'shibbolethlaw05.FaultOdd'. -/
def faultOddUptoCard : Claim7 := { stood := { row := faultOddUptoRow, standIns := [], harness := (true, "34c7c43626de745cdc91b57c15a55128b98aea90fd4c6ffc01eb566c594cc307"), looks := true }, kinds := [], alts := [], laidByText := true, laidKinds := [.handle], laidTests := true, laidLooks := .later }
def FaultOddUptoCardSaid : Prop := Claim7.holds Tryd.pinned (.plain (OpenSpec.upto faultOddSpec)) faultOddUptoCard

/-- THE SECOND FORM's CARD OF 'shibbolethlaw06.SchemaForms'. -/
def schemaFormsUptoCard : Claim7 := { stood := { row := schemaFormsUptoRow, standIns := [], harness := (true, "34c7c43626de745cdc91b57c15a55128b98aea90fd4c6ffc01eb566c594cc307"), looks := true }, kinds := [], alts := [], laidByText := true, laidKinds := [.data], laidTests := true, laidLooks := .later }
def SchemaFormsUptoCardSaid : Prop := Claim7.holds Tryd.pinned (.plain (OpenSpec.upto schemaFormsSpec)) schemaFormsUptoCard

/-- THE SECOND FORM's CARD OF 'shibbolethlaw06.SchemaWords'. -/
def schemaWordsUptoCard : Claim7 := { stood := { row := schemaWordsUptoRow, standIns := [], harness := (true, "34c7c43626de745cdc91b57c15a55128b98aea90fd4c6ffc01eb566c594cc307"), looks := true }, kinds := [], alts := [], laidByText := true, laidKinds := [.data], laidTests := true, laidLooks := .later }
def SchemaWordsUptoCardSaid : Prop := Claim7.holds Tryd.pinned (.plain (OpenSpec.upto schemaWordsSpec)) schemaWordsUptoCard
end Rows
end Go.Proofs.YtambeipbpemlkaaDoor
