/-
  DERIVED. GIVEN WITH THE SEED: THE CARDS: each row of YtihkhcocfhbekaaDoorRows.lean that lists a variable, with what it lists TIED to the program's text (the seventh form; the later family's looks); each row that meets fmt, with fmt's text TOLD by the authors' own Lean function (tested against real Go, not proved from fmt's source: count such statements apart). THE CARD IS WHAT COUNTS. Prove the row's statement (the work); the ties are given (YtihkhcocfhbekaaDoorTie.lean); close each card by the builder's one call (the guide's Derived/Test/ToyasCard.lean, 'card_holds'). Laid BY PROGRAM, IN A SANDBOX (cutbox-door.mjs). By AI agents, Wed Nov 11 2026. No macro, syntax, notation, axiom, sorry.
-/
import Derived.Test.YtihkhcocfhbekaaDoorRows
import GoSem.ClaimSeven
namespace Go.Proofs.YtihkhcocfhbekaaDoor
namespace Rows

/-- THE TIED CARD OF 'shibbolethlaw17.ChooseAny'. -/
def chooseAnyCard : Claim7 := { stood := { row := chooseAnyRow, standIns := [], harness := (true, "a04b3a004a7e1eee76fd825a5f4f5c375d357ec25a6f672acd154c67fe1cc3c1"), looks := true }, kinds := [], alts := [], laidByText := true, laidKinds := [.handle, .data, .data], laidTests := true, laidLooks := .later }
def ChooseAnyCardSaid : Prop := Claim7.holds Tryd.pinned (.plain (OpenSpec.ofChange chooseAnySpec)) chooseAnyCard

/-- THE TIED CARD OF 'shibbolethlaw17.ChooseBest'. -/
def chooseBestCard : Claim7 := { stood := { row := chooseBestRow, standIns := [], harness := (true, "a04b3a004a7e1eee76fd825a5f4f5c375d357ec25a6f672acd154c67fe1cc3c1"), looks := true }, kinds := [], alts := [], laidByText := true, laidKinds := [.data, .data], laidTests := true, laidLooks := .later }
def ChooseBestCardSaid : Prop := Claim7.holds Tryd.pinned (.plain (OpenSpec.ofChange chooseBestSpec)) chooseBestCard

/-- THE TIED CARD OF 'shibbolethlaw17.ChooseSelf'. -/
def chooseSelfCard : Claim7 := { stood := { row := chooseSelfRow, standIns := [], harness := (true, "a04b3a004a7e1eee76fd825a5f4f5c375d357ec25a6f672acd154c67fe1cc3c1"), looks := true }, kinds := [], alts := [], laidByText := true, laidKinds := [.data, .data], laidTests := true, laidLooks := .later }
def ChooseSelfCardSaid : Prop := Claim7.holds Tryd.pinned (.plain (OpenSpec.ofChange chooseSelfSpec)) chooseSelfCard

/-- THE TIED CARD OF 'shibbolethlaw18.GexPicks'. -/
def gexPicksCard : Claim7 := { stood := { row := gexPicksRow, standIns := [], harness := (true, "a04b3a004a7e1eee76fd825a5f4f5c375d357ec25a6f672acd154c67fe1cc3c1"), looks := true }, kinds := [], alts := [], laidByText := true, laidKinds := [.data, .handle, .data, .pinned], laidTests := true, laidLooks := .later }
def GexPicksCardSaid : Prop := Claim7.holds Tryd.pinned (.plain (OpenSpec.ofChange gexPicksSpec)) gexPicksCard

/-- THE TIED CARD OF 'shibbolethlaw18.GexChecks'. -/
def gexChecksCard : Claim7 := { stood := { row := gexChecksRow, standIns := [], harness := (true, "a04b3a004a7e1eee76fd825a5f4f5c375d357ec25a6f672acd154c67fe1cc3c1"), looks := true }, kinds := [], alts := [], laidByText := true, laidKinds := [.data, .handle, .data, .pinned], laidTests := true, laidLooks := .later }
def GexChecksCardSaid : Prop := Claim7.holds Tryd.pinned (.plain (OpenSpec.ofChange gexChecksSpec)) gexChecksCard

/-- THE TIED CARD OF 'shibbolethlaw18.GexTable'. -/
def gexTableCard : Claim7 := { stood := { row := gexTableRow, standIns := [], harness := (true, "a04b3a004a7e1eee76fd825a5f4f5c375d357ec25a6f672acd154c67fe1cc3c1"), looks := true }, kinds := [], alts := [], laidByText := true, laidKinds := [.data, .data, .pinned], laidTests := true, laidLooks := .later }
def GexTableCardSaid : Prop := Claim7.holds Tryd.pinned (.plain (OpenSpec.ofChange gexTableSpec)) gexTableCard

/-- THE TIED CARD OF 'shibbolethlaw18.GexNames'. -/
def gexNamesCard : Claim7 := { stood := { row := gexNamesRow, standIns := [], harness := (true, "a04b3a004a7e1eee76fd825a5f4f5c375d357ec25a6f672acd154c67fe1cc3c1"), looks := true }, kinds := [], alts := [], laidByText := true, laidKinds := [.data, .data, .pinned], laidTests := true, laidLooks := .later }
def GexNamesCardSaid : Prop := Claim7.holds Tryd.pinned (.plain (OpenSpec.ofChange gexNamesSpec)) gexNamesCard

/-- THE SECOND FORM's CARD OF 'shibbolethlaw17.ChooseAny'. -/
def chooseAnyUptoCard : Claim7 := { stood := { row := chooseAnyUptoRow, standIns := [], harness := (true, "a04b3a004a7e1eee76fd825a5f4f5c375d357ec25a6f672acd154c67fe1cc3c1"), looks := true }, kinds := [], alts := [], laidByText := true, laidKinds := [.handle, .data, .data], laidTests := true, laidLooks := .later }
def ChooseAnyUptoCardSaid : Prop := Claim7.holds Tryd.pinned (.plain (OpenSpec.upto chooseAnySpec)) chooseAnyUptoCard

/-- THE SECOND FORM's CARD OF 'shibbolethlaw17.ChooseBest'. -/
def chooseBestUptoCard : Claim7 := { stood := { row := chooseBestUptoRow, standIns := [], harness := (true, "a04b3a004a7e1eee76fd825a5f4f5c375d357ec25a6f672acd154c67fe1cc3c1"), looks := true }, kinds := [], alts := [], laidByText := true, laidKinds := [.data, .data], laidTests := true, laidLooks := .later }
def ChooseBestUptoCardSaid : Prop := Claim7.holds Tryd.pinned (.plain (OpenSpec.upto chooseBestSpec)) chooseBestUptoCard

/-- THE SECOND FORM's CARD OF 'shibbolethlaw17.ChooseSelf'. -/
def chooseSelfUptoCard : Claim7 := { stood := { row := chooseSelfUptoRow, standIns := [], harness := (true, "a04b3a004a7e1eee76fd825a5f4f5c375d357ec25a6f672acd154c67fe1cc3c1"), looks := true }, kinds := [], alts := [], laidByText := true, laidKinds := [.data, .data], laidTests := true, laidLooks := .later }
def ChooseSelfUptoCardSaid : Prop := Claim7.holds Tryd.pinned (.plain (OpenSpec.upto chooseSelfSpec)) chooseSelfUptoCard

/-- THE SECOND FORM's CARD OF 'shibbolethlaw18.GexPicks'. -/
def gexPicksUptoCard : Claim7 := { stood := { row := gexPicksUptoRow, standIns := [], harness := (true, "a04b3a004a7e1eee76fd825a5f4f5c375d357ec25a6f672acd154c67fe1cc3c1"), looks := true }, kinds := [], alts := [], laidByText := true, laidKinds := [.data, .handle, .data, .pinned], laidTests := true, laidLooks := .later }
def GexPicksUptoCardSaid : Prop := Claim7.holds Tryd.pinned (.plain (OpenSpec.upto gexPicksSpec)) gexPicksUptoCard

/-- THE SECOND FORM's CARD OF 'shibbolethlaw18.GexChecks'. -/
def gexChecksUptoCard : Claim7 := { stood := { row := gexChecksUptoRow, standIns := [], harness := (true, "a04b3a004a7e1eee76fd825a5f4f5c375d357ec25a6f672acd154c67fe1cc3c1"), looks := true }, kinds := [], alts := [], laidByText := true, laidKinds := [.data, .handle, .data, .pinned], laidTests := true, laidLooks := .later }
def GexChecksUptoCardSaid : Prop := Claim7.holds Tryd.pinned (.plain (OpenSpec.upto gexChecksSpec)) gexChecksUptoCard

/-- THE SECOND FORM's CARD OF 'shibbolethlaw18.GexTable'. -/
def gexTableUptoCard : Claim7 := { stood := { row := gexTableUptoRow, standIns := [], harness := (true, "a04b3a004a7e1eee76fd825a5f4f5c375d357ec25a6f672acd154c67fe1cc3c1"), looks := true }, kinds := [], alts := [], laidByText := true, laidKinds := [.data, .data, .pinned], laidTests := true, laidLooks := .later }
def GexTableUptoCardSaid : Prop := Claim7.holds Tryd.pinned (.plain (OpenSpec.upto gexTableSpec)) gexTableUptoCard

/-- THE SECOND FORM's CARD OF 'shibbolethlaw18.GexNames'. -/
def gexNamesUptoCard : Claim7 := { stood := { row := gexNamesUptoRow, standIns := [], harness := (true, "a04b3a004a7e1eee76fd825a5f4f5c375d357ec25a6f672acd154c67fe1cc3c1"), looks := true }, kinds := [], alts := [], laidByText := true, laidKinds := [.data, .data, .pinned], laidTests := true, laidLooks := .later }
def GexNamesUptoCardSaid : Prop := Claim7.holds Tryd.pinned (.plain (OpenSpec.upto gexNamesSpec)) gexNamesUptoCard
end Rows
end Go.Proofs.YtihkhcocfhbekaaDoor
