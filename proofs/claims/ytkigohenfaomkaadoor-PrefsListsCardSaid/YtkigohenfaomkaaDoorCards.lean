/-
  DERIVED. GIVEN WITH THE SEED: THE CARDS: each row of YtkigohenfaomkaaDoorRows.lean that lists a variable, with what it lists TIED to the program's text (the seventh form; the later family's looks); each row that meets fmt, with fmt's text TOLD by the authors' own Lean function (tested against real Go, not proved from fmt's source: count such statements apart). THE CARD IS WHAT COUNTS. Prove the row's statement (the work); the ties are given (YtkigohenfaomkaaDoorTie.lean); close each card by the builder's one call (the guide's Derived/Test/ToyasCard.lean, 'card_holds'). Laid BY PROGRAM, IN A SANDBOX (cutbox-door.mjs). By AI agents, Wed Nov 11 2026. No macro, syntax, notation, axiom, sorry.
-/
import Derived.Test.YtkigohenfaomkaaDoorRows
import GoSem.ClaimSeven
namespace Go.Proofs.YtkigohenfaomkaaDoor
namespace Rows

/-- THE TIED CARD OF 'shibbolethlaw15.PrefsCheck'. -/
def prefsCheckCard : Claim7 := { stood := { row := prefsCheckRow, standIns := [], harness := (true, "63273d8a750a4811b80778d0662860c4fb37a678273d3cfbead507ac46e347d2"), looks := true }, kinds := [], alts := [], laidByText := true, laidKinds := [.handle, .data, .data], laidTests := true, laidLooks := .later }
def PrefsCheckCardSaid : Prop := Claim7.holds Tryd.pinned (.plain (OpenSpec.ofChange prefsCheckSpec)) prefsCheckCard

/-- THE TIED CARD OF 'shibbolethlaw15.PrefsLists'. -/
def prefsListsCard : Claim7 := { stood := { row := prefsListsRow, standIns := [], harness := (true, "63273d8a750a4811b80778d0662860c4fb37a678273d3cfbead507ac46e347d2"), looks := true }, kinds := [], alts := [], laidByText := true, laidKinds := [.data, .data], laidTests := true, laidLooks := .later }
def PrefsListsCardSaid : Prop := Claim7.holds Tryd.pinned (.plain (OpenSpec.ofChange prefsListsSpec)) prefsListsCard

/-- THE TIED CARD OF 'shibbolethlaw15.PrefsMethods'. -/
def prefsMethodsCard : Claim7 := { stood := { row := prefsMethodsRow, standIns := [], harness := (true, "63273d8a750a4811b80778d0662860c4fb37a678273d3cfbead507ac46e347d2"), looks := true }, kinds := [], alts := [], laidByText := true, laidKinds := [.data, .data], laidTests := true, laidLooks := .later }
def PrefsMethodsCardSaid : Prop := Claim7.holds Tryd.pinned (.plain (OpenSpec.ofChange prefsMethodsSpec)) prefsMethodsCard

/-- THE SECOND FORM's CARD OF 'shibbolethlaw15.PrefsCheck'. -/
def prefsCheckUptoCard : Claim7 := { stood := { row := prefsCheckUptoRow, standIns := [], harness := (true, "63273d8a750a4811b80778d0662860c4fb37a678273d3cfbead507ac46e347d2"), looks := true }, kinds := [], alts := [], laidByText := true, laidKinds := [.handle, .data, .data], laidTests := true, laidLooks := .later }
def PrefsCheckUptoCardSaid : Prop := Claim7.holds Tryd.pinned (.plain (OpenSpec.upto prefsCheckSpec)) prefsCheckUptoCard

/-- THE SECOND FORM's CARD OF 'shibbolethlaw15.PrefsLists'. -/
def prefsListsUptoCard : Claim7 := { stood := { row := prefsListsUptoRow, standIns := [], harness := (true, "63273d8a750a4811b80778d0662860c4fb37a678273d3cfbead507ac46e347d2"), looks := true }, kinds := [], alts := [], laidByText := true, laidKinds := [.data, .data], laidTests := true, laidLooks := .later }
def PrefsListsUptoCardSaid : Prop := Claim7.holds Tryd.pinned (.plain (OpenSpec.upto prefsListsSpec)) prefsListsUptoCard

/-- THE SECOND FORM's CARD OF 'shibbolethlaw15.PrefsMethods'. -/
def prefsMethodsUptoCard : Claim7 := { stood := { row := prefsMethodsUptoRow, standIns := [], harness := (true, "63273d8a750a4811b80778d0662860c4fb37a678273d3cfbead507ac46e347d2"), looks := true }, kinds := [], alts := [], laidByText := true, laidKinds := [.data, .data], laidTests := true, laidLooks := .later }
def PrefsMethodsUptoCardSaid : Prop := Claim7.holds Tryd.pinned (.plain (OpenSpec.upto prefsMethodsSpec)) prefsMethodsUptoCard
end Rows
end Go.Proofs.YtkigohenfaomkaaDoor
