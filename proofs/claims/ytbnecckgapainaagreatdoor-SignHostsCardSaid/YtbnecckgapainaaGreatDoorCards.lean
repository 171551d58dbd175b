/-
  DERIVED. GIVEN WITH THE SEED: THE CARDS: each row of YtbnecckgapainaaGreatDoorRows.lean that lists a variable, with what it lists TIED to the program's text (the seventh form; the later family's looks); each row that meets fmt, with fmt's text TOLD by the authors' own Lean function (tested against real Go, not proved from fmt's source: count such statements apart). THE CARD IS WHAT COUNTS. Prove the row's statement (the work); the ties are given (YtbnecckgapainaaGreatDoorTie.lean); close each card by the builder's one call (the guide's Derived/Test/ToyasCard.lean, 'card_holds'). Laid BY PROGRAM, IN A SANDBOX (cutbox-door.mjs). By AI agents, Wed Nov 11 2026. No macro, syntax, notation, axiom, sorry.
-/
import Derived.Test.YtbnecckgapainaaGreatDoorRows
import GoSem.ClaimSeven
namespace Go.Proofs.YtbnecckgapainaaGreatDoor
namespace Rows

/-- THE TIED CARD OF 'shibbolethlaw20.TransHashes'. -/
def transHashesCard : Claim7 := { stood := { row := transHashesRow, standIns := [], harness := (true, "a190490ca661cf922ebd7fc69e7879d729405384215d0a5a6676f546bf52220e"), looks := true }, kinds := [], alts := [], laidByText := true, laidKinds := [.data, .pinned], laidTests := true, laidLooks := .later }
def TransHashesCardSaid : Prop := Claim7.holds Tryz.pinned (.plain (OpenSpec.ofChange transHashesSpec)) transHashesCard

/-- THE TIED CARD OF 'shibbolethlaw20.TransApart'. -/
def transApartCard : Claim7 := { stood := { row := transApartRow, standIns := [], harness := (true, "a190490ca661cf922ebd7fc69e7879d729405384215d0a5a6676f546bf52220e"), looks := true }, kinds := [], alts := [], laidByText := true, laidKinds := [.data, .pinned], laidTests := true, laidLooks := .later }
def TransApartCardSaid : Prop := Claim7.holds Tryz.pinned (.plain (OpenSpec.ofChange transApartSpec)) transApartCard

/-- THE TIED CARD OF 'shibbolethlaw22.SignHosts'. -/
def signHostsCard : Claim7 := { stood := { row := signHostsRow, standIns := [], harness := (true, "a190490ca661cf922ebd7fc69e7879d729405384215d0a5a6676f546bf52220e"), looks := true }, kinds := [], alts := [], laidByText := true, laidKinds := [.handle], laidTests := true, laidLooks := .later }
def SignHostsCardSaid : Prop := Claim7.holds Tryz.pinned (.plain (OpenSpec.ofChange signHostsSpec)) signHostsCard

/-- THE TIED CARD OF 'shibbolethlaw22.SignUsers'. -/
def signUsersCard : Claim7 := { stood := { row := signUsersRow, standIns := [], harness := (true, "a190490ca661cf922ebd7fc69e7879d729405384215d0a5a6676f546bf52220e"), looks := true }, kinds := [], alts := [], laidByText := true, laidKinds := [.handle], laidTests := true, laidLooks := .later }
def SignUsersCardSaid : Prop := Claim7.holds Tryz.pinned (.plain (OpenSpec.ofChange signUsersSpec)) signUsersCard

/-- THE TIED CARD OF 'shibbolethlaw22.SignApart'. -/
def signApartCard : Claim7 := { stood := { row := signApartRow, standIns := [], harness := (true, "a190490ca661cf922ebd7fc69e7879d729405384215d0a5a6676f546bf52220e"), looks := true }, kinds := [], alts := [], laidByText := true, laidKinds := [.handle], laidTests := true, laidLooks := .later }
def SignApartCardSaid : Prop := Claim7.holds Tryz.pinned (.plain (OpenSpec.ofChange signApartSpec)) signApartCard

/-- THE TIED CARD OF 'shibbolethlaw22.SignOwner'. -/
def signOwnerCard : Claim7 := { stood := { row := signOwnerRow, standIns := [], harness := (true, "a190490ca661cf922ebd7fc69e7879d729405384215d0a5a6676f546bf52220e"), looks := true }, kinds := [], alts := [], laidByText := true, laidKinds := [.handle], laidTests := true, laidLooks := .later }
def SignOwnerCardSaid : Prop := Claim7.holds Tryz.pinned (.plain (OpenSpec.ofChange signOwnerSpec)) signOwnerCard

/-- THE SECOND FORM's CARD OF 'shibbolethlaw20.TransHashes'. -/
def transHashesUptoCard : Claim7 := { stood := { row := transHashesUptoRow, standIns := [], harness := (true, "a190490ca661cf922ebd7fc69e7879d729405384215d0a5a6676f546bf52220e"), looks := true }, kinds := [], alts := [], laidByText := true, laidKinds := [.data, .pinned], laidTests := true, laidLooks := .later }
def TransHashesUptoCardSaid : Prop := Claim7.holds Tryz.pinned (.plain (OpenSpec.upto transHashesSpec)) transHashesUptoCard

/-- THE SECOND FORM's CARD OF 'shibbolethlaw20.TransApart'. -/
def transApartUptoCard : Claim7 := { stood := { row := transApartUptoRow, standIns := [], harness := (true, "a190490ca661cf922ebd7fc69e7879d729405384215d0a5a6676f546bf52220e"), looks := true }, kinds := [], alts := [], laidByText := true, laidKinds := [.data, .pinned], laidTests := true, laidLooks := .later }
def TransApartUptoCardSaid : Prop := Claim7.holds Tryz.pinned (.plain (OpenSpec.upto transApartSpec)) transApartUptoCard

/-- THE SECOND FORM's CARD OF 'shibbolethlaw22.SignHosts'. -/
def signHostsUptoCard : Claim7 := { stood := { row := signHostsUptoRow, standIns := [], harness := (true, "a190490ca661cf922ebd7fc69e7879d729405384215d0a5a6676f546bf52220e"), looks := true }, kinds := [], alts := [], laidByText := true, laidKinds := [.handle], laidTests := true, laidLooks := .later }
def SignHostsUptoCardSaid : Prop := Claim7.holds Tryz.pinned (.plain (OpenSpec.upto signHostsSpec)) signHostsUptoCard

/-- THE SECOND FORM's CARD OF 'shibbolethlaw22.SignUsers'. -/
def signUsersUptoCard : Claim7 := { stood := { row := signUsersUptoRow, standIns := [], harness := (true, "a190490ca661cf922ebd7fc69e7879d729405384215d0a5a6676f546bf52220e"), looks := true }, kinds := [], alts := [], laidByText := true, laidKinds := [.handle], laidTests := true, laidLooks := .later }
def SignUsersUptoCardSaid : Prop := Claim7.holds Tryz.pinned (.plain (OpenSpec.upto signUsersSpec)) signUsersUptoCard

/-- THE SECOND FORM's CARD OF 'shibbolethlaw22.SignApart'. -/
def signApartUptoCard : Claim7 := { stood := { row := signApartUptoRow, standIns := [], harness := (true, "a190490ca661cf922ebd7fc69e7879d729405384215d0a5a6676f546bf52220e"), looks := true }, kinds := [], alts := [], laidByText := true, laidKinds := [.handle], laidTests := true, laidLooks := .later }
def SignApartUptoCardSaid : Prop := Claim7.holds Tryz.pinned (.plain (OpenSpec.upto signApartSpec)) signApartUptoCard

/-- THE SECOND FORM's CARD OF 'shibbolethlaw22.SignOwner'. -/
def signOwnerUptoCard : Claim7 := { stood := { row := signOwnerUptoRow, standIns := [], harness := (true, "a190490ca661cf922ebd7fc69e7879d729405384215d0a5a6676f546bf52220e"), looks := true }, kinds := [], alts := [], laidByText := true, laidKinds := [.handle], laidTests := true, laidLooks := .later }
def SignOwnerUptoCardSaid : Prop := Claim7.holds Tryz.pinned (.plain (OpenSpec.upto signOwnerSpec)) signOwnerUptoCard
end Rows
end Go.Proofs.YtbnecckgapainaaGreatDoor
