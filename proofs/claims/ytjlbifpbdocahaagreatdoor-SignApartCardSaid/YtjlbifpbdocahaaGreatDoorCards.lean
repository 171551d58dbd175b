/-
  DERIVED. GIVEN WITH THE SEED: THE CARDS: each row of YtjlbifpbdocahaaGreatDoorRows.lean that lists a variable, with what it lists TIED to the program's text (the seventh form; the later family's looks); each row that meets fmt, with fmt's text TOLD by the authors' own Lean function (tested against real Go, not proved from fmt's source: count such statements apart). THE CARD IS WHAT COUNTS. Prove the row's statement (the work); the ties are given (YtjlbifpbdocahaaGreatDoorTie.lean); close each card by the builder's one call (the guide's Derived/Test/ToyasCard.lean, 'card_holds'). Laid BY PROGRAM, IN A SANDBOX (cutbox-door.mjs). By AI agents, Wed Nov 11 2026. No macro, syntax, notation, axiom, sorry.
-/
import Derived.Test.YtjlbifpbdocahaaGreatDoorRows
import GoSem.ClaimSeven
namespace Go.Proofs.YtjlbifpbdocahaaGreatDoor
namespace Rows

/-- THE TIED CARD OF 'shibbolethlaw22.SignUsers'. -/
def signUsersCard : Claim7 := { stood := { row := signUsersRow, standIns := [], harness := (true, "81a962318b432de35763d6a1d368fd6d3a8f958f6c20750bca8c45e015204d21"), looks := true }, kinds := [], alts := [], laidByText := true, laidKinds := [.handle], laidTests := true, laidLooks := .later }
def SignUsersCardSaid : Prop := Claim7.holds Tryz.pinned (.plain (OpenSpec.ofChange signUsersSpec)) signUsersCard

/-- THE TIED CARD OF 'shibbolethlaw22.SignApart'. -/
def signApartCard : Claim7 := { stood := { row := signApartRow, standIns := [], harness := (true, "81a962318b432de35763d6a1d368fd6d3a8f958f6c20750bca8c45e015204d21"), looks := true }, kinds := [], alts := [], laidByText := true, laidKinds := [.handle], laidTests := true, laidLooks := .later }
def SignApartCardSaid : Prop := Claim7.holds Tryz.pinned (.plain (OpenSpec.ofChange signApartSpec)) signApartCard

/-- THE TIED CARD OF 'shibbolethlaw25.ConfChecks'. -/
def confChecksCard : Claim7 := { stood := { row := confChecksRow, standIns := [], harness := (true, "81a962318b432de35763d6a1d368fd6d3a8f958f6c20750bca8c45e015204d21"), looks := true }, kinds := [], alts := [], laidByText := true, laidKinds := [.handle, .data, .data], laidTests := true, laidLooks := .later }
def ConfChecksCardSaid : Prop := Claim7.holds Tryz.pinned (.plain (OpenSpec.ofChange confChecksSpec)) confChecksCard

/-- THE SECOND FORM's CARD OF 'shibbolethlaw22.SignUsers'. -/
def signUsersUptoCard : Claim7 := { stood := { row := signUsersUptoRow, standIns := [], harness := (true, "81a962318b432de35763d6a1d368fd6d3a8f958f6c20750bca8c45e015204d21"), looks := true }, kinds := [], alts := [], laidByText := true, laidKinds := [.handle], laidTests := true, laidLooks := .later }
def SignUsersUptoCardSaid : Prop := Claim7.holds Tryz.pinned (.plain (OpenSpec.upto signUsersSpec)) signUsersUptoCard

/-- THE SECOND FORM's CARD OF 'shibbolethlaw22.SignApart'. -/
def signApartUptoCard : Claim7 := { stood := { row := signApartUptoRow, standIns := [], harness := (true, "81a962318b432de35763d6a1d368fd6d3a8f958f6c20750bca8c45e015204d21"), looks := true }, kinds := [], alts := [], laidByText := true, laidKinds := [.handle], laidTests := true, laidLooks := .later }
def SignApartUptoCardSaid : Prop := Claim7.holds Tryz.pinned (.plain (OpenSpec.upto signApartSpec)) signApartUptoCard

/-- THE SECOND FORM's CARD OF 'shibbolethlaw25.ConfChecks'. -/
def confChecksUptoCard : Claim7 := { stood := { row := confChecksUptoRow, standIns := [], harness := (true, "81a962318b432de35763d6a1d368fd6d3a8f958f6c20750bca8c45e015204d21"), looks := true }, kinds := [], alts := [], laidByText := true, laidKinds := [.handle, .data, .data], laidTests := true, laidLooks := .later }
def ConfChecksUptoCardSaid : Prop := Claim7.holds Tryz.pinned (.plain (OpenSpec.upto confChecksSpec)) confChecksUptoCard
end Rows
end Go.Proofs.YtjlbifpbdocahaaGreatDoor
