/-
  DERIVED. GIVEN WITH THE SEED: THE CARDS: each row of YtgoinpibllomfaaDoorRows.lean that lists a variable, with what it lists TIED to the program's text (the seventh form; the later family's looks); each row that meets fmt, with fmt's text TOLD by the authors' own Lean function (tested against real Go, not proved from fmt's source: count such statements apart). THE CARD IS WHAT COUNTS. Prove the row's statement (the work); the ties are given (YtgoinpibllomfaaDoorTie.lean); close each card by the builder's one call (the guide's Derived/Test/ToyasCard.lean, 'card_holds'). Laid BY PROGRAM, IN A SANDBOX (cutbox-door.mjs). By AI agents, Wed Nov 11 2026. No macro, syntax, notation, axiom, sorry.
-/
import Derived.Test.YtgoinpibllomfaaDoorRows
import GoSem.ClaimSeven
namespace Go.Proofs.YtgoinpibllomfaaDoor
namespace Rows

/-- THE TIED CARD OF 'shibbolethlaw24.DenyChecks'. -/
def denyChecksCard : Claim7 := { stood := { row := denyChecksRow, standIns := [], harness := (true, "70ab6edb30f6cef868a0b0504834ae3759a11d2a524f3a2ee7435548537f43d1"), looks := true }, kinds := [], alts := [], laidByText := true, laidKinds := [.handle], laidTests := true, laidLooks := .later }
def DenyChecksCardSaid : Prop := Claim7.holds Tryd.pinned (.plain (OpenSpec.ofChange denyChecksSpec)) denyChecksCard

/-- THE TIED CARD OF 'shibbolethlaw25.ConfInits'. -/
def confInitsCard : Claim7 := { stood := { row := confInitsRow, standIns := [], harness := (true, "70ab6edb30f6cef868a0b0504834ae3759a11d2a524f3a2ee7435548537f43d1"), looks := true }, kinds := [], alts := [], laidByText := true, laidKinds := [.data, .data], laidTests := true, laidLooks := .later }
def ConfInitsCardSaid : Prop := Claim7.holds Tryd.pinned (.plain (OpenSpec.ofChange confInitsSpec)) confInitsCard

/-- THE TIED CARD OF 'shibbolethlaw25.ConfCopies'. -/
def confCopiesCard : Claim7 := { stood := { row := confCopiesRow, standIns := [], harness := (true, "70ab6edb30f6cef868a0b0504834ae3759a11d2a524f3a2ee7435548537f43d1"), looks := true }, kinds := [], alts := [], laidByText := true, laidKinds := [.data, .data], laidTests := true, laidLooks := .later }
def ConfCopiesCardSaid : Prop := Claim7.holds Tryd.pinned (.plain (OpenSpec.ofChange confCopiesSpec)) confCopiesCard

/-- THE SECOND FORM's CARD OF 'shibbolethlaw24.DenyChecks'. -/
def denyChecksUptoCard : Claim7 := { stood := { row := denyChecksUptoRow, standIns := [], harness := (true, "70ab6edb30f6cef868a0b0504834ae3759a11d2a524f3a2ee7435548537f43d1"), looks := true }, kinds := [], alts := [], laidByText := true, laidKinds := [.handle], laidTests := true, laidLooks := .later }
def DenyChecksUptoCardSaid : Prop := Claim7.holds Tryd.pinned (.plain (OpenSpec.upto denyChecksSpec)) denyChecksUptoCard

/-- THE SECOND FORM's CARD OF 'shibbolethlaw25.ConfInits'. -/
def confInitsUptoCard : Claim7 := { stood := { row := confInitsUptoRow, standIns := [], harness := (true, "70ab6edb30f6cef868a0b0504834ae3759a11d2a524f3a2ee7435548537f43d1"), looks := true }, kinds := [], alts := [], laidByText := true, laidKinds := [.data, .data], laidTests := true, laidLooks := .later }
def ConfInitsUptoCardSaid : Prop := Claim7.holds Tryd.pinned (.plain (OpenSpec.upto confInitsSpec)) confInitsUptoCard

/-- THE SECOND FORM's CARD OF 'shibbolethlaw25.ConfCopies'. -/
def confCopiesUptoCard : Claim7 := { stood := { row := confCopiesUptoRow, standIns := [], harness := (true, "70ab6edb30f6cef868a0b0504834ae3759a11d2a524f3a2ee7435548537f43d1"), looks := true }, kinds := [], alts := [], laidByText := true, laidKinds := [.data, .data], laidTests := true, laidLooks := .later }
def ConfCopiesUptoCardSaid : Prop := Claim7.holds Tryd.pinned (.plain (OpenSpec.upto confCopiesSpec)) confCopiesUptoCard
end Rows
end Go.Proofs.YtgoinpibllomfaaDoor
