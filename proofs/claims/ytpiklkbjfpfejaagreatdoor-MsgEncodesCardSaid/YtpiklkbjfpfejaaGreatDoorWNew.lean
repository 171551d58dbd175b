/- A new reader. -/
import Derived.Test.YtpiklkbjfpfejaaGreatDoorWire3
namespace Go.Proofs.YtpiklkbjfpfejaaGreatDoor
open Go.RowKit

theorem wNew_any (l : List UInt8) (w : World) : Calls Tryz.prog 51 #[.string (bs l)] w fun e w' => e = .returned (.pointer (some ⟨w.heap.size, 0, none⟩)) ∧ WAt w' w.heap.size l 0 ∧ Below w.heap.size w w' := by
  have HE : Hid (∀ W : World, Holds (W.alloc (.cells #[.string (bs l), .int .i64 0] 113)) W.heap.size 113 #[.string (bs l), .int .i64 0]) := fun W => Holds.new W _ _
  go_enter Tryz.func51, Tryz.ntmps51
  go_wp2
  go_ret
  exact ⟨rfl, HE.out w, (Below.refl _ _).alloc (Nat.le_refl _) _⟩
end Go.Proofs.YtpiklkbjfpfejaaGreatDoor
