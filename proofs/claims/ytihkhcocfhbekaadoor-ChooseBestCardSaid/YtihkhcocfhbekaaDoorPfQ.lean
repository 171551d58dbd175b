/- Layer 15: lists as slices. -/
import Derived.Test.YtihkhcocfhbekaaDoorPfR
import Derived.Test.YtihkhcocfhbekaaDoorNSm
namespace Go.Proofs.YtihkhcocfhbekaaDoor
open Go.RowKit

theorem texts_sl {w : World} {u : Nat → Value} {p : Nat → List (List UInt8)} (h : ∀ k < 8, TextsAt w (u k) ((p k).map bs)) : ∀ k < 8, ∃ a n c, u k = .slice a n c := fun k hk => by
  obtain ⟨a, c, e, _⟩ := h k hk
  exact ⟨a, _, c, e⟩
end Go.Proofs.YtihkhcocfhbekaaDoor
