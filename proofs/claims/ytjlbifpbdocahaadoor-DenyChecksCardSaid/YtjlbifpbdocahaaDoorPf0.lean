/- Layer 15: preferences in memory. -/
import Derived.Test.YtjlbifpbdocahaaDoorTexts
import Derived.Test.YtjlbifpbdocahaaDoorStr
namespace Go.Proofs.YtjlbifpbdocahaaDoor
open Go.RowKit

/-- Preferences: eight lists. -/
def PrefsAt (w : World) (v : Value) (p : Nat → List (List UInt8)) : Prop :=
  ∃ u : Nat → Value, v = .agg #[u 0, u 1, u 2, u 3, u 4, u 5, u 6, u 7] ∧ ∀ k < 8, TextsAt w (u k) ((p k).map bs)
theorem PrefsAt.below {w w' : World} {v : Value} {p : Nat → List (List UInt8)} (h : PrefsAt w v p) (hb : Below w.heap.size w w') : PrefsAt w' v p := by
  obtain ⟨u, rfl, h⟩ := h
  exact ⟨u, rfl, fun k hk => (h k hk).below hb⟩
/-- A slice of lists. -/
def Lists15 (w : World) (v : Value) (n : Nat) (p : Nat → List (List UInt8)) : Prop :=
  ∃ b off cap, v = .slice (some ⟨b, off, none⟩) n cap ∧ n ≤ cap ∧ b < w.heap.size ∧ ∀ k < n, ∃ u, w.cell? ⟨b, off + k, none⟩ = some u ∧ TextsAt w u ((p k).map bs)
theorem Lists15.below {w w' : World} {v : Value} {n : Nat} {p : Nat → List (List UInt8)} (h : Lists15 w v n p) (hb : Below w.heap.size w w') : Lists15 w' v n p := by
  obtain ⟨b, off, cap, rfl, hc, hlt, h⟩ := h
  refine ⟨b, off, cap, rfl, hc, Nat.lt_of_lt_of_le hlt hb.size, fun k hk => ?_⟩
  obtain ⟨u, h1, h2⟩ := h k hk
  exact ⟨u, (hb.cell (p := ⟨b, off + k, none⟩) hlt).trans h1, h2.below hb⟩
/-- Names of a size that a walk can count. -/
def Small15 (p : Nat → List (List UInt8)) : Prop := ∀ k < 8, (p k).length ≤ maxLen ∧ ∀ x ∈ p k, x.length ≤ maxLen

def Room15 (v : Value) : Prop := ∀ a n c, v = .slice a n c → n ≤ c
theorem drewN15 {n m : Nat} {w wr : World} (h : Below n w wr) : Below n w (wr.drewN m) := ⟨h.os, h.tape, h.output, h.size, h.block⟩
end Go.Proofs.YtjlbifpbdocahaaDoor
