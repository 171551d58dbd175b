/- Part 25 of what the statement wants. -/
import Derived.Laws.AppendOwn
import Derived.Test.YtgoinpibllomfaaDoorPk00
import Derived.Test.YtgoinpibllomfaaDoorPk22
import Derived.Test.YtgoinpibllomfaaDoorPk24
namespace Go.Proofs.YtgoinpibllomfaaDoor
open Go.RowKit

theorem texts_set {w : World} {v : Value} {l : List ByteArray} {g : Nat} (h : TextsAt w v l) (hv : l ≠ [] → ∀ b, v.ownBlock = some b → b ≠ g) (R : Array Value) : TextsAt (w.setRow g R) v l := by
  obtain ⟨a, c, rfl, hc⟩ := h
  refine ⟨a, c, rfl, fun hne => ?_⟩
  obtain ⟨b, off, rfl, hlt, hh⟩ := hc hne
  have hbg : b ≠ g := hv hne b rfl
  exact ⟨b, off, rfl, by rw [size_setRow]; exact hlt, fun k x hk => (cell_setRow_other w g R ⟨b, off + k, none⟩ hbg).trans (hh k x hk)⟩
theorem sizePrefs : (Tryd.prog.info? 46).map (·.size) = some 8 := by kernel_rfl
end Go.Proofs.YtgoinpibllomfaaDoor

namespace Go.Proofs.YtgoinpibllomfaaDoor
open Go.RowKit

/-- A slice's row lies in a block of its own from B on. -/
def OwnFrom (w : World) (B : Nat) (t : TypeId) (v : Value) : Prop := ∀ b, v.ownBlock = some b → B ≤ b ∧ ∃ cur, Holds w b t cur
theorem OwnFrom.ofRow {w : World} {base n m : Nat} {t : TypeId} {v : Value} {xs : List Value} (h : w.ownsRow base t m v n xs) : OwnFrom w base t v := fun k hk => by
  rcases h.2 with ⟨rfl, _⟩ | ⟨g, cap, cur, rfl, hb, hg, _⟩
  · cases hk
  · have e : g = k := Option.some.inj hk
    subst e
    exact ⟨hb, cur, hg⟩
theorem OwnFrom.nil (w : World) (B : Nat) (t : TypeId) (n c : Nat) : OwnFrom w B t (.slice none n c) := fun k hk => by cases hk
theorem OwnFrom.moves {w w' : World} {B : Nat} {t : TypeId} {v : Value} {S : Nat → Prop} (h : OwnFrom w B t v) (m : Moves S w w') (hS : ∀ k, v.ownBlock = some k → ¬ S k) : OwnFrom w' B t v := fun k hk => by
  obtain ⟨h1, cur, h2⟩ := h k hk
  exact ⟨h1, cur, h2.moves m (hS k hk)⟩
theorem OwnFrom.mono {w : World} {B C : Nat} {t : TypeId} {v : Value} (h : OwnFrom w B t v) (hC : C ≤ B) : OwnFrom w C t v := fun k hk => ⟨Nat.le_trans hC (h k hk).1, (h k hk).2⟩
end Go.Proofs.YtgoinpibllomfaaDoor
