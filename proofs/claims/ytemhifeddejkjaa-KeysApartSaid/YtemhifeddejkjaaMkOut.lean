/- What a constructor leaves; a world that has drawn. -/
import Derived.Test.YtemhifeddejkjaaMake
namespace Go.Proofs.Ytemhifeddejkjaa
open Go.RowKit

theorem Makes.out {B A : Nat} {L : List Ent} {F : Nat → Prop} {w w' : World} {m : Int × List Ent} {r : Ending} (ha : ArenaAt B A L F w) (h : Makes B A F w m r w') :
    r = .returned (.int .i64 m.1) ∧ ∃ F', ArenaAt B A m.2 F' w' ∧ Below B w w' := by
  obtain ⟨h1, F', h2, h3, _⟩ := h
  have hs := ha.lt A ha.self
  exact ⟨h1, F', h2, h3.below (by omega) fun i hi => (ha.lt i hi).1⟩

theorem below_drewN {B : Nat} {w w' : World} (h : Below B w w') (n : Nat) : Below B w (w'.drewN n) := ⟨h.os, h.tape, h.output, h.size, h.block⟩
theorem arena_ne {B A g : Nat} {L : List Ent} {F : Nat → Prop} {w : World} {t : TypeId} {cs : Array Value} (h : ArenaAt B A L F w) (hr : Holds w g t cs) (h1 : t ≠ 58) (h2 : t ≠ 71) : ¬ F g := by
  obtain ⟨mb, tv, e1, e2, e3, _, _, _, rfl⟩ := h
  rintro (rfl | rfl | hk)
  · unfold Holds at hr e1
    rw [hr] at e1
    injection e1 with e1
    injection e1 with _ e1
    exact h1 e1
  · unfold Holds at hr
    rw [hr] at e3
    injection e3 with e3
    cases e3
  · exact own_ne e2 hr (fun h => h2 h.symm) hk

theorem Left.moves {B A : Nat} {L : List Ent} {F : Nat → Prop} {w w' : World} (h : Left B A L F w w') : Moves F w w' := by
  obtain ⟨_, _, h, _⟩ := h
  exact h
theorem left_down {B A : Nat} {L : List Ent} {F : Nat → Prop} {w w1 w' : World} (h : Left B A L F w w1) (k : Below w1.heap.size w1 w') : Left B A L F w w' := by
  obtain ⟨F', h1, h2, h3⟩ := h
  exact ⟨F', h1.below k, h2.trans (Moves.ofBelow (S := nobody) k) fun _ hi => hi.elim, h3⟩
theorem row_slice {w : World} {B n s : Nat} {t : TypeId} {v : Value} {xs : List Value} (h : w.ownsRow B t s v n xs) : ∃ ao m c, v = .slice ao m c := by
  rcases h.2 with ⟨rfl, _⟩ | ⟨g, cap, cur, rfl, _⟩
  · exact ⟨_, _, _, rfl⟩
  · exact ⟨_, _, _, rfl⟩
end Go.Proofs.Ytemhifeddejkjaa
