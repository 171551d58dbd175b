/- A row of the call's own that holds terms' numbers. -/
import Derived.Test.YtemhifeddejkjaaExp
namespace Go.Proofs.Ytemhifeddejkjaa
open Go.RowKit

def idCells (l : List Int) : List Value := l.map (.int .i64 ·)
theorem ArenaAt.ne_row {B A base n : Nat} {L : List Ent} {F : Nat → Prop} {w : World} {t : TypeId} {v : Value} {xs : List Value} (h : ArenaAt B A L F w) (hr : w.ownsRow base t 1 v n xs) (h1 : t ≠ 58) (h2 : t ≠ 71) : ∀ k, v.ownBlock = some k → ¬ F k := by
  obtain ⟨mb, tv, e1, e2, e3, _, _, _, rfl⟩ := h
  intro k hk
  rcases hr.2 with ⟨rfl, _⟩ | ⟨g, cap, cur, rfl, _, hg, _⟩
  · simp [Value.ownBlock] at hk
  · have : g = k := by simpa [Value.ownBlock] using hk
    subst this
    rintro (rfl | rfl | hk2)
    · unfold Holds at e1
      rw [e1] at hg
      injection hg with hg
      injection hg with _ h
      exact h1 h.symm
    · rw [e3] at hg
      injection hg with hg
      cases hg
    · rcases e2.2 with ⟨rfl, _⟩ | ⟨g', cap', cur', rfl, _, hg', _⟩
      · simp [Value.ownBlock] at hk2
      · have : g' = g := by simpa [Value.ownBlock] using hk2
        subst this
        rw [hg'] at hg
        injection hg with hg
        injection hg with _ h
        exact h2 h.symm

theorem IdsAt.ofRow {w : World} {base : Nat} {v : Value} {l : List Int} (h : w.ownsRow base 33 1 v l.length (idCells l)) (hn : l = [] → v = .slice none 0 0) : IdsAt w v l := by
  by_cases hl : l = []
  · subst hl
    rw [hn rfl]
    exact IdsAt.nil w
  · have hown := h
    obtain ⟨_, hcase⟩ := h
    rcases hcase with ⟨_, h0⟩ | ⟨g, cap', cur, rfl, hg, hh, hn, hcap, hsz, htake⟩
    · exact absurd (List.length_eq_zero_iff.1 h0) hl
    · refine ⟨some ⟨g, 0, none⟩, cap', rfl, fun _ => ⟨g, 0, rfl, (Array.getElem?_eq_some_iff.1 hh).1, fun k x hk => ?_⟩⟩
      have hk' := (List.getElem?_eq_some_iff.1 hk).1
      rw [Nat.zero_add, hown.cellAt k (by omega)]
      simp [idCells, hk]
theorem idCells_snoc (l : List Int) (x : Int) : idCells (l ++ [x]) = idCells l ++ [.int .i64 x] := by simp [idCells]
theorem id_one (x : Int) : ∀ u ∈ [Value.int .i64 x], u.oneCell' = true := by simp [Value.oneCell']
/-- Two rows of different types lie apart. -/
theorem rows_apart {w : World} {B C : Nat} {e t : TypeId} {n m s r : Nat} {v u : Value} {xs ys : List Value} (h : w.ownsRow B e s v n xs) (k : w.ownsRow C t r u m ys) (hne : e ≠ t) : v.ownBlock = none ∨ v.ownBlock ≠ u.ownBlock := by
  rcases h.2 with ⟨rfl, _⟩ | ⟨g, cap, cur, rfl, _, hg, _⟩
  · exact .inl rfl
  · refine .inr ?_
    rcases k.2 with ⟨rfl, _⟩ | ⟨g', cap', cur', rfl, _, hg', _⟩
    · simp [Value.ownBlock]
    · intro he
      have : g = g' := by simpa [Value.ownBlock] using he
      subst this
      rw [hg] at hg'
      injection hg' with h1
      injection h1 with _ h2
      exact hne h2
theorem IdsAt.below {w w' : World} {v : Value} {l : List Int} (h : IdsAt w v l) (hb : Below w.heap.size w w') : IdsAt w' v l :=
  h.keep hb.size fun _ _ _ _ _ hlt => hb.cell hlt
end Go.Proofs.Ytemhifeddejkjaa
