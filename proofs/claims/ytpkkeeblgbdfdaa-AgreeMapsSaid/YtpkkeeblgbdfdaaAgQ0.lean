/- Layer 32: what holds where no rule is violated: plain. -/
import Derived.Test.YtpkkeeblgbdfdaaAgR0
namespace Go.Proofs.Ytpkkeeblgbdfdaa
open Go.RowKit

theorem nm_some : ∀ i, i < 10 → (nmR i).size ≠ 0 := by decide
theorem bad_zero {S : List Int} {l : List EvV} {k : Nat} {x : EvV} (hx : l[k]? = some x) (h : (badK S l k).size = 0) : ∀ i, i < 10 → ruleB S l k x i = true := by
  rcases first_cases (fun i => ruleB S l k x i = true) 10 with h1 | ⟨i, hi, h2, h3⟩
  · exact h1
  · have e : badK S l k = nmR i := by
      unfold badK
      rw [hx]
      exact firstBad_hit h2 hi (by simpa using h3)
    rw [e] at h
    exact absurd h (nm_some i hi)
theorem all_zero {l : List EvV} (h : (wrongW (SA l) l).size = 0) : ∀ j, j < l.length → (badK (SA l) l j).size = 0 := by
  rcases first_cases (fun j => (badK (SA l) l j).size = 0) l.length with h1 | ⟨i, hi, h2, h3⟩
  · exact h1
  · unfold wrongW at h
    rw [wrongO_hit h2 hi h3] at h
    exact absurd h h3
theorem usd_no {S : List Int} {l : List EvV} {z : Int} : ∀ {k : Nat}, usdK S l k z = false → ∀ j, j < k → askK S l j = true → ∀ t : Nat, srcK l j = some t → (t : Int) ≠ z
  | 0, _, j, hj, _, _, _ => absurd hj (by omega)
  | k + 1, h, j, hj, ha, t, ht => by
    unfold usdK at h
    simp only [Bool.or_eq_false_iff, Bool.and_eq_false_iff, decide_eq_false_iff_not] at h
    rcases Nat.lt_or_eq_of_le (Nat.le_of_lt_succ hj) with h' | rfl
    · exact usd_no h.2 j h' ha t ht
    · intro e
      rcases h.1 with h1 | h1
      · rw [ha] at h1; cases h1
      · exact h1 (by rw [ht, ← e]; rfl)
theorem maps_src {l : List EvV} {k : Nat} (hk : k < l.length) (hall : ∀ j, j < l.length → (badK (SA l) l j).size = 0) (hki : (l[k]).ki = 2 ∨ (l[k]).ki = 4) (ha : aheadB l (l[k]).wh (k : Int) = false) :
    ∃ (s : Nat) (hs : s < k), srcK l k = some s ∧ askK (SA l) l k = true ∧ srcB l[k] (l[s]'(by omega)) = true ∧ usdK (SA l) l k (s : Int) = false := by
  have hsafe : safeB l k = true := by
    unfold safeB
    rw [List.getElem?_eq_getElem hk]
    simp only [ha]
    unfold claimsP
    rcases hki with h | h <;> rw [h] <;> rfl
  have hask : askK (SA l) l k = true := by
    rw [ask_is hk (fun j hj => SA_is (by omega))]
    unfold askedR
    rw [List.getElem?_eq_getElem hk]
    simp only []
    rw [if_neg (by rcases hki with h | h <;> rw [h] <;> decide)]
    exact hsafe
  have hr := bad_zero (List.getElem?_eq_getElem hk) (hall k hk)
  have hsome : (srcK l k).isSome = true := by
    rcases hki with h | h
    · have := hr 6 (by decide)
      simp only [ruleB, h, hask] at this
      simpa using this
    · have := hr 7 (by decide)
      simp only [ruleB, h, hask] at this
      simpa using this
  obtain ⟨s, hs⟩ := Option.isSome_iff_exists.1 hsome
  have hlt := srcK_lt hs
  refine ⟨s, hlt, hs, hask, ?_, ?_⟩
  · have h2 := hs
    rw [src_find hk] at h2
    obtain ⟨h3, h4, _⟩ := List.findIdx?_eq_some_iff_getElem.1 h2
    rw [List.getElem_take] at h4
    exact h4
  · have := hr 9 (by decide)
    simp only [ruleB, hask, hs] at this
    simpa using this
theorem src_two {x y : EvV} (h : srcB x y = true) (h2 : x.ki = 2) : y.wh = x.wh ∧ y.dn = x.dn := by
  unfold srcB at h
  rw [h2] at h
  simp at h
  exact ⟨h.2.1, h.2.2⟩
theorem src_four {x y : EvV} (h : srcB x y = true) (h4 : x.ki = 4) : y.wh = x.wh ∧ y.sid = x.sid := by
  unfold srcB at h
  rw [h4] at h
  simp [sameB] at h
  exact ⟨h.2.1, h.2.2.2.2.2⟩
end Go.Proofs.Ytpkkeeblgbdfdaa
