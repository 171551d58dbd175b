/- Layer 37: the census of two lists, one behind the other: plain. -/
import Derived.Test.YtjphlhehhigpjaaCe5
namespace Go.Proofs.Ytjphlhehhigpjaa
open Go.RowKit

theorem ahead_app37 (l m : List EvV) (z : Int) {k : Nat} (hk : k ≤ l.length) : aheadB (l ++ m) z k = aheadB l z k := by
  unfold aheadB
  rw [Int.toNat_natCast, List.take_append_of_le_length hk]
theorem safe_app37 (l m : List EvV) {k : Nat} (hk : k < l.length) : safeB (l ++ m) k = safeB l k := by
  unfold safeB
  rw [List.getElem?_append_left hk, List.getElem?_eq_getElem hk]
  simp only []
  rw [ahead_app37 l m _ (by omega)]
theorem ahead_off37 (l m : List EvV) (z : Int) (j : Nat) : aheadB (l ++ m) z ((l.length + j : Nat) : Int) = (l.any (takenP z) || aheadB m z (j : Int)) := by
  unfold aheadB
  rw [Int.toNat_natCast, Int.toNat_natCast, List.take_length_add_append, List.any_append]
theorem safe_off37 (l m : List EvV) (j : Nat) : safeB (l ++ m) (l.length + j) = match m[j]? with
    | some e => safeB m j && !l.any (takenP e.wh)
    | none => false := by
  unfold safeB
  rw [List.getElem?_append_right (by omega), Nat.add_sub_cancel_left]
  cases m[j]? with
  | none => rfl
  | some e =>
    simp only []
    rw [ahead_off37]
    cases claimsP e <;> cases l.any (takenP e.wh) <;> cases aheadB m e.wh (j : Int) <;> rfl
theorem safes_next37 (l : List EvV) (k : Nat) : (safesL l (k + 1)).length = (safesL l k).length + (if safeB l k = true then 1 else 0) := by
  cases e : safeB l k with
  | true => rw [safes_yes e, List.length_append]; rfl
  | false => rw [safes_no e]; rfl
theorem safes_low37 (l m : List EvV) : ∀ k, k ≤ l.length → (safesL (l ++ m) k).length = (safesL l k).length
  | 0, _ => rfl
  | k + 1, hk => by rw [safes_next37, safes_next37, safes_low37 l m k (by omega), safe_app37 l m (by omega)]
theorem safes_high37 (l m : List EvV) : ∀ j, (safesL (l ++ m) (l.length + j)).length ≤ (safesL l l.length).length + (safesL m j).length
  | 0 => by rw [Nat.add_zero, safes_low37 l m _ (Nat.le_refl _)]; exact Nat.le_add_right _ _
  | j + 1 => by
    have ih := safes_high37 l m j
    rw [← Nat.add_assoc, safes_next37, safes_next37, safe_off37]
    cases h : m[j]? with
    | none => simp; omega
    | some e =>
      obtain ⟨q, hq⟩ : ∃ q, l.any (takenP e.wh) = q := ⟨_, rfl⟩
      obtain ⟨p, hp⟩ : ∃ p, safeB m j = p := ⟨_, rfl⟩
      simp only [hq, hp]
      cases p <;> cases q <;> simp <;> omega
theorem safes_same37 (l m : List EvV) (hn : (l.any fun x => x.ki == 7) = false) : ∀ j, (safesL (l ++ m) (l.length + j)).length = (safesL l l.length).length + (safesL m j).length
  | 0 => by rw [Nat.add_zero, safes_low37 l m _ (Nat.le_refl _)]; rfl
  | j + 1 => by
    have ih := safes_same37 l m hn j
    rw [← Nat.add_assoc, safes_next37, safes_next37, safe_off37]
    have hnone : ∀ z, l.any (takenP z) = false := fun z => by
      rw [List.any_eq_false] at hn ⊢
      intro x hx h
      refine hn x hx ?_
      unfold takenP at h
      simp only [Bool.and_eq_true] at h
      exact h.1
    cases h : m[j]? with
    | none =>
      have e : safeB m j = false := by unfold safeB; rw [h]
      rw [e]; simp; omega
    | some e =>
      obtain ⟨p, hp⟩ : ∃ p, safeB m j = p := ⟨_, rfl⟩
      simp only [hnone, hp]
      cases p <;> simp <;> omega
theorem cen_app37 (l m : List EvV) {i : Nat} (h : i ≠ 29) : cenC (l ++ m) i = cenC l i + cenC m i := by
  rw [cenC_at _ h, cenC_at _ h, cenC_at _ h, List.countP_append]
  omega
theorem cen_safe37 (l m : List EvV) : cenC (l ++ m) 29 ≤ cenC l 29 + cenC m 29 := by
  rw [cenC_29, cenC_29, cenC_29, List.length_append]
  have := safes_high37 l m m.length
  omega
theorem cen_safe_same37 (l m : List EvV) (hn : (l.any fun x => x.ki == 7) = false) : cenC (l ++ m) 29 = cenC l 29 + cenC m 29 := by
  rw [cenC_29, cenC_29, cenC_29, List.length_append]
  have := safes_same37 l m hn m.length
  omega
end Go.Proofs.Ytjphlhehhigpjaa
