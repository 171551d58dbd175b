/- A line's beginning and what follows it. -/
import Derived.Test.YtlalkpgipenkaaaLn3
namespace Go.Proofs.Ytlalkpgipenkaaa
open Go.RowKit

theorem lnTakeWhile_append {p : UInt8 → Bool} (l m : List UInt8) : (l ++ m).takeWhile p = if (l.takeWhile p).length = l.length then l ++ m.takeWhile p else l.takeWhile p := by
  induction l with
  | nil => simp
  | cons b l ih =>
    rw [List.cons_append, List.takeWhile_cons, List.takeWhile_cons]
    cases hb : p b
    · simp
    · simp only [if_true, List.length_cons, Nat.add_right_cancel_iff, ih]
      split <;> simp
theorem lnCount_append (l m : List UInt8) : (lnCount l = l.length ∧ l.length ≤ lnCount (l ++ m)) ∨ (lnCount l < l.length ∧ lnCount (l ++ m) = lnCount l) := by
  have hle := lnCount_le l
  have he := lnTakeWhile_append (p := lnPlainB) l m
  have hd : lnCount l = (l.takeWhile lnPlainB).length := rfl
  have hd2 : lnCount (l ++ m) = ((l ++ m).takeWhile lnPlainB).length := rfl
  rw [he] at hd2
  by_cases h : lnCount l = l.length
  · rw [← hd, if_pos h, List.length_append] at hd2
    exact .inl ⟨h, by omega⟩
  · rw [← hd, if_neg h] at hd2
    exact .inr ⟨by omega, by rw [hd2, ← hd]⟩
theorem lnRest_more (r m : List UInt8) (h : lnRest r ≠ 4) : lnRest (r ++ m) = lnRest r := by
  match r with
  | [] => exact absurd rfl h
  | [a] =>
    by_cases ha : a = 13
    · subst ha; exact absurd rfl h
    · have : a ≠ 13 := ha
      have ha' : ((13 : UInt8) == a) = false := by simpa using Ne.symm this
      have ha2 : (a == (13 : UInt8)) = false := by simpa using this
      simp [lnRest, List.isPrefixOf, ha', ha2]
  | a :: b :: c =>
    have e1 : ([13, 10] : List UInt8).isPrefixOf (a :: b :: c) = ((13 == a) && (10 == b)) := by simp [List.isPrefixOf]
    have e2 : ([13, 10] : List UInt8).isPrefixOf (a :: b :: c ++ m) = ((13 == a) && (10 == b)) := by simp [List.isPrefixOf]
    by_cases hab : ((13 == a) && (10 == b)) = true
    · unfold lnRest
      rw [e1, e2, hab, if_pos rfl, if_pos rfl]
    · have hab' : ((13 == a) && (10 == b)) = false := by simpa using hab
      have e3 : (a :: b :: c).isPrefixOf [13, 10] = false := by
        rw [Bool.eq_false_iff]
        intro e
        have := List.isPrefixOf_iff_prefix.1 e
        obtain ⟨t, ht⟩ := this
        simp only [List.cons_append, List.cons.injEq] at ht
        rw [ht.1, ht.2.1] at hab'
        simp at hab'
      have e4 : (a :: b :: c ++ m).isPrefixOf [13, 10] = false := by
        rw [Bool.eq_false_iff]
        intro e
        have := List.isPrefixOf_iff_prefix.1 e
        obtain ⟨t, ht⟩ := this
        simp only [List.cons_append, List.cons.injEq] at ht
        rw [ht.1, ht.2.1] at hab'
        simp at hab'
      unfold lnRest
      rw [e1, e2, hab', e3, e4]
theorem lnScan_more (l m : List UInt8) (h : (lnScan l).2.2 ≠ 4) : lnScan (l ++ m) = lnScan l := by
  rcases lnCount_append l m with ⟨h1, h2⟩ | ⟨h1, h2⟩
  · by_cases hk : 253 < l.length
    · rw [lnScan_long (by omega), lnScan_long (by omega)]
    · exfalso
      apply h
      rw [lnScan_short h1 (by omega) (by rw [List.drop_length]; rfl) (by rw [List.drop_length]; rfl)]
  · have hd : (l ++ m).drop (lnCount l) = l.drop (lnCount l) ++ m := List.drop_append_of_le_length (by omega)
    have ht : (l ++ m).take (lnCount l) = l.take (lnCount l) := List.take_append_of_le_length (by omega)
    unfold lnScan at h ⊢
    rw [h2, hd, ht]
    split
    · rfl
    · rename_i hk
      rw [if_neg hk] at h
      rw [lnRest_more _ _ (by
        intro e
        rw [e] at h
        simp at h)]
end Go.Proofs.Ytlalkpgipenkaaa
