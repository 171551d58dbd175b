/- Names, their lists and texts: the plain part. -/
import Derived.Test.YtjlbifpbdocahaaDoorStr
import Derived.Lib.Split
import Derived.Lib.Join
namespace Go.Proofs.YtjlbifpbdocahaaDoor
open Go.RowKit

def okB (b : UInt8) : Bool := decide (33 ≤ b.toNat ∧ b.toNat ≤ 126 ∧ b.toNat ≠ 44)
def rightL (x : List UInt8) : Bool := decide (1 ≤ x.length ∧ x.length ≤ 64) && x.all okB
def checkP (xs : List (List UInt8)) : Nat := if 16 < xs.length then 2 else if xs.all rightL then 0 else 3
def joinL (xs : List (List UInt8)) : List UInt8 := Lib.join xs [44]
def partsL : List UInt8 → List (List UInt8)
  | [] => [[]]
  | b :: r => if b.toNat = 44 then [] :: partsL r else match partsL r with
    | p :: ps => (b :: p) :: ps
    | [] => [[b]]
def splitP (s : List UInt8) : List (List UInt8) × Nat := if s = [] then ([], 0) else if checkP (partsL s) = 0 then (partsL s, 0) else ([], checkP (partsL s))

theorem partsL_ne : ∀ s : List UInt8, partsL s ≠ []
  | [] => by simp [partsL]
  | b :: r => by
    unfold partsL
    split
    · simp
    · split <;> simp
def nheadP (cur : List UInt8) (ps : List (List UInt8)) : List (List UInt8) := match ps with
  | p :: r => (cur ++ p) :: r
  | [] => [cur]
theorem headP_nil (s : List UInt8) : nheadP [] (partsL s) = partsL s := by
  have := partsL_ne s
  cases h : partsL s with
  | nil => exact absurd h this
  | cons p r => rfl
theorem headP_comma (cur : List UInt8) (b : UInt8) (r : List UInt8) (hb : b.toNat = 44) : nheadP cur (partsL (b :: r)) = cur :: partsL r := by
  rw [partsL, if_pos hb]
  simp [nheadP]
theorem headP_other (cur : List UInt8) (b : UInt8) (r : List UInt8) (hb : b.toNat ≠ 44) : nheadP cur (partsL (b :: r)) = nheadP (cur ++ [b]) (partsL r) := by
  rw [partsL, if_neg hb]
  have := partsL_ne r
  cases h : partsL r with
  | nil => exact absurd h this
  | cons p q => simp [nheadP]
theorem headP_end (cur : List UInt8) : nheadP cur (partsL []) = [cur] := by simp [nheadP, partsL]

/-! ### parts and join -/
theorem joinL_nil : joinL [] = [] := rfl
theorem joinL_one (x : List UInt8) : joinL [x] = x := Lib.join_one x _
theorem joinL_cons (x y : List UInt8) (r : List (List UInt8)) : joinL (x :: y :: r) = x ++ 44 :: joinL (y :: r) := by
  unfold joinL
  rw [Lib.join_cons, Lib.join_cons]
  simp [Lib.joinTail]
theorem joinL_snoc : ∀ (xs : List (List UInt8)) (x : List UInt8), xs ≠ [] → joinL (xs ++ [x]) = joinL xs ++ [44] ++ x
  | [], _, h => absurd rfl h
  | [a], x, _ => by
    show joinL [a, x] = _
    rw [joinL_cons, joinL_one, joinL_one]
    simp
  | a :: b :: r, x, _ => by
    show joinL (a :: b :: (r ++ [x])) = _
    have ih := joinL_snoc (b :: r) x (by simp)
    rw [List.cons_append] at ih
    rw [joinL_cons, joinL_cons, ih]
    simp
theorem join_parts : ∀ s : List UInt8, joinL (partsL s) = s
  | [] => rfl
  | b :: r => by
    have ih := join_parts r
    have hne := partsL_ne r
    unfold partsL
    split
    · rename_i hb
      have hb44 : b = 44 := UInt8.toNat_inj.1 hb
      cases h : partsL r with
      | nil => exact absurd h hne
      | cons p q =>
        rw [joinL_cons, ← h, ih, hb44]
        rfl
    · cases h : partsL r with
      | nil => exact absurd h hne
      | cons p q =>
        rw [h] at ih
        show joinL ((b :: p) :: q) = _
        cases q with
        | nil =>
          rw [joinL_one] at ih ⊢
          rw [ih]
        | cons p2 q =>
          rw [joinL_cons] at ih ⊢
          rw [List.cons_append, ih]
theorem parts_plain : ∀ x : List UInt8, (∀ b ∈ x, b.toNat ≠ 44) → ∀ r, partsL (x ++ 44 :: r) = x :: partsL r
  | [], _, r => by
    show partsL (44 :: r) = _
    rw [partsL, if_pos (show (44 : UInt8).toNat = 44 from rfl)]
  | b :: x, h, r => by
    have ih := parts_plain x (fun c hc => h c (by simp [hc])) r
    show partsL (b :: (x ++ 44 :: r)) = _
    rw [partsL, if_neg (h b (by simp)), ih]
theorem parts_last : ∀ x : List UInt8, (∀ b ∈ x, b.toNat ≠ 44) → partsL x = [x]
  | [], _ => rfl
  | b :: x, h => by
    have ih := parts_last x (fun c hc => h c (by simp [hc]))
    rw [partsL, if_neg (h b (by simp)), ih]
theorem parts_join : ∀ xs : List (List UInt8), xs ≠ [] → (∀ x ∈ xs, ∀ b ∈ x, b.toNat ≠ 44) → partsL (joinL xs) = xs
  | [], h, _ => absurd rfl h
  | [x], _, h => by rw [joinL_one]; exact parts_last x (h x (by simp))
  | x :: y :: r, _, h => by
    rw [joinL_cons, parts_plain x (h x (by simp)), parts_join (y :: r) (by simp) (fun z hz => h z (by simp [hz]))]
theorem right_plain {x : List UInt8} (h : rightL x = true) : (∀ b ∈ x, b.toNat ≠ 44) ∧ x ≠ [] := by
  unfold rightL at h
  rw [Bool.and_eq_true] at h
  obtain ⟨h1, h2⟩ := h
  refine ⟨fun b hb => ?_, ?_⟩
  · have := List.all_eq_true.1 h2 b hb
    exact (of_decide_eq_true this).2.2
  · rintro rfl
    simp at h1
theorem check_all {xs : List (List UInt8)} (h : checkP xs = 0) : xs.length ≤ 16 ∧ ∀ x ∈ xs, rightL x = true := by
  unfold checkP at h
  split at h
  · cases h
  · rename_i h1
    split at h
    · rename_i h2
      exact ⟨by omega, fun x hx => List.all_eq_true.1 h2 x hx⟩
    · cases h
theorem split_join {xs : List (List UInt8)} (h : checkP xs = 0) : splitP (joinL xs) = (xs, 0) := by
  obtain ⟨_, hr⟩ := check_all h
  cases xs with
  | nil => rfl
  | cons x r =>
    have hp := parts_join (x :: r) (by simp) (fun y hy => (right_plain (hr y hy)).1)
    have hne : joinL (x :: r) ≠ [] := by
      intro e
      have hx := (right_plain (hr x (by simp))).2
      cases r with
      | nil => rw [joinL_one] at e; exact hx e
      | cons y r => rw [joinL_cons] at e; simp at e
    unfold splitP
    rw [if_neg hne, hp, if_pos h]
theorem join_split (s : List UInt8) (h : (splitP s).2 = 0) : joinL (splitP s).1 = s ∧ checkP (splitP s).1 = 0 := by
  unfold splitP at *
  by_cases h0 : s = []
  · rw [if_pos h0, h0]
    exact ⟨rfl, rfl⟩
  · rw [if_neg h0] at h ⊢
    by_cases h1 : checkP (partsL s) = 0
    · rw [if_pos h1]
      exact ⟨join_parts s, h1⟩
    · rw [if_neg h1] at h
      exact absurd h h1
theorem joinL_le (m : Nat) : ∀ xs : List (List UInt8), (∀ x ∈ xs, x.length ≤ m) → (joinL xs).length ≤ xs.length * (m + 1)
  | [], _ => by simp [joinL_nil]
  | [x], h => by
    rw [joinL_one]
    have := h x (by simp)
    simp; omega
  | x :: y :: r, h => by
    rw [joinL_cons]
    have h1 := h x (by simp)
    have h2 := joinL_le m (y :: r) (fun z hz => h z (by simp [hz]))
    rw [List.length_append, List.length_cons]
    have e : (x :: y :: r).length * (m + 1) = (m + 1) + (y :: r).length * (m + 1) := by rw [List.length_cons, Nat.add_mul]; omega
    omega

/-! ### the library's splitting -/
theorem index_miss : ∀ s : List UInt8, Lib.index s [44] = -1 → partsL s = [s]
  | [], _ => rfl
  | b :: r, h => by
    unfold Lib.index at h
    by_cases hb : b = 44
    · subst hb
      simp [List.isPrefixOf] at h
    · have hp : ([44] : List UInt8).isPrefixOf (b :: r) = false := by
        simp [List.isPrefixOf]
        exact fun e => hb e.symm
      rw [hp] at h
      simp only [Bool.false_eq_true, if_false] at h
      by_cases hi : Lib.index r [44] = -1
      · have ih := index_miss r hi
        have hb' : b.toNat ≠ 44 := fun e => hb (UInt8.toNat_inj.1 e)
        rw [partsL, if_neg hb', ih]
      · rw [if_neg (by simpa using hi)] at h
        have : -1 ≤ Lib.index r [44] := by
          have : ∀ l : List UInt8, -1 ≤ Lib.index l [44] := by
            intro l
            induction l with
            | nil => simp [Lib.index]
            | cons c l ih =>
              unfold Lib.index
              split
              · omega
              · split
                · omega
                · omega
          exact this r
        omega
theorem index_ge : ∀ l : List UInt8, -1 ≤ Lib.index l [44] := by
  intro l
  induction l with
  | nil => simp [Lib.index]
  | cons c l ih =>
    unfold Lib.index
    split
    · omega
    · split
      · omega
      · omega
theorem index_hit : ∀ (s : List UInt8) (i : Nat), Lib.index s [44] = i → partsL s = s.take i :: partsL (s.drop (i + 1))
  | [], i, h => by simp [Lib.index] at h
  | b :: r, i, h => by
    unfold Lib.index at h
    by_cases hb : b = 44
    · subst hb
      simp [List.isPrefixOf] at h
      have : i = 0 := by omega
      subst this
      rw [partsL, if_pos (show (44 : UInt8).toNat = 44 from rfl)]
      rfl
    · have hp : ([44] : List UInt8).isPrefixOf (b :: r) = false := by
        simp [List.isPrefixOf]
        exact fun e => hb e.symm
      rw [hp] at h
      simp only [Bool.false_eq_true, if_false] at h
      by_cases hi : Lib.index r [44] = -1
      · rw [if_pos (by simpa using hi)] at h
        omega
      · rw [if_neg (by simpa using hi)] at h
        have hge := index_ge r
        obtain ⟨j, hj⟩ : ∃ j : Nat, Lib.index r [44] = j := ⟨(Lib.index r [44]).toNat, by omega⟩
        have ih := index_hit r j hj
        have hb' : b.toNat ≠ 44 := fun e => hb (UInt8.toNat_inj.1 e)
        have hij : i = j + 1 := by omega
        subst hij
        rw [partsL, if_neg hb', ih]
        rfl
theorem splitK_parts : ∀ (k : Nat) (s : List UInt8), ((partsL s).length ≤ k + 1 → Lib.splitK [44] 0 k s = partsL s) ∧ (k + 1 < (partsL s).length → (Lib.splitK [44] 0 k s).length = k + 1)
  | 0, s => by
    refine ⟨fun h => ?_, fun _ => rfl⟩
    show [s] = _
    by_cases hi : Lib.index s [44] = -1
    · exact (index_miss s hi).symm
    · have hge := index_ge s
      obtain ⟨j, hj⟩ : ∃ j : Nat, Lib.index s [44] = j := ⟨(Lib.index s [44]).toNat, by omega⟩
      rw [index_hit s j hj] at h
      have := partsL_ne (s.drop (j + 1))
      have := List.length_pos_iff.2 this
      simp at h
      exact absurd h (by assumption)
  | k + 1, s => by
    unfold Lib.splitK
    by_cases hi : Lib.index s [44] = -1
    · rw [if_pos (by simpa using hi), index_miss s hi]
      exact ⟨fun _ => rfl, fun h => by simp at h⟩
    · rw [if_neg (by simpa using hi)]
      have hge := index_ge s
      obtain ⟨j, hj⟩ : ∃ j : Nat, Lib.index s [44] = j := ⟨(Lib.index s [44]).toNat, by omega⟩
      have ih := splitK_parts k (s.drop (j + 1))
      rw [hj, index_hit s j hj]
      simp only [Int.toNat_natCast, Nat.add_zero, List.length_cons, List.length_nil, Nat.zero_add]
      exact ⟨fun h => by rw [ih.1 (by omega)], fun h => by rw [ih.2 (by omega)]⟩
theorem partsL_len : ∀ s : List UInt8, (partsL s).length ≤ s.length + 1
  | [] => by simp [partsL]
  | b :: r => by
    have ih := partsL_len r
    unfold partsL
    split
    · simp; omega
    · split
      · rename_i h
        rw [h] at ih
        simp at ih ⊢
        omega
      · simp
/-- What SplitN of at most 17 gives checks as the parts do, and is the parts where they check. -/
theorem splitN_check (s : List UInt8) : (checkP (Lib.splitK [44] 0 (min 17 (s.length + 1) - 1) s) = checkP (partsL s)) ∧ (checkP (partsL s) = 0 → Lib.splitK [44] 0 (min 17 (s.length + 1) - 1) s = partsL s) := by
  have hl := partsL_len s
  have h := splitK_parts (min 17 (s.length + 1) - 1) s
  by_cases hc : (partsL s).length ≤ min 17 (s.length + 1) - 1 + 1
  · rw [h.1 hc]
    exact ⟨rfl, fun _ => rfl⟩
  · have h2 := h.2 (by omega)
    have e1 : checkP (Lib.splitK [44] 0 (min 17 (s.length + 1) - 1) s) = 2 := by
      unfold checkP
      rw [if_pos (by omega)]
    have e2 : checkP (partsL s) = 2 := by
      unfold checkP
      rw [if_pos (by omega)]
    exact ⟨by rw [e1, e2], fun e => by rw [e2] at e; cases e⟩
end Go.Proofs.YtjlbifpbdocahaaDoor
