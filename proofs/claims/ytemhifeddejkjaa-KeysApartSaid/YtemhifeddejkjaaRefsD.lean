/- The document's Exp, the plain part. -/
import Derived.Test.YtemhifeddejkjaaRefs11
namespace Go.Proofs.Ytemhifeddejkjaa
open Go.RowKit

def insL (x : List UInt8) : List (List UInt8) → List (List UInt8)
  | [] => [x]
  | y :: r => if lessL x y = true then x :: y :: r else y :: insL x r
abbrev nodeOf (s : List UInt8) : RNode := (parseN (s.length + 1) s 0).1
def refExpL (s x : List UInt8) : List UInt8 := if kindL s = 5 ∧ kindL x = 2 ∧ (nodeOf s).args.length < 8 then refShareL (nodeOf s).s (insL x (nodeOf s).args) else []

structure InsSt (x : List UInt8) (l : List (List UInt8)) (i : Nat) (b : Bool) (D : List (List UInt8)) : Prop where
  le : i ≤ l.length
  no : b = false → D = l.take i ∧ insL x l = l.take i ++ insL x (l.drop i)
  yes : b = true → insL x l = D ++ l.drop i
  few : D.length ≤ i + 1
theorem InsSt.start (x : List UInt8) (l : List (List UInt8)) : InsSt x l 0 false [] := ⟨Nat.zero_le _, fun _ => ⟨rfl, by simp⟩, fun e => (by cases e), by simp⟩
theorem InsSt.pass {x : List UInt8} {l : List (List UInt8)} {i : Nat} {D : List (List UInt8)} (h : InsSt x l i true D) (hi : i < l.length) : InsSt x l (i + 1) true (D ++ [l[i]]) :=
  ⟨by omega, fun e => (by cases e), fun _ => by rw [h.yes rfl, List.drop_eq_getElem_cons hi]; simp, by have := h.few; simp; omega⟩
theorem InsSt.before {x : List UInt8} {l : List (List UInt8)} {i : Nat} {D : List (List UInt8)} (h : InsSt x l i false D) (hi : i < l.length) (hl : lessL x l[i] = true) : InsSt x l (i + 1) true (D ++ [x] ++ [l[i]]) := by
  obtain ⟨h1, h2⟩ := h.no rfl
  refine ⟨by omega, fun e => (by cases e), fun _ => ?_, ?_⟩
  · rw [h2, List.drop_eq_getElem_cons hi, insL, if_pos hl, h1]; simp
  · have : D.length = i := by rw [h1, List.length_take]; omega
    simp; omega
theorem InsSt.behind {x : List UInt8} {l : List (List UInt8)} {i : Nat} {D : List (List UInt8)} (h : InsSt x l i false D) (hi : i < l.length) (hl : lessL x l[i] = false) : InsSt x l (i + 1) false (D ++ [l[i]]) := by
  obtain ⟨h1, h2⟩ := h.no rfl
  refine ⟨by omega, fun _ => ⟨?_, ?_⟩, fun e => (by cases e), ?_⟩
  · rw [h1, List.take_succ_eq_append_getElem hi]
  · rw [h2, List.drop_eq_getElem_cons hi, insL, if_neg (by rw [hl]; simp), List.take_succ_eq_append_getElem hi, List.append_assoc]; rfl
  · have := h.few
    simp; omega
theorem InsSt.last {x : List UInt8} {l : List (List UInt8)} {D : List (List UInt8)} (h : InsSt x l l.length false D) : D ++ [x] = insL x l := by
  obtain ⟨h1, h2⟩ := h.no rfl
  rw [h2, h1]
  simp [insL]
theorem InsSt.end {x : List UInt8} {l : List (List UInt8)} {D : List (List UInt8)} (h : InsSt x l l.length true D) : D = insL x l := by
  rw [h.yes rfl]; simp
theorem insL_mem {x a : List UInt8} : ∀ {l : List (List UInt8)}, a ∈ insL x l → a = x ∨ a ∈ l
  | [], h => by simp [insL] at h; exact .inl h
  | y :: r, h => by
    unfold insL at h
    split at h
    · simpa using h
    · rcases List.mem_cons.1 h with h | h
      · exact .inr (by simp [h])
      · rcases insL_mem h with h | h
        · exact .inl h
        · exact .inr (by simp [h])
theorem insL_length (x : List UInt8) : ∀ l : List (List UInt8), (insL x l).length = l.length + 1
  | [] => rfl
  | y :: r => by
    unfold insL
    split
    · simp
    · simp [insL_length x r]
end Go.Proofs.Ytemhifeddejkjaa
