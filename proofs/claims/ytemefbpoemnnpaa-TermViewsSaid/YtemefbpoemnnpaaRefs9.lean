/- The document's parser, plain; the check of a node in general. -/
import Derived.Test.YtemefbpoemnnpaaRefs8
import Derived.Test.YtemefbpoemnnpaaStrs
namespace Go.Proofs.Ytemefbpoemnnpaa
open Go.RowKit

theorem right_any {w : World} {v : Value} (x : RNode) (h : TextsAt w v (x.args.map bs)) (hl : x.args.length ≤ 1000) (h1 : x.k = 4 ∨ x.k = 6 → x.args ≠ []) :
    Calls Try.prog 69 #[rnodeV x v] w fun e w' => e = .returned (.bool (rightP x)) ∧ Below w.heap.size w w' := by
  obtain ⟨k, a, b, s, l⟩ := x
  simp only at *
  unfold rnodeV rightP
  by_cases h23 : k = 2 ∨ k = 3
  · rw [if_pos h23]; exact right_num k h23 a b (bs s) v w
  · rw [if_neg h23]
    by_cases h4 : k = 4
    · rw [if_pos h4]
      subst h4
      obtain ⟨ao, cap, rfl, hc⟩ := h
      cases l with
      | nil => exact absurd rfl (h1 (.inl rfl))
      | cons y r =>
        obtain ⟨bb, off, rfl, hb, hcell⟩ := hc (by simp)
        exact right_pub a b (bs s) y _ cap bb off w (by simp) hb (hcell 0 (bs y) (by simp))
    · rw [if_neg h4]
      by_cases h5 : k = 5
      · rw [if_pos h5]
        subst h5
        exact right_share a b s h hl
      · rw [if_neg h5]
        by_cases h6 : k = 6
        · rw [if_pos h6]
          subst h6
          obtain ⟨ao, cap, rfl, hc⟩ := h
          cases l with
          | nil => exact absurd rfl (h1 (.inr rfl))
          | cons y r =>
            obtain ⟨bb, off, rfl, hb, hcell⟩ := hc (by simp)
            exact right_sign a b s y _ cap bb off w (by simp) hb (hcell 0 (bs y) (by simp))
        · rw [if_neg h6]
          exact right_other k (fun j h2 h7 => by rw [beq_eq_false_iff_ne]; omega) a b (bs s) v w

/-- What stands ahead of a term's terms: its numbers and text, where that ends, whether it could be read, how many terms follow. -/
structure PHead where
  a : Nat
  b : Nat
  s : List UInt8
  e : Nat
  ok : Bool
  many : Nat
def headP (d : List UInt8) (k : Int) (e : Nat) : PHead :=
  if k = 1 then ⟨0, 0, (text4P d e).1, (text4P d e).2.1, (text4P d e).2.2, 0⟩
  else if k = 2 then (if (num4P d e).2 = true then ⟨(num4P d e).1, (num4P d (e + 4)).1, [], e + 8, (num4P d (e + 4)).2, 0⟩ else ⟨(num4P d e).1, 0, [], e + 8, false, 0⟩)
  else if k = 3 then ⟨(num4P d e).1, 0, [], e + 4, (num4P d e).2, 0⟩
  else if k = 4 ∨ k = 7 then ⟨0, 0, [], e, true, 1⟩
  else if k = 5 then (if (text4P d e).2.2 = true then ⟨0, 0, (text4P d e).1, (text4P d e).2.1 + 4, (num4P d (text4P d e).2.1).2 && decide ((num4P d (text4P d e).2.1).1 ≤ 8), (num4P d (text4P d e).2.1).1⟩ else ⟨0, 0, (text4P d e).1, (text4P d e).2.1 + 4, false, 0⟩)
  else if k = 6 then ⟨0, 0, (text4P d e).1, (text4P d e).2.1, (text4P d e).2.2, 2⟩
  else if k = 8 then (if e < d.length then ⟨0, byteAt d e, [], e + 1, true, 3⟩ else ⟨0, 0, [], e + 1, false, 3⟩)
  else if k = 9 then ⟨0, (num4P d e).1, [], e + 4, (num4P d e).2, 2⟩
  else if k = 10 then ⟨0, 0, [], e + 4, (num4P d e).2 && decide ((num4P d e).1 ≤ 32), (num4P d e).1⟩
  else ⟨0, 0, [], e, false, 0⟩
abbrev Parsed := RNode × Nat × Bool
def manyP (p : Nat → Parsed) (d : List UInt8) : Nat → Nat → List (List UInt8) × Nat × Bool
  | 0, e => ([], e, true)
  | n + 1, e => if (p e).2.2 = true then (cutL d e (p e).2.1 :: (manyP p d n (p e).2.1).1, (manyP p d n (p e).2.1).2) else ([], (p e).2.1, false)
def noRNode : RNode := ⟨0, 0, 0, [], []⟩
def restP (p : Nat → Parsed) (d : List UInt8) (at' : Nat) (k : Int) (h : PHead) : Parsed :=
  if h.ok = true ∧ (manyP p d h.many h.e).2.2 = true ∧ rightP ⟨k, h.a, h.b, h.s, (manyP p d h.many h.e).1⟩ = true then (⟨k, h.a, h.b, h.s, (manyP p d h.many h.e).1⟩, (manyP p d h.many h.e).2.1, true)
  else (noRNode, at', false)
def parseN : Nat → List UInt8 → Nat → Parsed
  | 0, _, k => (noRNode, k, false)
  | f + 1, d, k => if d.length ≤ k then (noRNode, k, false) else restP (parseN f d) d k ((byteAt d k : Int) - 240) (headP d ((byteAt d k : Int) - 240) (k + 1))

theorem num4P_ok {d : List UInt8} {e : Nat} (h : (num4P d e).2 = true) : e + 4 ≤ d.length := by
  unfold num4P at h
  split at h
  · assumption
  · simp at h
theorem num4P_lt (d : List UInt8) (e : Nat) : (num4P d e).1 < 4294967296 := by
  unfold num4P
  split
  · exact numAt_lt d e
  · simp
theorem text4P_ok {d : List UInt8} {e : Nat} (h : (text4P d e).2.2 = true) : e + 4 ≤ (text4P d e).2.1 ∧ (text4P d e).2.1 ≤ d.length := by
  unfold text4P at h ⊢
  split at h
  · rename_i hh
    rw [if_pos hh]
    simp only
    omega
  · simp at h
theorem text4P_le {d : List UInt8} {e : Nat} (he : e ≤ d.length) : (text4P d e).2.1 ≤ d.length := by
  unfold text4P
  split
  · rename_i hh; simp only; omega
  · exact he
theorem headP_ok {d : List UInt8} {k : Int} {e : Nat} (he : e ≤ d.length) (h : (headP d k e).ok = true) : e ≤ (headP d k e).e ∧ (headP d k e).e ≤ d.length ∧ (headP d k e).many ≤ 32 := by
  unfold headP at h ⊢
  repeat' split at h
  all_goals (try split)
  all_goals simp_all
  all_goals first
    | (have := text4P_ok h; omega)
    | (have := num4P_ok h; omega)
    | (have := num4P_ok h.1; omega)
    | omega
    | (have := num4P_ok h; have := h; omega)
    | (have := num4P_ok h.1; have := text4P_ok (d := d) (e := e) (by assumption); omega)
theorem headP_e {d : List UInt8} {k : Int} {e : Nat} (he : e ≤ d.length) : (headP d k e).e ≤ d.length + 8 := by
  have := text4P_le he
  unfold headP
  repeat' split
  all_goals (simp only; omega)
theorem headP_many {d : List UInt8} {k : Int} {e : Nat} : (headP d k e).many < 4294967296 := by
  have h1 := num4P_lt d e
  have h2 := num4P_lt d (text4P d e).2.1
  unfold headP
  repeat' split
  all_goals (simp only; omega)
theorem headP_one {d : List UInt8} {k : Int} {e : Nat} (h : k = 4 ∨ k = 6) : 0 < (headP d k e).many := by
  rcases h with rfl | rfl
  · simp [headP]
  · simp [headP]
end Go.Proofs.Ytemefbpoemnnpaa
