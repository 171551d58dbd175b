/- Layer 15, plain: the methods' names, the lists' words, what is wrong with a list; preferences in memory. -/
import Derived.Test.YtkigohenfaomkaaDoorNRight
import Derived.Test.YtkigohenfaomkaaDoorPf0
namespace Go.Proofs.YtkigohenfaomkaaDoor
open Go.RowKit

def meCurve : List UInt8 := [99, 117, 114, 118, 101, 50, 53, 53, 49, 57, 45, 115, 104, 97, 50, 53, 54]
def meEcdh : List UInt8 := [101, 99, 100, 104, 45, 115, 104, 97, 50, 45, 110, 105, 115, 116, 112, 50, 53, 54]
def meGex : List UInt8 := [100, 105, 102, 102, 105, 101, 45, 104, 101, 108, 108, 109, 97, 110, 45, 103, 114, 111, 117, 112, 45, 101, 120, 99, 104, 97, 110, 103, 101, 45, 115, 104, 97, 50, 53, 54]
def methodP (x : List UInt8) : Int := if x = meCurve then 1 else if x = meEcdh then 2 else if x = meGex then 3 else 0
def pfWords : List (List UInt8) := [[107, 101, 120], [104, 111, 115, 116], [101, 110, 99, 45, 99], [101, 110, 99, 45, 115], [109, 97, 99, 45, 99], [109, 97, 99, 45, 115], [99, 111, 109, 112, 45, 99], [99, 111, 109, 112, 45, 115]]
def wordZ (i : Int) : List UInt8 := if 0 ≤ i ∧ i < 8 then pfWords.getD i.toNat [] else []
def methodZ (i : Int) : List UInt8 := if i = 1 then meCurve else if i = 2 then meEcdh else if i = 3 then meGex else []
/-- What is wrong with the list i. -/
def oneP (i : Nat) (l : List (List UInt8)) : Int :=
  if l.length = 0 then 6 else if 15 < l.length then 2 else if ¬ ((∀ x ∈ l, rightL x = true) ∧ l.Nodup) then 3 else if i = 0 ∧ ¬ (∀ x ∈ l, methodP x ≠ 0) then 10 else 0
/-- The first list with which something is wrong. -/
def BadAt (p : Nat → List (List UInt8)) (k : Nat) : Prop := k < 8 ∧ (∀ j < k, oneP j (p j) = 0) ∧ oneP k (p k) ≠ 0
theorem bad_or (p : Nat → List (List UInt8)) : (∀ j < 8, oneP j (p j) = 0) ∨ ∃ k, BadAt p k := by
  have h : ∀ n ≤ 8, (∀ j < n, oneP j (p j) = 0) ∨ ∃ k, BadAt p k := by
    intro n
    induction n with
    | zero => exact fun _ => .inl fun j h => absurd h (by omega)
    | succ n ih =>
      intro hn
      rcases ih (by omega) with h | h
      · by_cases hz : oneP n (p n) = 0
        · refine .inl fun j hj => ?_
          rcases Nat.lt_or_eq_of_le (Nat.le_of_lt_succ hj) with h1 | rfl
          · exact h j h1
          · exact hz
        · exact .inr ⟨n, by omega, h, hz⟩
      · exact .inr h
  exact h 8 (Nat.le_refl _)

/-- The two tables in memory. -/
def Tab15 (w : World) : Prop :=
  (∃ tt fr, w.heap[1]? = some (.cells #[.string ⟨#[]⟩, .string (bs meCurve), .string (bs meEcdh), .string (bs meGex)] tt fr)) ∧
  ∃ tt fr, w.heap[0]? = some (.cells (pfWords.map fun x => Value.string (bs x)).toArray tt fr)
theorem Tab15.lt {w : World} (h : Tab15 w) : 1 < w.heap.size ∧ 0 < w.heap.size := by
  obtain ⟨⟨_, _, h⟩, _, _, h'⟩ := h
  exact ⟨(Array.getElem?_eq_some_iff.1 h).1, (Array.getElem?_eq_some_iff.1 h').1⟩
theorem Tab15.below {w w' : World} (h : Tab15 w) (hb : Below w.heap.size w w') : Tab15 w' := by
  have hl := h.lt
  obtain ⟨⟨t1, f1, h1⟩, t2, f2, h2⟩ := h
  exact ⟨⟨t1, f1, (hb.block _ hl.1).trans h1⟩, t2, f2, (hb.block _ hl.2).trans h2⟩
end Go.Proofs.YtkigohenfaomkaaDoor
