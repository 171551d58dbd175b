/- Strings compared.
Slices of strings in memory. Nothing of the program is run here. -/
import Derived.Test.YtjphlhehhigpjaaDoorMem
namespace Go.Proofs.YtjphlhehhigpjaaDoor
open Go.RowKit

theorem ba_beq (a b : ByteArray) : (a == b) = (a.data == b.data) := rfl
instance ba_law : LawfulBEq ByteArray where
  eq_of_beq := by
    intro a b h
    rw [ba_beq] at h
    cases a; cases b
    exact congrArg _ (eq_of_beq h)
  rfl := by
    intro a
    rw [ba_beq]
    exact beq_self_eq_true _

theorem ba_toList (a : ByteArray) : a.toList = a.data.toList := ByteArray.toList_eq a
/-- The model's test of two strings. -/
theorem same_yes {a b : ByteArray} (h : a = b) : (a.toList == b.toList) = true := by simp [h]
theorem same_no {a b : ByteArray} (h : a ≠ b) : (a.toList == b.toList) = false := by
  rw [beq_eq_false_iff_ne, ba_toList, ba_toList]
  intro e
  apply h
  cases a; cases b
  simpa using e
end Go.Proofs.YtjphlhehhigpjaaDoor

namespace Go.Proofs.YtjphlhehhigpjaaDoor
open Go.RowKit

/-- A slice value that reads as the strings l. -/
def TextsAt (w : World) (v : Value) (l : List ByteArray) : Prop :=
  ∃ ao cap, v = .slice ao l.length cap ∧ (l ≠ [] → ∃ b off, ao = some ⟨b, off, none⟩ ∧ b < w.heap.size ∧ ∀ k x, l[k]? = some x → w.cell? ⟨b, off + k, none⟩ = some (.string x))

theorem TextsAt.nil (w : World) : TextsAt w (.slice none 0 0) [] := ⟨none, 0, rfl, fun h => absurd rfl h⟩
theorem TextsAt.keep {w w' : World} {v : Value} {l : List ByteArray} (h : TextsAt w v l) (hs : w.heap.size ≤ w'.heap.size) (hc : ∀ b off cap i, v = .slice (some ⟨b, off, none⟩) l.length cap → b < w.heap.size → w'.cell? ⟨b, i, none⟩ = w.cell? ⟨b, i, none⟩) : TextsAt w' v l := by
  obtain ⟨ao, cap, rfl, h⟩ := h
  refine ⟨ao, cap, rfl, fun hne => ?_⟩
  obtain ⟨b, off, rfl, hb, hk⟩ := h hne
  exact ⟨b, off, rfl, by omega, fun k x hx => (hc b off cap _ rfl hb).trans (hk k x hx)⟩
theorem TextsAt.below {w w' : World} {v : Value} {l : List ByteArray} (h : TextsAt w v l) (hb : Below w.heap.size w w') : TextsAt w' v l :=
  h.keep hb.size fun _ _ _ _ _ hlt => hb.cell hlt
theorem TextsAt.drew {w : World} {v : Value} {l : List ByteArray} (h : TextsAt w v l) : TextsAt w.drew v l := h
/-- The slice of the first n. -/
theorem TextsAt.take {w : World} {ao : Option Addr} {cap : Nat} {l : List ByteArray} (h : TextsAt w (.slice ao l.length cap) l) {n : Nat} (hn : n ≤ l.length) (c : Nat) : TextsAt w (.slice ao n c) (l.take n) := by
  obtain ⟨ao', cap', hv, h⟩ := h
  simp only [Value.slice.injEq] at hv
  obtain ⟨rfl, _, rfl⟩ := hv
  refine ⟨ao, c, by simp [Nat.min_eq_left hn], fun hne => ?_⟩
  obtain ⟨b, off, rfl, hb, hk⟩ := h (by rintro rfl; simp at hne)
  refine ⟨b, off, rfl, hb, fun k x hx => hk k x ?_⟩
  have hk' : k < n := by
    have := (List.getElem?_eq_some_iff.1 hx).1
    simp at this
    omega
  rw [List.getElem?_take] at hx
  simpa [hk'] using hx
end Go.Proofs.YtjphlhehhigpjaaDoor
