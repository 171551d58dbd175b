/- A slice of strings among the arguments, opened. -/
import Derived.Test.YtambeipbpemlkaaDoorRow
import Derived.Test.YtambeipbpemlkaaDoorTexts
import Derived.Deep.Strs
namespace Go.Proofs.YtambeipbpemlkaaDoor
open Go.RowKit Go.WideShapes Go.ChangeShapes Go.Deep
section
variable {H : Type} {enc : TypeId × Value → H} {w : World} {base : Nat} {spare : Nat → Bool} {held : Bool}
set_option maxRecDepth 100000 in
theorem cellsStr1 : Tryd.prog.cellsOf 9 = 1 := by kernel_rfl

set_option maxRecDepth 100000 in
theorem open_texts {v : Value} {d : DataW H} {p : List MemPlace} {b0 : Nat} (hv : Value.okWide Tryd.prog w .any b0 22 v) (h : DataW.Trod enc Tryd.prog w base (fun _ => true) true 22 v d p) :
    ∃ l : List ByteArray, TextsAt w v l ∧ l.length ≤ maxLen ∧ (∀ x ∈ l, x.size ≤ maxLen) ∧ (∀ ao cap, v = .slice ao l.length cap → l.length ≤ cap) := by
  obtain ⟨ao, n, c, rfl⟩ := okWide_slice Tryd.underlying22 hv
  obtain ⟨fuel, hf⟩ := h
  rcases open_strs Tryd.underlying22 Tryd.underlying9 cellsStr1 (by simpa [Value.cells] using hf) with ⟨h1, _⟩ | ⟨a, len, cap, m, Sx, h1, hb, hl, hc, hm, hx, hi⟩
  · simp only [List.cons.injEq, and_true] at h1
    rw [h1]
    exact ⟨[], ⟨none, 0, rfl, fun h => absurd rfl h⟩, by simp, by simp, fun _ _ _ => Nat.zero_le _⟩
  · simp only [List.cons.injEq, and_true] at h1
    have hmc : m = cap := by simpa using hm
    rw [h1]
    have hlc : ∀ ao' cap', Value.slice (some a) len cap = .slice ao' len cap' → len ≤ cap' := fun ao' cap' e => by
      simp only [Value.slice.injEq] at e
      omega
    rcases Nat.eq_zero_or_pos len with h0 | h0
    · subst h0
      exact ⟨[], ⟨some a, cap, rfl, fun h => absurd rfl h⟩, by simp, by simp, fun _ _ _ => Nat.zero_le _⟩
    · obtain ⟨b, off, spot⟩ := a
      have hspot : spot = none := by simpa [Addr.add] using World.cell?_spot (hi 0 (by omega)).1
      subst hspot
      have hblk := World.block_lt_of_cell? w _ (hi 0 (by omega)).1
      simp only [Addr.add_lit] at hi hblk
      refine ⟨(List.range len).map Sx, ⟨some ⟨b, off, none⟩, cap, by simp, fun _ => ⟨b, off, rfl, hblk, fun k x hk => ?_⟩⟩, by simp; omega, ?_, ?_⟩
      · rw [List.getElem?_map] at hk
        by_cases hkl : k < len
        · rw [List.getElem?_range hkl] at hk
          simp only [Option.map_some, Option.some.injEq] at hk
          rw [← hk]
          exact (hi k (by omega)).1
        · rw [List.getElem?_eq_none (by simp; omega)] at hk
          simp at hk
      · intro x hx'
        obtain ⟨k, hk, rfl⟩ := List.mem_map.1 hx'
        exact (hi k (by have := List.mem_range.1 hk; omega)).2
      · simpa using hlc
end
end Go.Proofs.YtambeipbpemlkaaDoor
