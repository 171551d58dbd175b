/- Part 34 of what the statement wants. -/
import Derived.Deep.Grids
import Derived.Deep.Slices
import Derived.OpenShut
import Derived.Test.YtjlbifpbdocahaaPk00
import Derived.Test.YtjlbifpbdocahaaPk33
namespace Go.Proofs.Ytjlbifpbdocahaa
open Go.RowKit Go.WideShapes Go.ChangeShapes Go.Deep
section
variable {H : Type} {enc : TypeId × Value → H} {w : World} {base : Nat}
set_option maxRecDepth 100000 in
theorem cellsBool24 : Try.prog.cellsOf 4 = 1 := by kernel_rfl
set_option maxRecDepth 100000 in
theorem open_bools24 {v : Value} {d : DataW H} {p : List MemPlace} {b0 : Nat} (hv : Value.okWide Try.prog w .any b0 66 v) (h : DataW.Trod enc Try.prog w base (fun _ => true) true 66 v d p) :
    ∃ l : List Bool, BoolsAt w v l ∧ l.length ≤ maxLen := by
  obtain ⟨ao, n, c, rfl⟩ := okWide_slice Try.underlying66 hv
  obtain ⟨fuel, hf⟩ := h
  rcases open_bools Try.underlying66 Try.underlying4 cellsBool24 (by simpa [Value.cells] using hf) with ⟨h1, _⟩ | ⟨a, len, cap, Bx, h1, hb, hl, hc, _, hi⟩
  · simp only [List.cons.injEq, and_true] at h1
    rw [h1]
    exact ⟨[], ⟨none, 0, rfl, fun h => absurd rfl h⟩, by simp⟩
  · simp only [List.cons.injEq, and_true] at h1
    rw [h1]
    rcases Nat.eq_zero_or_pos len with h0 | h0
    · subst h0
      exact ⟨[], ⟨some a, cap, rfl, fun h => absurd rfl h⟩, by simp⟩
    · obtain ⟨b, off, spot⟩ := a
      have hspot : spot = none := by simpa [Addr.add] using World.cell?_spot (hi 0 (by omega))
      subst hspot
      have hblk := World.block_lt_of_cell? w _ (hi 0 (by omega))
      simp only [Addr.add_lit] at hi hblk
      refine ⟨(List.range len).map Bx, ⟨some ⟨b, off, none⟩, cap, by simp, fun _ => ⟨b, off, rfl, hblk, fun k x hk => ?_⟩⟩, by simp; omega⟩
      rw [List.getElem?_map] at hk
      by_cases hkl : k < len
      · rw [List.getElem?_range hkl] at hk
        simp only [Option.map_some, Option.some.injEq] at hk
        rw [← hk]
        exact hi k (by omega)
      · rw [List.getElem?_eq_none (by simp; omega)] at hk
        simp at hk
end
end Go.Proofs.Ytjlbifpbdocahaa
