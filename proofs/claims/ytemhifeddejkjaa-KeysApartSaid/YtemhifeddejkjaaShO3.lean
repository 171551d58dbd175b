/- Arguments that are arrays of three numbers, opened. -/
import Derived.Test.YtemhifeddejkjaaRow
import Derived.Test.YtemhifeddejkjaaMem
import Derived.OpenShut
import Derived.Deep.Slices
namespace Go.Proofs.Ytemhifeddejkjaa
open Go.RowKit Go.WideShapes Go.ChangeShapes Go.Deep

theorem okWide_arrS {P : Program} {w : World} {r : Reach} {b0 : Nat} {t e : TypeId} {n : Nat} {v : Value} (ht : P.underlying t = some (.array n e)) (h : Value.okWide P w r b0 t v) : ∃ cs, v = .agg cs := by
  simp only [Value.okWide, ht] at h
  obtain ⟨cs, h1, _⟩ := h
  exact ⟨cs, h1⟩
section
variable {H : Type} {enc : TypeId × Value → H} {w : World} {base : Nat} {spare : Nat → Bool} {held : Bool}
set_option maxRecDepth 100000 in
theorem cells_el_int : Try.prog.cellsOf 3 = 1 := by kernel_rfl
set_option maxRecDepth 100000 in
theorem cells_open_ints3 : Try.prog.cellsOf 23 = 3 := by kernel_rfl
set_option maxRecDepth 100000 in
theorem open_ints3 {v : Value} {d : DataW H} {p : List MemPlace} (h : DataW.Trod enc Try.prog w base spare held 23 v d p) (hv : ∃ cs, v = .agg cs) : ∃ z0 z1 z2 : Int, ((-9223372036854775808 ≤ z0 ∧ z0 ≤ 9223372036854775807) ∧ (-9223372036854775808 ≤ z1 ∧ z1 ≤ 9223372036854775807) ∧ (-9223372036854775808 ≤ z2 ∧ z2 ≤ 9223372036854775807)) ∧ v = .agg #[.int .i64 z0, .int .i64 z1, .int .i64 z2] := by
  obtain ⟨cs, rfl⟩ := hv
  obtain ⟨fuel, hf⟩ := h
  obtain ⟨xs, m', _, _, hlen, hxl, hxs⟩ := DataW.trod_array Try.underlying23 hf
  rw [cells_open_ints3] at hlen
  obtain ⟨l⟩ := cs
  simp only [Value.cells] at hlen hxs
  match l, hlen with
  | [c0, c1, c2], _ =>
    have t0 := hxs 0 (by omega)
    have t1 := hxs 1 (by omega)
    have t2 := hxs 2 (by omega)
    simp only [cells_el_int] at t0 t1 t2
    match xs, hxl with
    | [y0, y1, y2], _ =>
      simp at t0 t1 t2
      obtain ⟨z0, e0, _, w0⟩ := DataW.trod_int Try.underlying3 t0
      obtain ⟨z1, e1, _, w1⟩ := DataW.trod_int Try.underlying3 t1
      obtain ⟨z2, e2, _, w2⟩ := DataW.trod_int Try.underlying3 t2
      simp at e0 e1 e2
      subst e0 e1 e2
      exact ⟨z0, z1, z2, ⟨bounds_i64 w0, bounds_i64 w1, bounds_i64 w2⟩, rfl⟩
end
end Go.Proofs.Ytemhifeddejkjaa
