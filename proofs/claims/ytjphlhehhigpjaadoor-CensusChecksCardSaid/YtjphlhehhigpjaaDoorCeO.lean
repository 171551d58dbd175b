/- Arguments of layer 37: a census, opened. -/
import Derived.Test.YtjphlhehhigpjaaDoorCe1
import Derived.Test.YtjphlhehhigpjaaDoorRow
import Derived.OpenShut
import Derived.Deep.Slices
namespace Go.Proofs.YtjphlhehhigpjaaDoor
open Go.RowKit Go.WideShapes Go.ChangeShapes Go.Deep

section
variable {H : Type} {enc : TypeId × Value → H} {w : World} {base : Nat} {spare : Nat → Bool} {held : Bool}
set_option maxRecDepth 100000 in
theorem cells37 : Tryd.prog.cellsOf 3 = 1 ∧ Tryd.prog.cellsOf 31 = 8 ∧ Tryd.prog.cellsOf 32 = 16 ∧ Tryd.prog.cellsOf 33 = 4 ∧ Tryd.prog.cellsOf 35 = 30 := by refine ⟨?_, ?_, ?_, ?_, ?_⟩ <;> kernel_rfl
theorem ints_arr37 {t : TypeId} {n fuel : Nat} {cs : List Value} {x : DataW H × List MemPlace} (ht : Tryd.prog.underlying t = some (.array n 3)) (h : DataW.trod enc Tryd.prog w base spare held fuel t cs = some x) : ∀ i, i < n → ∃ z : Int, (cs.drop i).take 1 = [.int .i64 z] := by
  intro i hi
  obtain ⟨xs, m', _, _, hlen, hxl, hxs⟩ := DataW.trod_array ht h
  have h1 := hxs i hi
  rw [cells37.1, Nat.mul_one, List.getElem?_eq_getElem (by omega)] at h1
  obtain ⟨z, e, _⟩ := DataW.trod_int Tryd.underlying3 h1
  exact ⟨z, e⟩
set_option maxRecDepth 100000 in
theorem open_census {v : Value} {d : DataW H} {p : List MemPlace} {b0 : Nat} (hv : Value.okWide Tryd.prog w .any b0 35 v) (h : DataW.Trod enc Tryd.prog w base spare held 35 v d p) : ∃ c : Nat → Int, v = .agg (cenRow c) := by
  obtain ⟨cs, rfl, hcs⟩ := okWide_struct Tryd.underlying35 hv
  obtain ⟨fuel, hf⟩ := h
  obtain ⟨xs, m', _, hxe, hlen, hxl, hxs⟩ := DataW.trod_struct Tryd.underlying35 hf
  rw [cells37.2.2.2.2] at hlen
  obtain ⟨l⟩ := cs
  simp only [Value.cells] at hlen hxs
  have hl5 : xs.length = 5 := hxl
  have t0 : DataW.trod enc Tryd.prog w base _ _ m' 31 ((l.drop 0).take (Tryd.prog.cellsOf 31)) = xs[0]? := hxs 0 _ rfl
  have t1 : DataW.trod enc Tryd.prog w base _ _ m' 32 ((l.drop 8).take (Tryd.prog.cellsOf 32)) = xs[1]? := hxs 1 _ rfl
  have t2 : DataW.trod enc Tryd.prog w base _ _ m' 33 ((l.drop 24).take (Tryd.prog.cellsOf 33)) = xs[2]? := hxs 2 _ rfl
  have t3 : DataW.trod enc Tryd.prog w base _ _ m' 3 ((l.drop 28).take (Tryd.prog.cellsOf 3)) = xs[3]? := hxs 3 _ rfl
  have t4 : DataW.trod enc Tryd.prog w base _ _ m' 3 ((l.drop 29).take (Tryd.prog.cellsOf 3)) = xs[4]? := hxs 4 _ rfl
  rw [cells37.2.1, List.getElem?_eq_getElem (by omega)] at t0
  rw [cells37.2.2.1, List.getElem?_eq_getElem (by omega)] at t1
  rw [cells37.2.2.2.1, List.getElem?_eq_getElem (by omega)] at t2
  rw [cells37.1, List.getElem?_eq_getElem (by omega)] at t3 t4
  have hz : ∀ j, j < 30 → ∃ z : Int, l[j]? = some (.int .i64 z) := by
    have hone : ∀ j z, (l.drop j).take 1 = [Value.int .i64 z] → l[j]? = some (.int .i64 z) := fun j z e => by
      have := congrArg (·[0]?) e
      simpa [List.getElem?_take, List.getElem?_drop] using this
    intro j hj
    have part : ∀ off n k, k < n → ∀ z, ((((l.drop off).take n).drop k).take 1 = [Value.int .i64 z]) → l[off + k]? = some (.int .i64 z) := fun off n k hk z e => by
      have := congrArg (·[0]?) e
      simpa [List.getElem?_take, List.getElem?_drop, hk] using this
    by_cases h1 : j < 8
    · obtain ⟨z, e⟩ := ints_arr37 Tryd.underlying31 t0 j h1
      exact ⟨z, by have := part 0 8 j h1 z e; rwa [Nat.zero_add] at this⟩
    by_cases h2 : j < 24
    · obtain ⟨z, e⟩ := ints_arr37 Tryd.underlying32 t1 (j - 8) (by omega)
      exact ⟨z, by have := part 8 16 (j - 8) (by omega) z e; rwa [show 8 + (j - 8) = j by omega] at this⟩
    by_cases h3 : j < 28
    · obtain ⟨z, e⟩ := ints_arr37 Tryd.underlying33 t2 (j - 24) (by omega)
      exact ⟨z, by have := part 24 4 (j - 24) (by omega) z e; rwa [show 24 + (j - 24) = j by omega] at this⟩
    · have : j = 28 ∨ j = 29 := by omega
      rcases this with rfl | rfl
      · obtain ⟨z, e, _⟩ := DataW.trod_int Tryd.underlying3 t3
        exact ⟨z, hone 28 z e⟩
      · obtain ⟨z, e, _⟩ := DataW.trod_int Tryd.underlying3 t4
        exact ⟨z, hone 29 z e⟩
  refine ⟨fun j => if h : j < 30 then (hz j h).choose else 0, ?_⟩
  congr 1
  apply Array.ext_getElem?
  intro j
  by_cases hj : j < 30
  · rw [cenRow_get _ hj, dif_pos hj]
    rw [List.getElem?_toArray]
    exact (hz j hj).choose_spec
  · rw [Array.getElem?_eq_none (by show l.length ≤ j; omega), Array.getElem?_eq_none (by rw [cenRow_size]; omega)]
end
end Go.Proofs.YtjphlhehhigpjaaDoor
