/- A list of strings among the arguments' cells, opened. -/
import Derived.Test.YtjlbifpbdocahaaDoorRow
import Derived.Test.YtjlbifpbdocahaaDoorPf0
import Derived.Test.YtjlbifpbdocahaaDoorStr
import Derived.Test.YtjlbifpbdocahaaDoorTexts
import Derived.Deep.Strs
import Derived.OpenShut
import Derived.WideKeyArgs
namespace Go.Proofs.YtjlbifpbdocahaaDoor
open Go.RowKit Go.WideShapes Go.ChangeShapes Go.Deep
section
variable {H : Type} {enc : TypeId × Value → H} {w : World} {base : Nat}
set_option maxRecDepth 100000 in
theorem cellsStr15 : Tryd.prog.cellsOf 9 = 1 := by kernel_rfl
set_option maxRecDepth 100000 in
theorem cellsStrs15 : Tryd.prog.cellsOf 23 = 1 := by kernel_rfl

set_option maxRecDepth 100000 in
theorem texts_cell {c : Value} {fuel : Nat} {d : DataW H} {p : List MemPlace} (hf : DataW.trod enc Tryd.prog w base (fun _ => true) true fuel 23 [c] = some (d, p)) :
    ∃ l : List ByteArray, TextsAt w c l ∧ l.length ≤ maxLen ∧ (∀ x ∈ l, x.size ≤ maxLen) ∧ Room15 c := by
  rcases open_strs Tryd.underlying23 Tryd.underlying9 cellsStr15 hf with ⟨h1, _⟩ | ⟨a, len, cap, m, Sx, h1, hb, hl, hc, hm, hx, hi⟩
  · simp only [List.cons.injEq, and_true] at h1
    rw [h1]
    exact ⟨[], ⟨none, 0, rfl, fun h => absurd rfl h⟩, by simp, by simp, fun _ _ _ e => by injection e with _ e2 e3; omega⟩
  · simp only [List.cons.injEq, and_true] at h1
    have hmc : m = cap := by simpa using hm
    rw [h1]
    have hlc : Room15 (.slice (some a) len cap) := fun _ _ _ e => by
      injection e with _ e2 e3
      omega
    rcases Nat.eq_zero_or_pos len with h0 | h0
    · subst h0
      exact ⟨[], ⟨some a, cap, rfl, fun h => absurd rfl h⟩, by simp, by simp, hlc⟩
    · obtain ⟨b, off, spot⟩ := a
      have hspot : spot = none := by simpa [Addr.add] using World.cell?_spot (hi 0 (by omega)).1
      subst hspot
      have hblk := World.block_lt_of_cell? w _ (hi 0 (by omega)).1
      simp only [Addr.add_lit] at hi hblk
      refine ⟨(List.range len).map Sx, ⟨some ⟨b, off, none⟩, cap, by simp, fun _ => ⟨b, off, rfl, hblk, fun k x hk => ?_⟩⟩, by simp; omega, ?_, hlc⟩
      · rw [List.getElem?_map] at hk
        by_cases hkl : k < len
        · rw [List.getElem?_range hkl] at hk
          simp only [Option.map_some, Option.some.injEq] at hk
          rw [← hk]
          exact (hi k (by omega)).1
        · rw [List.getElem?_eq_none (by simp; omega)] at hk
          simp at hk
      · intro x hx'
        obtain ⟨k, hk, rfl⟩ := List.mem_map.1 hx'
        exact (hi k (by have := List.mem_range.1 hk; omega)).2
theorem texts_cell2 {c : Value} {fuel : Nat} {d : DataW H} {p : List MemPlace} (hf : DataW.trod enc Tryd.prog w base (fun _ => true) true fuel 23 [c] = some (d, p)) :
    ∃ l : List (List UInt8), TextsAt w c (l.map bs) ∧ l.length ≤ maxLen ∧ (∀ x ∈ l, x.length ≤ maxLen) ∧ Room15 c := by
  obtain ⟨l, h1, h2, h3, h4⟩ := texts_cell hf
  have e : (l.map fun x => x.data.toList).map bs = l := by
    rw [List.map_map]
    conv => rhs; rw [← List.map_id l]
    exact List.map_congr_left fun x _ => bs_list x
  refine ⟨l.map fun x => x.data.toList, by rw [e]; exact h1, by rw [List.length_map]; exact h2, fun x hx => ?_, h4⟩
  obtain ⟨y, hy, rfl⟩ := List.mem_map.1 hx
  have := h3 y hy
  rw [Array.length_toList]
  exact this
def pick8 {α : Type} (u0 u1 u2 u3 u4 u5 u6 u7 : α) : Nat → α
  | 0 => u0 | 1 => u1 | 2 => u2 | 3 => u3 | 4 => u4 | 5 => u5 | 6 => u6 | _ => u7
end
end Go.Proofs.YtjlbifpbdocahaaDoor
