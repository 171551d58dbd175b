/- Layer 17: of, Lists, Guess. -/
import Derived.Test.YtihkhcocfhbekaaDoorPfU
import Derived.Test.YtihkhcocfhbekaaDoorPfY
import Derived.Test.YtihkhcocfhbekaaDoorNFst
import Derived.Test.YtihkhcocfhbekaaDoorFltA
import Derived.Deep.RegionHeld3
namespace Go.Proofs.YtihkhcocfhbekaaDoor
open Go.RowKit

/-- Eight names as a value. -/
def agg8S (f : Nat → ByteArray) : Value := .agg #[.string (f 0), .string (f 1), .string (f 2), .string (f 3), .string (f 4), .string (f 5), .string (f 6), .string (f 7)]
set_option maxHeartbeats 1000000 in
set_option maxRecDepth 100000 in
theorem chOf_any (f : Nat → ByteArray) (w : World) : Calls Tryd.prog 45 #[agg8S f] w fun e w' => e = .returned (agg8S f) ∧ Below w.heap.size w w' := by
  unfold agg8S
  generalize f 0 = f0
  generalize f 1 = f1
  generalize f 2 = f2
  generalize f 3 = f3
  generalize f 4 = f4
  generalize f 5 = f5
  generalize f 6 = f6
  generalize f 7 = f7
  have hR := heap_alloc_new (w.alloc (.cells #[.string f0, .string f1, .string f2, .string f3, .string f4, .string f5, .string f6, .string f7] 73)) (.cells #[.string f0, .string f1, .string f2, .string f3, .string f4, .string f5, .string f6, .string f7] 28)
  rw [World.size_alloc] at hR
  have HR := Lib.hid hR
  clear hR
  go_enter Tryd.func45, Tryd.ntmps45
  go_wp2_with fail
  exact bodyPost_ret (results_cell_row rfl _ _ (w.heap.size + 1) _ _ (0, 0) _ rfl HR.out Tryd.underlying28 rfl (by kernel_rfl)) rfl ⟨rfl, ((Below.refl _ _).alloc (Nat.le_refl _) _).alloc (by rw [World.size_alloc]; omega) _⟩

/-- The eight names in a list. -/
def list8S (f : Nat → ByteArray) : List ByteArray := [f 0, f 1, f 2, f 3, f 4, f 5, f 6, f 7]
theorem list8S_at (f : Nat → ByteArray) : ∀ k, k < 8 → (list8S f)[k]? = some (f k)
  | 0, _ => rfl
  | 1, _ => rfl
  | 2, _ => rfl
  | 3, _ => rfl
  | 4, _ => rfl
  | 5, _ => rfl
  | 6, _ => rfl
  | 7, _ => rfl
  | k + 8, h => absurd h (by omega)
theorem texts_of_row {w : World} {b : Nat} {t : TypeId} {l : List ByteArray} {fr : Nat × Nat} (h : w.heap[b]? = some (.cells (l.map Value.string).toArray t fr)) : TextsAt w (.slice (some ⟨b, 0, none⟩) l.length l.length) l := by
  refine ⟨some ⟨b, 0, none⟩, l.length, rfl, fun _ => ⟨b, 0, rfl, (Array.getElem?_eq_some_iff.1 h).1, fun j x hj => ?_⟩⟩
  rw [cell_of_row w b (0 + j) _ _ _ h]
  simp [hj]
set_option maxHeartbeats 1000000 in
set_option maxRecDepth 100000 in
theorem chLists_any (f : Nat → ByteArray) (w : World) : Calls Tryd.prog 21 #[agg8S f] w fun e w' => e = .returned (.slice (some ⟨w.heap.size + 1, 0, none⟩) 8 8) ∧ TextsAt w' (.slice (some ⟨w.heap.size + 1, 0, none⟩) 8 8) (list8S f) ∧ Below w.heap.size w w' := by
  have hR := heap_alloc_new (w.alloc (.cells #[.string (f 0), .string (f 1), .string (f 2), .string (f 3), .string (f 4), .string (f 5), .string (f 6), .string (f 7)] 28)) (.cells #[.string (f 0), .string (f 1), .string (f 2), .string (f 3), .string (f 4), .string (f 5), .string (f 6), .string (f 7)] 9)
  rw [World.size_alloc] at hR
  have HT : Hid (TextsAt _ (.slice (some ⟨w.heap.size + 1, 0, none⟩) 8 8) (list8S f)) := texts_of_row (l := list8S f) hR
  clear hR
  generalize list8S f = l at *
  unfold agg8S
  generalize f 0 = f0 at *
  generalize f 1 = f1 at *
  generalize f 2 = f2 at *
  generalize f 3 = f3 at *
  generalize f 4 = f4 at *
  generalize f 5 = f5 at *
  generalize f 6 = f6 at *
  generalize f 7 = f7 at *
  go_enter Tryd.func21, Tryd.ntmps21
  go_wp2_with fail
  go_ret
  exact ⟨rfl, HT.out, ((Below.refl _ _).alloc (Nat.le_refl _) _).alloc (by rw [World.size_alloc]; omega) _⟩

/-- Do two lists have a first name, the same one? -/
def sameFirstB (l o : List ByteArray) : Bool := match l, o with
  | x :: _, y :: _ => x.toList == y.toList
  | _, _ => false
set_option maxHeartbeats 1000000 in
set_option maxRecDepth 100000 in
theorem chSameFirst_any {w : World} {v v' : Value} {l o : List ByteArray} (h : TextsAt w v l) (h' : TextsAt w v' o) (hl : l.length ≤ maxLen) (ho : o.length ≤ maxLen) :
    Calls Tryd.prog 47 #[v, v'] w fun e w' => e = .returned (.bool (sameFirstB l o)) ∧ Below w.heap.size w w' := by
  obtain ⟨ao, cap, rfl, hc⟩ := h
  obtain ⟨ao', cap', rfl, hc'⟩ := h'
  unfold maxLen at hl ho
  cases l with
  | nil =>
    clear hc hc'
    go_enter Tryd.func47, Tryd.ntmps47
    go_wp2_with fail
    go_region
    all_goals
      go_wp2_with fail
      go_ret
      exact ⟨rfl, (Below.refl _ _).drew⟩
  | cons x l =>
    cases o with
    | nil =>
      clear hc hc'
      go_enter Tryd.func47, Tryd.ntmps47
      go_wp2_with fail
      go_region
      all_goals
        go_wp2_with fail
        go_ret
        exact ⟨rfl, (Below.refl _ _).drew⟩
    | cons y o =>
      obtain ⟨b, off, rfl, hb, hcell⟩ := hc (by simp)
      obtain ⟨b', off', rfl, hb', hcell'⟩ := hc' (by simp)
      have c1 : w.cell? ⟨b, off, none⟩ = some (.string x) := hcell 0 x rfl
      have c2 : w.cell? ⟨b', off', none⟩ = some (.string y) := hcell' 0 y rfl
      have d1 : w.drew.cell? ⟨b, off, none⟩ = some (.string x) := c1
      have d2 : w.drew.cell? ⟨b', off', none⟩ = some (.string y) := c2
      have HS : Hid (sameFirstB (x :: l) (y :: o) = (x.toList == y.toList)) := rfl
      rw [HS.out]
      clear HS hc hc' hcell hcell'
      rw [List.length_cons] at hl ho ⊢
      rw [List.length_cons]
      generalize l.length = n at *
      generalize o.length = m at *
      generalize hr : (x.toList == y.toList) = r at *
      go_enter Tryd.func47, Tryd.ntmps47
      go_wp2_with fail
      go_region
      all_goals
        go_wp2_with fail
        go_ret
        exact ⟨rfl, (Below.refl _ _).drew⟩
end Go.Proofs.YtihkhcocfhbekaaDoor
