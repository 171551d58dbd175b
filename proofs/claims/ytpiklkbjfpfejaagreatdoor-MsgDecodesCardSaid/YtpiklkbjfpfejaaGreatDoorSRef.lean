/- The document's table as the reference builds it. -/
import Derived.Test.YtpiklkbjfpfejaaGreatDoorFit
namespace Go.Proofs.YtpiklkbjfpfejaaGreatDoor
open Go.RowKit

abbrev RowT := Int × ByteArray × List ByteArray
def rowsFrom (b : Nat) : List RowT → List Value
  | [] => []
  | r :: l => .int .i64 r.1 :: .string r.2.1 :: .slice (some ⟨b, 0, none⟩) r.2.2.length r.2.2.length :: rowsFrom (b + 1) l
def textObjs : List Obj := tableP.map fun r => .cells (r.2.2.map .string).toArray 9
def tabWorld (w : World) : World := (textObjs.foldl World.alloc w).alloc (.cells (rowsFrom w.heap.size tableP).toArray 58)

/-- A block holds the rows. -/
def RowsAt (B : Nat) (w : World) (b : Nat) (l : List RowT) : Prop :=
  b < w.heap.size ∧ B ≤ b ∧ ∀ k r, l[k]? = some r → w.cell? ⟨b, k * 3, none⟩ = some (.int .i64 r.1) ∧ w.cell? ⟨b, k * 3 + 1, none⟩ = some (.string r.2.1) ∧ ∃ c, B ≤ c ∧ w.cell? ⟨b, k * 3 + 2, none⟩ = some (.slice (some ⟨c, 0, none⟩) r.2.2.length r.2.2.length) ∧ TextsAt w (.slice (some ⟨c, 0, none⟩) r.2.2.length r.2.2.length) r.2.2
theorem RowsAt.below {B : Nat} {w w' : World} {b : Nat} {l : List RowT} (h : RowsAt B w b l) (hb : Below w.heap.size w w') : RowsAt B w' b l := by
  obtain ⟨h1, h0, h2⟩ := h
  refine ⟨Nat.lt_of_lt_of_le h1 hb.size, h0, fun k r hr => ?_⟩
  obtain ⟨a, b', v, q, c, d⟩ := h2 k r hr
  exact ⟨(hb.cell (p := ⟨b, k * 3, none⟩) h1).trans a, (hb.cell (p := ⟨b, k * 3 + 1, none⟩) h1).trans b', v, q, (hb.cell (p := ⟨b, k * 3 + 2, none⟩) h1).trans c, d.below hb⟩
theorem rowsFrom_at : ∀ (l : List RowT) (b k : Nat) (r : RowT), l[k]? = some r → (rowsFrom b l)[k * 3]? = some (.int .i64 r.1) ∧ (rowsFrom b l)[k * 3 + 1]? = some (.string r.2.1) ∧ (rowsFrom b l)[k * 3 + 2]? = some (.slice (some ⟨b + k, 0, none⟩) r.2.2.length r.2.2.length)
  | [], _, k, r, h => by simp at h
  | x :: l, b, 0, r, h => by
    simp at h
    subst h
    exact ⟨rfl, rfl, rfl⟩
  | x :: l, b, k + 1, r, h => by
    have ih := rowsFrom_at l (b + 1) k r (by simpa using h)
    rw [show (k + 1) * 3 = k * 3 + 1 + 1 + 1 by omega]
    simp only [rowsFrom, List.getElem?_cons_succ]
    rw [show b + (k + 1) = b + 1 + k by omega]
    exact ih
theorem allocs_size (os : List Obj) : ∀ w : World, (os.foldl World.alloc w).heap.size = w.heap.size + os.length := by
  induction os with
  | nil => intro w; rfl
  | cons o os ih =>
    intro w
    rw [List.foldl_cons, ih]
    simp; omega
theorem allocs_below (os : List Obj) : ∀ w : World, Below w.heap.size w (os.foldl World.alloc w) := by
  induction os with
  | nil => intro w; exact Below.refl _ _
  | cons o os ih =>
    intro w
    rw [List.foldl_cons]
    exact ((Below.refl _ _).alloc (Nat.le_refl _) _).trans ((ih _).mono (by simp))
theorem allocs_at : ∀ (os : List Obj) (w : World) (i : Nat) (o : Obj), os[i]? = some o → (os.foldl World.alloc w).heap[w.heap.size + i]? = some o
  | [], _, i, o, h => by simp at h
  | x :: os, w, 0, o, h => by
    simp at h
    subst h
    rw [List.foldl_cons]
    rw [(allocs_below os (w.alloc x)).block _ (by simp)]
    exact heap_alloc_new w x
  | x :: os, w, i + 1, o, h => by
    rw [List.foldl_cons]
    have := allocs_at os (w.alloc x) i o (by simpa using h)
    rw [World.size_alloc] at this
    rw [show w.heap.size + (i + 1) = w.heap.size + 1 + i by omega]
    exact this
theorem texts_ofBlock {w : World} {b : Nat} {t : TypeId} {l : List ByteArray} (h : w.heap[b]? = some (.cells (l.map Value.string).toArray t)) : TextsAt w (.slice (some ⟨b, 0, none⟩) l.length l.length) l :=
  ⟨_, _, rfl, fun _ => ⟨b, 0, rfl, (Array.getElem?_eq_some_iff.1 h).1, fun k x hk => by
    rw [cell_of_row w b (0 + k) _ t (0, 0) h]
    simp [hk]⟩⟩
theorem rowsAt_tab (w : World) : RowsAt w.heap.size (tabWorld w) (w.heap.size + 19) tableP := by
  have hsz : (textObjs.foldl World.alloc w).heap.size = w.heap.size + 19 := by rw [allocs_size]; rfl
  have hb : Below (textObjs.foldl World.alloc w).heap.size (textObjs.foldl World.alloc w) (tabWorld w) := (Below.refl _ _).alloc (Nat.le_refl _) _
  have hn : (tabWorld w).heap[w.heap.size + 19]? = some (.cells (rowsFrom w.heap.size tableP).toArray 58) := by
    rw [← hsz]; exact heap_alloc_new _ _
  refine ⟨by rw [← hsz]; unfold tabWorld; simp, by omega, fun k r hr => ?_⟩
  have hk : k < 19 := (List.getElem?_eq_some_iff.1 hr).1
  have h := rowsFrom_at tableP w.heap.size k r hr
  refine ⟨?_, ?_, w.heap.size + k, by omega, ?_, texts_ofBlock (b := w.heap.size + k) (t := 9) ?_⟩
  · rw [cell_of_row _ _ _ _ _ (0, 0) hn]; simpa using h.1
  · rw [cell_of_row _ _ _ _ _ (0, 0) hn]; simpa using h.2.1
  · rw [cell_of_row _ _ _ _ _ (0, 0) hn]; simpa using h.2.2
  · rw [hb.block _ (by omega)]
    exact allocs_at textObjs w k _ (by unfold textObjs; rw [List.getElem?_map, hr]; rfl)
theorem below_tab (w : World) : Below w.heap.size w (tabWorld w) := (allocs_below textObjs w).alloc (by rw [allocs_size]; omega) _

set_option maxHeartbeats 4000000 in
set_option maxRecDepth 100000 in
theorem table_raw (w : World) : Calls Tryz.prog 39 #[] w fun e w1 => e = .returned (.slice (some ⟨w.heap.size + 1 + 1 + 1 + 1 + 1 + 1 + 1 + 1 + 1 + 1 + 1 + 1 + 1 + 1 + 1 + 1 + 1 + 1 + 1, 0, none⟩) 19 19) ∧ w1 = tabWorld w := by
  go_enter Tryz.func39, Tryz.ntmps39
  go_wp2_with fail
  go_ret
  exact ⟨rfl, by kernel_rfl⟩
theorem table_any (w : World) : Calls Tryz.prog 39 #[] w fun e w' => ∃ b, e = .returned (.slice (some ⟨b, 0, none⟩) 19 19) ∧ RowsAt w.heap.size w' b tableP ∧ Below w.heap.size w w' :=
  (table_raw w).mono fun e w' ⟨he, hw⟩ => ⟨w.heap.size + 19, he, by rw [hw]; exact rowsAt_tab w, by rw [hw]; exact below_tab w⟩
end Go.Proofs.YtpiklkbjfpfejaaGreatDoor
