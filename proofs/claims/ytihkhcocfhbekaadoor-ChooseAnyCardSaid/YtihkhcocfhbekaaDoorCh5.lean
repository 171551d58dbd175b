/- Layer 17: the document's Of. -/
import Derived.Test.YtihkhcocfhbekaaDoorCh1
import Derived.Deep.RegionHeld3
namespace Go.Proofs.YtihkhcocfhbekaaDoor
open Go.RowKit

set_option maxHeartbeats 4000000 in
set_option maxRecDepth 100000 in
theorem r17Of_any {w : World} {x : Value} {f : Nat → ByteArray} (h : TextsAt w x (list8S f)) : Calls Tryd.prog 19 #[x] w fun e w' => e = .returned (agg8S f) ∧ Below w.heap.size w w' := by
  obtain ⟨ao, cap, rfl, hc⟩ := h
  obtain ⟨b, off, rfl, hb, hcell⟩ := hc (by simp [list8S])
  have c0 : w.cell? ⟨b, off, none⟩ = some (.string (f 0)) := hcell 0 _ rfl
  have c1 : w.cell? ⟨b, off + 1, none⟩ = some (.string (f 1)) := hcell 1 _ rfl
  have c2 : w.cell? ⟨b, off + 2, none⟩ = some (.string (f 2)) := hcell 2 _ rfl
  have c3 : w.cell? ⟨b, off + 3, none⟩ = some (.string (f 3)) := hcell 3 _ rfl
  have c4 : w.cell? ⟨b, off + 4, none⟩ = some (.string (f 4)) := hcell 4 _ rfl
  have c5 : w.cell? ⟨b, off + 5, none⟩ = some (.string (f 5)) := hcell 5 _ rfl
  have c6 : w.cell? ⟨b, off + 6, none⟩ = some (.string (f 6)) := hcell 6 _ rfl
  have c7 : w.cell? ⟨b, off + 7, none⟩ = some (.string (f 7)) := hcell 7 _ rfl
  have hE : agg8S f = .agg #[.string (f 0), .string (f 1), .string (f 2), .string (f 3), .string (f 4), .string (f 5), .string (f 6), .string (f 7)] := rfl
  have hl : (list8S f).length = 8 := rfl
  rw [hl, hE]
  clear hc hcell hE hl
  generalize f 0 = f0 at *
  generalize f 1 = f1 at *
  generalize f 2 = f2 at *
  generalize f 3 = f3 at *
  generalize f 4 = f4 at *
  generalize f 5 = f5 at *
  generalize f 6 = f6 at *
  generalize f 7 = f7 at *
  have hB1 : Below w.heap.size w (w.alloc (.cells #[.string ⟨#[]⟩, .string ⟨#[]⟩, .string ⟨#[]⟩, .string ⟨#[]⟩, .string ⟨#[]⟩, .string ⟨#[]⟩, .string ⟨#[]⟩, .string ⟨#[]⟩] 28)).drew := ((Below.refl _ _).alloc (Nat.le_refl _) _).drew
  have hB2 : Below w.heap.size w (w.alloc (.cells #[.string f0, .string f1, .string f2, .string f3, .string f4, .string f5, .string f6, .string f7] 28)).drew := ((Below.refl _ _).alloc (Nat.le_refl _) _).drew
  have HK : ∀ W, Below w.heap.size w W → W.cell? ⟨b, off, none⟩ = some (.string f0) ∧ W.cell? ⟨b, off + 1, none⟩ = some (.string f1) ∧ W.cell? ⟨b, off + 2, none⟩ = some (.string f2) ∧ W.cell? ⟨b, off + 3, none⟩ = some (.string f3) ∧ W.cell? ⟨b, off + 4, none⟩ = some (.string f4) ∧ W.cell? ⟨b, off + 5, none⟩ = some (.string f5) ∧ W.cell? ⟨b, off + 6, none⟩ = some (.string f6) ∧ W.cell? ⟨b, off + 7, none⟩ = some (.string f7) := fun W hB => ⟨(hB.cell (p := ⟨b, off, none⟩) hb).trans c0, (hB.cell (p := ⟨b, off + 1, none⟩) hb).trans c1, (hB.cell (p := ⟨b, off + 2, none⟩) hb).trans c2, (hB.cell (p := ⟨b, off + 3, none⟩) hb).trans c3, (hB.cell (p := ⟨b, off + 4, none⟩) hb).trans c4, (hB.cell (p := ⟨b, off + 5, none⟩) hb).trans c5, (hB.cell (p := ⟨b, off + 6, none⟩) hb).trans c6, (hB.cell (p := ⟨b, off + 7, none⟩) hb).trans c7⟩
  have hx0 := HK _ hB1
  have hx1 := HK _ hB2
  have HR : Hid ((w.alloc (.cells #[.string f0, .string f1, .string f2, .string f3, .string f4, .string f5, .string f6, .string f7] 28)).drew.heap[w.heap.size]? = some (.cells #[.string f0, .string f1, .string f2, .string f3, .string f4, .string f5, .string f6, .string f7] 28 (0, 0))) := heap_alloc_new w _
  have HB := Lib.hid hB2
  clear hB1 hB2 HK c0 c1 c2 c3 c4 c5 c6 c7
  go_enter Tryd.func19, Tryd.ntmps19
  go_wp2_with fail
  go_region_held3 (fun w' => w'.cell? ⟨b, off, none⟩ = some (.string f0) ∧ w'.cell? ⟨b, off + 1, none⟩ = some (.string f1) ∧ w'.cell? ⟨b, off + 2, none⟩ = some (.string f2) ∧ w'.cell? ⟨b, off + 3, none⟩ = some (.string f3) ∧ w'.cell? ⟨b, off + 4, none⟩ = some (.string f4) ∧ w'.cell? ⟨b, off + 5, none⟩ = some (.string f5) ∧ w'.cell? ⟨b, off + 6, none⟩ = some (.string f6) ∧ w'.cell? ⟨b, off + 7, none⟩ = some (.string f7))
    (first | with_reducible exact hx0 | with_reducible exact hx1 | go_keep)
    (fail)
  all_goals
    go_wp2_with fail
    exact bodyPost_ret (results_cell_row rfl _ _ w.heap.size _ _ (0, 0) _ rfl HR.out Tryd.underlying28 rfl (by kernel_rfl)) rfl ⟨rfl, HB.out⟩
end Go.Proofs.YtihkhcocfhbekaaDoor
