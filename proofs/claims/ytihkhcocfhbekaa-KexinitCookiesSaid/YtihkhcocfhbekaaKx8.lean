/- Layer 16: few. -/
import Derived.Test.YtihkhcocfhbekaaKx7a
namespace Go.Proofs.Ytihkhcocfhbekaa
open Go.RowKit

theorem few_boxes {w : World} {a0 a1 a2 a3 a4 a5 a6 a7 a8 a9 : Option Addr} {n0 c0 n1 c1 n2 c2 n3 c3 n4 c4 n5 c5 n6 c6 n7 c7 n8 c8 n9 c9 : Nat} {C : ByteArray} {p1 p2 p3 p4 p5 : Bool} : ∀ W, Below ((w.alloc (.cells #[.string C, .slice a0 n0 c0, .slice a1 n1 c1, .slice a2 n2 c2, .slice a3 n3 c3, .slice a4 n4 c4, .slice a5 n5 c5, .slice a6 n6 c6, .slice a7 n7 c7, .slice a8 n8 c8, .slice a9 n9 c9, .bool p1, .bool p2, .bool p3, .bool p4, .bool p5] 28)).alloc (.cells #[.slice a8 n8 c8, .slice a9 n9 c9, .slice none 0 0, .slice none 0 0, .slice none 0 0, .slice none 0 0, .slice none 0 0, .slice none 0 0] 25)).heap.size ((w.alloc (.cells #[.string C, .slice a0 n0 c0, .slice a1 n1 c1, .slice a2 n2 c2, .slice a3 n3 c3, .slice a4 n4 c4, .slice a5 n5 c5, .slice a6 n6 c6, .slice a7 n7 c7, .slice a8 n8 c8, .slice a9 n9 c9, .bool p1, .bool p2, .bool p3, .bool p4, .bool p5] 28)).alloc (.cells #[.slice a8 n8 c8, .slice a9 n9 c9, .slice none 0 0, .slice none 0 0, .slice none 0 0, .slice none 0 0, .slice none 0 0, .slice none 0 0] 25)) W → W.cell? ⟨w.heap.size, 0, none⟩ = some (.string C) ∧ W.cell? ⟨w.heap.size + 1, 0, none⟩ = some (.slice a8 n8 c8) ∧ W.cell? ⟨w.heap.size + 1, 1, none⟩ = some (.slice a9 n9 c9) ∧ W.cell? ⟨w.heap.size + 1, 2, none⟩ = some (.slice none 0 0) ∧ W.cell? ⟨w.heap.size + 1, 3, none⟩ = some (.slice none 0 0) ∧ W.cell? ⟨w.heap.size + 1, 4, none⟩ = some (.slice none 0 0) ∧ W.cell? ⟨w.heap.size + 1, 5, none⟩ = some (.slice none 0 0) ∧ W.cell? ⟨w.heap.size + 1, 6, none⟩ = some (.slice none 0 0) ∧ W.cell? ⟨w.heap.size + 1, 7, none⟩ = some (.slice none 0 0) := fun W hb => by
  have hn1 : (w.alloc (.cells #[.string C, .slice a0 n0 c0, .slice a1 n1 c1, .slice a2 n2 c2, .slice a3 n3 c3, .slice a4 n4 c4, .slice a5 n5 c5, .slice a6 n6 c6, .slice a7 n7 c7, .slice a8 n8 c8, .slice a9 n9 c9, .bool p1, .bool p2, .bool p3, .bool p4, .bool p5] 28)).heap.size = w.heap.size + 1 := World.size_alloc _ _
  have hn2 : ((w.alloc (.cells #[.string C, .slice a0 n0 c0, .slice a1 n1 c1, .slice a2 n2 c2, .slice a3 n3 c3, .slice a4 n4 c4, .slice a5 n5 c5, .slice a6 n6 c6, .slice a7 n7 c7, .slice a8 n8 c8, .slice a9 n9 c9, .bool p1, .bool p2, .bool p3, .bool p4, .bool p5] 28)).alloc (.cells #[.slice a8 n8 c8, .slice a9 n9 c9, .slice none 0 0, .slice none 0 0, .slice none 0 0, .slice none 0 0, .slice none 0 0, .slice none 0 0] 25)).heap.size = w.heap.size + 1 + 1 := by rw [World.size_alloc, hn1]
  have r0 : W.heap[w.heap.size]? = some (.cells #[.string C, .slice a0 n0 c0, .slice a1 n1 c1, .slice a2 n2 c2, .slice a3 n3 c3, .slice a4 n4 c4, .slice a5 n5 c5, .slice a6 n6 c6, .slice a7 n7 c7, .slice a8 n8 c8, .slice a9 n9 c9, .bool p1, .bool p2, .bool p3, .bool p4, .bool p5] 28 (0, 0)) := (hb.block _ (by omega)).trans ((((Below.refl _ (w.alloc (.cells #[.string C, .slice a0 n0 c0, .slice a1 n1 c1, .slice a2 n2 c2, .slice a3 n3 c3, .slice a4 n4 c4, .slice a5 n5 c5, .slice a6 n6 c6, .slice a7 n7 c7, .slice a8 n8 c8, .slice a9 n9 c9, .bool p1, .bool p2, .bool p3, .bool p4, .bool p5] 28))).alloc (Nat.le_refl _) (.cells #[.slice a8 n8 c8, .slice a9 n9 c9, .slice none 0 0, .slice none 0 0, .slice none 0 0, .slice none 0 0, .slice none 0 0, .slice none 0 0] 25)).block _ (by rw [hn1]; omega)).trans (heap_alloc_new w (.cells #[.string C, .slice a0 n0 c0, .slice a1 n1 c1, .slice a2 n2 c2, .slice a3 n3 c3, .slice a4 n4 c4, .slice a5 n5 c5, .slice a6 n6 c6, .slice a7 n7 c7, .slice a8 n8 c8, .slice a9 n9 c9, .bool p1, .bool p2, .bool p3, .bool p4, .bool p5] 28)))
  have r1 : W.heap[w.heap.size + 1]? = some (.cells #[.slice a8 n8 c8, .slice a9 n9 c9, .slice none 0 0, .slice none 0 0, .slice none 0 0, .slice none 0 0, .slice none 0 0, .slice none 0 0] 25 (0, 0)) := (hb.block _ (by omega)).trans (by
    have := heap_alloc_new (w.alloc (.cells #[.string C, .slice a0 n0 c0, .slice a1 n1 c1, .slice a2 n2 c2, .slice a3 n3 c3, .slice a4 n4 c4, .slice a5 n5 c5, .slice a6 n6 c6, .slice a7 n7 c7, .slice a8 n8 c8, .slice a9 n9 c9, .bool p1, .bool p2, .bool p3, .bool p4, .bool p5] 28)) (.cells #[.slice a8 n8 c8, .slice a9 n9 c9, .slice none 0 0, .slice none 0 0, .slice none 0 0, .slice none 0 0, .slice none 0 0, .slice none 0 0] 25)
    rwa [hn1] at this)
  refine ⟨?_, ?_, ?_, ?_, ?_, ?_, ?_, ?_, ?_⟩
  all_goals first | (rw [cell_of_row W _ _ _ _ _ r0]; rfl) | (rw [cell_of_row W _ _ _ _ _ r1]; rfl)

set_option maxHeartbeats 4000000 in
set_option maxRecDepth 100000 in
theorem few16_raw {w : World} {a0 a1 a2 a3 a4 a5 a6 a7 a8 a9 : Option Addr} {n0 c0 n1 c1 n2 c2 n3 c3 n4 c4 n5 c5 n6 c6 n7 c7 n8 c8 n9 c9 : Nat} {C : ByteArray} {p1 p2 p3 p4 p5 : Bool} (z1 z2 : Bool)
    (h1 : ∀ W, Below w.heap.size w W → Calls Try.prog 12 #[.agg #[.slice a0 n0 c0, .slice a1 n1 c1, .slice a2 n2 c2, .slice a3 n3 c3, .slice a4 n4 c4, .slice a5 n5 c5, .slice a6 n6 c6, .slice a7 n7 c7]] W fun e w' => e = .returned (.bool z1) ∧ Below W.heap.size W w')
    (h2 : ∀ W, Below w.heap.size w W → Calls Try.prog 12 #[.agg #[.slice a8 n8 c8, .slice a9 n9 c9, .slice none 0 0, .slice none 0 0, .slice none 0 0, .slice none 0 0, .slice none 0 0, .slice none 0 0]] W fun e w' => e = .returned (.bool z2) ∧ Below W.heap.size W w') :
    Calls Try.prog 6 #[.agg #[.string C, .slice a0 n0 c0, .slice a1 n1 c1, .slice a2 n2 c2, .slice a3 n3 c3, .slice a4 n4 c4, .slice a5 n5 c5, .slice a6 n6 c6, .slice a7 n7 c7, .slice a8 n8 c8, .slice a9 n9 c9, .bool p1, .bool p2, .bool p3, .bool p4, .bool p5]] w fun e w' => e = .returned (.bool (z1 && z2 && decide ((C.size : Int) ≤ 100))) ∧ Below w.heap.size w w' := by
  have H1 := Lib.hid h1
  have H2 := Lib.hid h2
  have HX := Lib.hid (few_boxes (w := w) (a0 := a0) (a1 := a1) (a2 := a2) (a3 := a3) (a4 := a4) (a5 := a5) (a6 := a6) (a7 := a7) (a8 := a8) (a9 := a9) (n0 := n0) (n1 := n1) (n2 := n2) (n3 := n3) (n4 := n4) (n5 := n5) (n6 := n6) (n7 := n7) (n8 := n8) (n9 := n9) (c0 := c0) (c1 := c1) (c2 := c2) (c3 := c3) (c4 := c4) (c5 := c5) (c6 := c6) (c7 := c7) (c8 := c8) (c9 := c9) (C := C) (p1 := p1) (p2 := p2) (p3 := p3) (p4 := p4) (p5 := p5))
  have HB0 : Hid (Below w.heap.size w ((w.alloc (.cells #[.string C, .slice a0 n0 c0, .slice a1 n1 c1, .slice a2 n2 c2, .slice a3 n3 c3, .slice a4 n4 c4, .slice a5 n5 c5, .slice a6 n6 c6, .slice a7 n7 c7, .slice a8 n8 c8, .slice a9 n9 c9, .bool p1, .bool p2, .bool p3, .bool p4, .bool p5] 28)).alloc (.cells #[.slice a8 n8 c8, .slice a9 n9 c9, .slice none 0 0, .slice none 0 0, .slice none 0 0, .slice none 0 0, .slice none 0 0, .slice none 0 0] 25))) := ((Below.refl _ _).alloc (Nat.le_refl _) _).alloc (by rw [World.size_alloc]; omega) _
  have HR : Hid (Below ((w.alloc (.cells #[.string C, .slice a0 n0 c0, .slice a1 n1 c1, .slice a2 n2 c2, .slice a3 n3 c3, .slice a4 n4 c4, .slice a5 n5 c5, .slice a6 n6 c6, .slice a7 n7 c7, .slice a8 n8 c8, .slice a9 n9 c9, .bool p1, .bool p2, .bool p3, .bool p4, .bool p5] 28)).alloc (.cells #[.slice a8 n8 c8, .slice a9 n9 c9, .slice none 0 0, .slice none 0 0, .slice none 0 0, .slice none 0 0, .slice none 0 0, .slice none 0 0] 25)).heap.size ((w.alloc (.cells #[.string C, .slice a0 n0 c0, .slice a1 n1 c1, .slice a2 n2 c2, .slice a3 n3 c3, .slice a4 n4 c4, .slice a5 n5 c5, .slice a6 n6 c6, .slice a7 n7 c7, .slice a8 n8 c8, .slice a9 n9 c9, .bool p1, .bool p2, .bool p3, .bool p4, .bool p5] 28)).alloc (.cells #[.slice a8 n8 c8, .slice a9 n9 c9, .slice none 0 0, .slice none 0 0, .slice none 0 0, .slice none 0 0, .slice none 0 0, .slice none 0 0] 25)) ((w.alloc (.cells #[.string C, .slice a0 n0 c0, .slice a1 n1 c1, .slice a2 n2 c2, .slice a3 n3 c3, .slice a4 n4 c4, .slice a5 n5 c5, .slice a6 n6 c6, .slice a7 n7 c7, .slice a8 n8 c8, .slice a9 n9 c9, .bool p1, .bool p2, .bool p3, .bool p4, .bool p5] 28)).alloc (.cells #[.slice a8 n8 c8, .slice a9 n9 c9, .slice none 0 0, .slice none 0 0, .slice none 0 0, .slice none 0 0, .slice none 0 0, .slice none 0 0] 25))) := Below.refl _ _
  clear h1 h2
  cases z1 with
  | false =>
    clear H2
    go_enter Try.func6, Try.ntmps6
    go_wp2_with (first
      | (go_at_call 12; (with_reducible refine (H1.out _ HB0.out).mono ?_); rintro e w2 ⟨rfl, gg⟩; have D1 := Lib.hid gg; clear gg))
    go_ret
    exact ⟨rfl, HB0.out.trans (D1.out.mono HB0.out.size)⟩
  | true =>
  cases z2 with
  | false =>
    go_enter Try.func6, Try.ntmps6
    go_wp2_with (first
      | (go_at_call 12; (with_reducible refine (H1.out _ HB0.out).mono ?_); rintro e w2 ⟨rfl, gg⟩; have D1 := Lib.hid gg; obtain ⟨f0, f1, f2, f3, f4, f5, f6, f7, f8⟩ := HX.out _ D1.out; clear gg)
      | (go_at_call 12; (with_reducible refine (H2.out _ (HB0.out.trans (D1.out.mono HB0.out.size))).mono ?_); rintro e w3 ⟨rfl, gg⟩; have D2 := Lib.hid (D1.out.trans (gg.mono D1.out.size)); clear gg))
    go_ret
    exact ⟨rfl, HB0.out.trans (D2.out.mono HB0.out.size)⟩
  | true =>
    go_enter Try.func6, Try.ntmps6
    go_wp2_with (first
      | (go_at_call 12; (with_reducible refine (H1.out _ HB0.out).mono ?_); rintro e w2 ⟨rfl, gg⟩; have D1 := Lib.hid gg; obtain ⟨f0, f1, f2, f3, f4, f5, f6, f7, f8⟩ := HX.out _ D1.out; clear gg)
      | (go_at_call 12; (with_reducible refine (H2.out _ (HB0.out.trans (D1.out.mono HB0.out.size))).mono ?_); rintro e w3 ⟨rfl, gg⟩; have D2 := Lib.hid (D1.out.trans (gg.mono D1.out.size)); have k0 := (HX.out _ D2.out).1; clear gg))
    go_ret
    exact ⟨by simp, HB0.out.trans (D2.out.mono HB0.out.size)⟩
end Go.Proofs.Ytihkhcocfhbekaa
