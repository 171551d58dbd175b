/- Part 25 of what the statement wants. -/
import Derived.Test.YtgoinpibllomfaaDoorPk24
namespace Go.Proofs.YtgoinpibllomfaaDoor
open Go.RowKit

set_option maxHeartbeats 4000000 in
set_option maxRecDepth 100000 in
theorem same16_raw {w : World} {a0 b0 a1 b1 a2 b2 a3 b3 a4 b4 a5 b5 a6 b6 a7 b7 a8 b8 a9 b9 : Option Addr} {n0 c0 m0 d0 n1 c1 m1 d1 n2 c2 m2 d2 n3 c3 m3 d3 n4 c4 m4 d4 n5 c5 m5 d5 n6 c6 m6 d6 n7 c7 m7 d7 n8 c8 m8 d8 n9 c9 m9 d9 : Nat} {C D : ByteArray} {p1 p2 p3 p4 p5 q1 q2 q3 q4 q5 : Bool} (bC bP bG bH : Bool) (hC : (C.toList == D.toList) = bC)
    (hP : ∀ W, Below w.heap.size w W → Calls Tryd.prog 38 #[.agg #[.slice a0 n0 c0, .slice a1 n1 c1, .slice a2 n2 c2, .slice a3 n3 c3, .slice a4 n4 c4, .slice a5 n5 c5, .slice a6 n6 c6, .slice a7 n7 c7], .agg #[.slice b0 m0 d0, .slice b1 m1 d1, .slice b2 m2 d2, .slice b3 m3 d3, .slice b4 m4 d4, .slice b5 m5 d5, .slice b6 m6 d6, .slice b7 m7 d7]] W fun e w' => e = .returned (.bool bP) ∧ Below W.heap.size W w')
    (hG : ∀ W, Below w.heap.size w W → Calls Tryd.prog 15 #[.slice a8 n8 c8, .slice b8 m8 d8] W fun e w' => e = .returned (.bool bG) ∧ Below W.heap.size W w')
    (hH : ∀ W, Below w.heap.size w W → Calls Tryd.prog 15 #[.slice a9 n9 c9, .slice b9 m9 d9] W fun e w' => e = .returned (.bool bH) ∧ Below W.heap.size W w') :
    Calls Tryd.prog 20 #[.agg #[.string C, .slice a0 n0 c0, .slice a1 n1 c1, .slice a2 n2 c2, .slice a3 n3 c3, .slice a4 n4 c4, .slice a5 n5 c5, .slice a6 n6 c6, .slice a7 n7 c7, .slice a8 n8 c8, .slice a9 n9 c9, .bool p1, .bool p2, .bool p3, .bool p4, .bool p5], .agg #[.string D, .slice b0 m0 d0, .slice b1 m1 d1, .slice b2 m2 d2, .slice b3 m3 d3, .slice b4 m4 d4, .slice b5 m5 d5, .slice b6 m6 d6, .slice b7 m7 d7, .slice b8 m8 d8, .slice b9 m9 d9, .bool q1, .bool q2, .bool q3, .bool q4, .bool q5]] w fun e w' => e = .returned (.bool (bC && bP && bG && bH && (p1 == q1) && (p2 == q2) && (p3 == q3) && (p4 == q4) && (p5 == q5))) ∧ Below w.heap.size w w' := by
  have HP := Lib.hid hP
  have HG := Lib.hid hG
  have HH := Lib.hid hH
  have HX := Lib.hid (kx_boxes (w := w) (C := C) (D := D) (a0 := a0) (a1 := a1) (a2 := a2) (a3 := a3) (a4 := a4) (a5 := a5) (a6 := a6) (a7 := a7) (a8 := a8) (a9 := a9) (b0 := b0) (b1 := b1) (b2 := b2) (b3 := b3) (b4 := b4) (b5 := b5) (b6 := b6) (b7 := b7) (b8 := b8) (b9 := b9) (n0 := n0) (n1 := n1) (n2 := n2) (n3 := n3) (n4 := n4) (n5 := n5) (n6 := n6) (n7 := n7) (n8 := n8) (n9 := n9) (c0 := c0) (c1 := c1) (c2 := c2) (c3 := c3) (c4 := c4) (c5 := c5) (c6 := c6) (c7 := c7) (c8 := c8) (c9 := c9) (m0 := m0) (m1 := m1) (m2 := m2) (m3 := m3) (m4 := m4) (m5 := m5) (m6 := m6) (m7 := m7) (m8 := m8) (m9 := m9) (d0 := d0) (d1 := d1) (d2 := d2) (d3 := d3) (d4 := d4) (d5 := d5) (d6 := d6) (d7 := d7) (d8 := d8) (d9 := d9) (p1 := p1) (p2 := p2) (p3 := p3) (p4 := p4) (p5 := p5) (q1 := q1) (q2 := q2) (q3 := q3) (q4 := q4) (q5 := q5))
  have HB0 : Hid (Below w.heap.size w ((w.alloc (.cells #[.string C, .slice a0 n0 c0, .slice a1 n1 c1, .slice a2 n2 c2, .slice a3 n3 c3, .slice a4 n4 c4, .slice a5 n5 c5, .slice a6 n6 c6, .slice a7 n7 c7, .slice a8 n8 c8, .slice a9 n9 c9, .bool p1, .bool p2, .bool p3, .bool p4, .bool p5] 56)).alloc (.cells #[.string D, .slice b0 m0 d0, .slice b1 m1 d1, .slice b2 m2 d2, .slice b3 m3 d3, .slice b4 m4 d4, .slice b5 m5 d5, .slice b6 m6 d6, .slice b7 m7 d7, .slice b8 m8 d8, .slice b9 m9 d9, .bool q1, .bool q2, .bool q3, .bool q4, .bool q5] 56))) := ((Below.refl _ _).alloc (Nat.le_refl _) _).alloc (by rw [World.size_alloc]; omega) _
  have HR : Hid (Below ((w.alloc (.cells #[.string C, .slice a0 n0 c0, .slice a1 n1 c1, .slice a2 n2 c2, .slice a3 n3 c3, .slice a4 n4 c4, .slice a5 n5 c5, .slice a6 n6 c6, .slice a7 n7 c7, .slice a8 n8 c8, .slice a9 n9 c9, .bool p1, .bool p2, .bool p3, .bool p4, .bool p5] 56)).alloc (.cells #[.string D, .slice b0 m0 d0, .slice b1 m1 d1, .slice b2 m2 d2, .slice b3 m3 d3, .slice b4 m4 d4, .slice b5 m5 d5, .slice b6 m6 d6, .slice b7 m7 d7, .slice b8 m8 d8, .slice b9 m9 d9, .bool q1, .bool q2, .bool q3, .bool q4, .bool q5] 56)).heap.size ((w.alloc (.cells #[.string C, .slice a0 n0 c0, .slice a1 n1 c1, .slice a2 n2 c2, .slice a3 n3 c3, .slice a4 n4 c4, .slice a5 n5 c5, .slice a6 n6 c6, .slice a7 n7 c7, .slice a8 n8 c8, .slice a9 n9 c9, .bool p1, .bool p2, .bool p3, .bool p4, .bool p5] 56)).alloc (.cells #[.string D, .slice b0 m0 d0, .slice b1 m1 d1, .slice b2 m2 d2, .slice b3 m3 d3, .slice b4 m4 d4, .slice b5 m5 d5, .slice b6 m6 d6, .slice b7 m7 d7, .slice b8 m8 d8, .slice b9 m9 d9, .bool q1, .bool q2, .bool q3, .bool q4, .bool q5] 56)) ((w.alloc (.cells #[.string C, .slice a0 n0 c0, .slice a1 n1 c1, .slice a2 n2 c2, .slice a3 n3 c3, .slice a4 n4 c4, .slice a5 n5 c5, .slice a6 n6 c6, .slice a7 n7 c7, .slice a8 n8 c8, .slice a9 n9 c9, .bool p1, .bool p2, .bool p3, .bool p4, .bool p5] 56)).alloc (.cells #[.string D, .slice b0 m0 d0, .slice b1 m1 d1, .slice b2 m2 d2, .slice b3 m3 d3, .slice b4 m4 d4, .slice b5 m5 d5, .slice b6 m6 d6, .slice b7 m7 d7, .slice b8 m8 d8, .slice b9 m9 d9, .bool q1, .bool q2, .bool q3, .bool q4, .bool q5] 56))) := Below.refl _ _
  clear hP hG hH
  obtain ⟨e1, he1⟩ : ∃ e1, (p1 == q1) = e1 := ⟨_, rfl⟩
  obtain ⟨e2, he2⟩ : ∃ e2, (p2 == q2) = e2 := ⟨_, rfl⟩
  obtain ⟨e3, he3⟩ : ∃ e3, (p3 == q3) = e3 := ⟨_, rfl⟩
  obtain ⟨e4, he4⟩ : ∃ e4, (p4 == q4) = e4 := ⟨_, rfl⟩
  obtain ⟨e5, he5⟩ : ∃ e5, (p5 == q5) = e5 := ⟨_, rfl⟩
  rw [he1, he2, he3, he4, he5]
  cases bC with
  | false =>
    go_enter Tryd.func20, Tryd.ntmps20
    go_wp2_with fail
    go_ret
    exact ⟨by simp, HB0.out.trans (HR.out.mono HB0.out.size)⟩
  | true =>
  cases e1 with
  | false =>
    go_enter Tryd.func20, Tryd.ntmps20
    go_wp2_with fail
    go_ret
    exact ⟨by simp, HB0.out.trans (HR.out.mono HB0.out.size)⟩
  | true =>
  cases e2 with
  | false =>
    go_enter Tryd.func20, Tryd.ntmps20
    go_wp2_with fail
    go_ret
    exact ⟨by simp, HB0.out.trans (HR.out.mono HB0.out.size)⟩
  | true =>
  cases e3 with
  | false =>
    go_enter Tryd.func20, Tryd.ntmps20
    go_wp2_with fail
    go_ret
    exact ⟨by simp, HB0.out.trans (HR.out.mono HB0.out.size)⟩
  | true =>
  cases e4 with
  | false =>
    go_enter Tryd.func20, Tryd.ntmps20
    go_wp2_with fail
    go_ret
    exact ⟨by simp, HB0.out.trans (HR.out.mono HB0.out.size)⟩
  | true =>
  cases e5 with
  | false =>
    go_enter Tryd.func20, Tryd.ntmps20
    go_wp2_with fail
    go_ret
    exact ⟨by simp, HB0.out.trans (HR.out.mono HB0.out.size)⟩
  | true =>
  cases bP with
  | false =>
    go_enter Tryd.func20, Tryd.ntmps20
    go_wp2_with (first
      | (go_at_call 38; (with_reducible refine (HP.out _ (HB0.out.trans (HR.out.mono HB0.out.size))).mono ?_); rintro e w2 ⟨rfl, gg⟩; have D0 := Lib.hid (HR.out.trans (gg.mono HR.out.size)); obtain ⟨f0, f1, f2, f3, f4, f5, f6, f7, f8, f9, f10, f11, f12, f13⟩ := HX.out _ D0.out; clear gg))
    go_ret
    exact ⟨by simp, HB0.out.trans (D0.out.mono HB0.out.size)⟩
  | true =>
  cases bG with
  | false =>
    go_enter Tryd.func20, Tryd.ntmps20
    go_wp2_with (first
      | (go_at_call 38; (with_reducible refine (HP.out _ (HB0.out.trans (HR.out.mono HB0.out.size))).mono ?_); rintro e w2 ⟨rfl, gg⟩; have D0 := Lib.hid (HR.out.trans (gg.mono HR.out.size)); obtain ⟨f0, f1, f2, f3, f4, f5, f6, f7, f8, f9, f10, f11, f12, f13⟩ := HX.out _ D0.out; clear gg)
      | (go_at_call 15; (with_reducible refine (HG.out _ (HB0.out.trans (D0.out.mono HB0.out.size))).mono ?_); rintro e w3 ⟨rfl, gg⟩; have D1 := Lib.hid (D0.out.trans (gg.mono D0.out.size)); obtain ⟨g0, g1, g2, g3, g4, g5, g6, g7, g8, g9, g10, g11, g12, g13⟩ := HX.out _ D1.out; clear gg))
    go_ret
    exact ⟨by simp, HB0.out.trans (D1.out.mono HB0.out.size)⟩
  | true =>
  cases bH with
  | false =>
    go_enter Tryd.func20, Tryd.ntmps20
    go_wp2_with (first
      | (go_at_call 38; (with_reducible refine (HP.out _ (HB0.out.trans (HR.out.mono HB0.out.size))).mono ?_); rintro e w2 ⟨rfl, gg⟩; have D0 := Lib.hid (HR.out.trans (gg.mono HR.out.size)); obtain ⟨f0, f1, f2, f3, f4, f5, f6, f7, f8, f9, f10, f11, f12, f13⟩ := HX.out _ D0.out; clear gg)
      | (go_at_call 15; (with_reducible refine (HG.out _ (HB0.out.trans (D0.out.mono HB0.out.size))).mono ?_); rintro e w3 ⟨rfl, gg⟩; have D1 := Lib.hid (D0.out.trans (gg.mono D0.out.size)); obtain ⟨g0, g1, g2, g3, g4, g5, g6, g7, g8, g9, g10, g11, g12, g13⟩ := HX.out _ D1.out; clear gg)
      | (go_at_call 15; (with_reducible refine (HH.out _ (HB0.out.trans (D1.out.mono HB0.out.size))).mono ?_); rintro e w4 ⟨rfl, gg⟩; have D2 := Lib.hid (D1.out.trans (gg.mono D1.out.size)); obtain ⟨h0, h1, h2, h3, h4, h5, h6, h7, h8, h9, h10, h11, h12, h13⟩ := HX.out _ D2.out; clear gg))
    go_ret
    exact ⟨by simp, HB0.out.trans (D2.out.mono HB0.out.size)⟩
  | true =>
  go_enter Tryd.func20, Tryd.ntmps20
  go_wp2_with (first
    | (go_at_call 38; (with_reducible refine (HP.out _ (HB0.out.trans (HR.out.mono HB0.out.size))).mono ?_); rintro e w2 ⟨rfl, gg⟩; have D0 := Lib.hid (HR.out.trans (gg.mono HR.out.size)); obtain ⟨f0, f1, f2, f3, f4, f5, f6, f7, f8, f9, f10, f11, f12, f13⟩ := HX.out _ D0.out; clear gg)
    | (go_at_call 15; (with_reducible refine (HG.out _ (HB0.out.trans (D0.out.mono HB0.out.size))).mono ?_); rintro e w3 ⟨rfl, gg⟩; have D1 := Lib.hid (D0.out.trans (gg.mono D0.out.size)); obtain ⟨g0, g1, g2, g3, g4, g5, g6, g7, g8, g9, g10, g11, g12, g13⟩ := HX.out _ D1.out; clear gg)
    | (go_at_call 15; (with_reducible refine (HH.out _ (HB0.out.trans (D1.out.mono HB0.out.size))).mono ?_); rintro e w4 ⟨rfl, gg⟩; have D2 := Lib.hid (D1.out.trans (gg.mono D1.out.size)); obtain ⟨h0, h1, h2, h3, h4, h5, h6, h7, h8, h9, h10, h11, h12, h13⟩ := HX.out _ D2.out; clear gg))
  go_ret
  exact ⟨by simp, HB0.out.trans (D2.out.mono HB0.out.size)⟩
end Go.Proofs.YtgoinpibllomfaaDoor
