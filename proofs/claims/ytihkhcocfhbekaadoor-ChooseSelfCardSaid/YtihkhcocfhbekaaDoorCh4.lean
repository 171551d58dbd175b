/- Layer 17: Can, Guess; the document's Guess, Of. -/
import Derived.Test.YtihkhcocfhbekaaDoorCh3
import Derived.Deep.RegionHeld3
namespace Go.Proofs.YtihkhcocfhbekaaDoor
open Go.RowKit

def guessB (p q : Nat → List (List UInt8)) : Bool := sameFirstB ((p 0).map bs) ((q 0).map bs) && sameFirstB ((p 1).map bs) ((q 1).map bs)

set_option maxHeartbeats 4000000 in
set_option maxRecDepth 100000 in
theorem chCan_any {w : World} {u v : Nat → Value} {p q : Nat → List (List UInt8)} (hT : Tab15 w) (h : ∀ k < 8, TextsAt w (u k) ((p k).map bs)) (h' : ∀ k < 8, TextsAt w (v k) ((q k).map bs)) (hl : ∀ k < 8, (p k).length ≤ 1000) (hl' : ∀ k < 8, (q k).length ≤ 1000) (hs : ∀ k < 8, ∀ x ∈ p k, x.length ≤ 1000) (hs' : ∀ k < 8, ∀ x ∈ q k, x.length ≤ 1000) :
    Calls Tryd.prog 14 #[agg8 u, agg8 v] w fun e w' => e = .returned (.bool (decide (badAt (fun k => (chAt p q k).2) = 8))) ∧ Below w.heap.size w w' := by
  have hu := texts_sl h
  have hv := texts_sl h'
  obtain ⟨a0, n0, c0, e0⟩ := hu 0 (by omega)
  obtain ⟨a1, n1, c1, e1⟩ := hu 1 (by omega)
  obtain ⟨a2, n2, c2, e2⟩ := hu 2 (by omega)
  obtain ⟨a3, n3, c3, e3⟩ := hu 3 (by omega)
  obtain ⟨a4, n4, c4, e4⟩ := hu 4 (by omega)
  obtain ⟨a5, n5, c5, e5⟩ := hu 5 (by omega)
  obtain ⟨a6, n6, c6, e6⟩ := hu 6 (by omega)
  obtain ⟨a7, n7, c7, e7⟩ := hu 7 (by omega)
  obtain ⟨b0, m0, d0, f0⟩ := hv 0 (by omega)
  obtain ⟨b1, m1, d1, f1⟩ := hv 1 (by omega)
  obtain ⟨b2, m2, d2, f2⟩ := hv 2 (by omega)
  obtain ⟨b3, m3, d3, f3⟩ := hv 3 (by omega)
  obtain ⟨b4, m4, d4, f4⟩ := hv 4 (by omega)
  obtain ⟨b5, m5, d5, f5⟩ := hv 5 (by omega)
  obtain ⟨b6, m6, d6, f6⟩ := hv 6 (by omega)
  obtain ⟨b7, m7, d7, f7⟩ := hv 7 (by omega)
  have hU : agg8 u = .agg #[.slice a0 n0 c0, .slice a1 n1 c1, .slice a2 n2 c2, .slice a3 n3 c3, .slice a4 n4 c4, .slice a5 n5 c5, .slice a6 n6 c6, .slice a7 n7 c7] := by unfold agg8; rw [e0, e1, e2, e3, e4, e5, e6, e7]
  have hV : agg8 v = .agg #[.slice b0 m0 d0, .slice b1 m1 d1, .slice b2 m2 d2, .slice b3 m3 d3, .slice b4 m4 d4, .slice b5 m5 d5, .slice b6 m6 d6, .slice b7 m7 d7] := by unfold agg8; rw [f0, f1, f2, f3, f4, f5, f6, f7]
  have hle : badAt (fun k => (chAt p q k).2) ≤ 8 := badAt_le _
  have HCh : Hid (∀ W, Below w.heap.size w W → Calls Tryd.prog 12 #[.agg #[.slice a0 n0 c0, .slice a1 n1 c1, .slice a2 n2 c2, .slice a3 n3 c3, .slice a4 n4 c4, .slice a5 n5 c5, .slice a6 n6 c6, .slice a7 n7 c7], .agg #[.slice b0 m0 d0, .slice b1 m1 d1, .slice b2 m2 d2, .slice b3 m3 d3, .slice b4 m4 d4, .slice b5 m5 d5, .slice b6 m6 d6, .slice b7 m7 d7]] W fun e w' => (badAt (fun k => (chAt p q k).2) = 8 → e = .returned (.tuple #[agg8S fun k => (chAt p q k).1, .nilIface])) ∧ (badAt (fun k => (chAt p q k).2) < 8 → ∃ t x, e = .returned (.tuple #[agg8S fun _ => ⟨#[]⟩, .iface t x])) ∧ Below W.heap.size W w') := fun W hb => by
    rw [← hU, ← hV]
    exact (chChoose_any (hT.below hb) (fun k hk => (h k hk).below hb) (fun k hk => (h' k hk).below hb) hl hl' hs hs').mono fun e w' ⟨h1, h2, h3⟩ => ⟨h1, fun hh => by obtain ⟨t, x, h4, _⟩ := h2 hh; exact ⟨t, x, h4⟩, h3⟩
  have HBX := Lib.hid (two_boxes (w := w) (A := #[.slice a0 n0 c0, .slice a1 n1 c1, .slice a2 n2 c2, .slice a3 n3 c3, .slice a4 n4 c4, .slice a5 n5 c5, .slice a6 n6 c6, .slice a7 n7 c7]) (B := #[.slice b0 m0 d0, .slice b1 m1 d1, .slice b2 m2 d2, .slice b3 m3 d3, .slice b4 m4 d4, .slice b5 m5 d5, .slice b6 m6 d6, .slice b7 m7 d7]) (t := 24))
  have HB0 := Lib.hid (two_below (w := w) (A := #[.slice a0 n0 c0, .slice a1 n1 c1, .slice a2 n2 c2, .slice a3 n3 c3, .slice a4 n4 c4, .slice a5 n5 c5, .slice a6 n6 c6, .slice a7 n7 c7]) (B := #[.slice b0 m0 d0, .slice b1 m1 d1, .slice b2 m2 d2, .slice b3 m3 d3, .slice b4 m4 d4, .slice b5 m5 d5, .slice b6 m6 d6, .slice b7 m7 d7]) (t := 24))
  rw [hU, hV]
  clear hU hV e0 f0 e1 f1 e2 f2 e3 f3 e4 f4 e5 f5 e6 f6 e7 f7 hu hv h h' hl hl' hs hs' hT
  generalize badAt (fun k => (chAt p q k).2) = J at *
  rcases Nat.lt_or_eq_of_le hle with hj | rfl
  · rw [decide_eq_false (by omega)]
    have HC2 : Hid (∀ W, Below w.heap.size w W → Calls Tryd.prog 12 #[.agg #[.slice a0 n0 c0, .slice a1 n1 c1, .slice a2 n2 c2, .slice a3 n3 c3, .slice a4 n4 c4, .slice a5 n5 c5, .slice a6 n6 c6, .slice a7 n7 c7], .agg #[.slice b0 m0 d0, .slice b1 m1 d1, .slice b2 m2 d2, .slice b3 m3 d3, .slice b4 m4 d4, .slice b5 m5 d5, .slice b6 m6 d6, .slice b7 m7 d7]] W fun e w' => ∃ t x, e = .returned (.tuple #[.agg #[.string ⟨#[]⟩, .string ⟨#[]⟩, .string ⟨#[]⟩, .string ⟨#[]⟩, .string ⟨#[]⟩, .string ⟨#[]⟩, .string ⟨#[]⟩, .string ⟨#[]⟩], .iface t x]) ∧ Below W.heap.size W w') := fun W hb => (HCh.out W hb).mono fun e w' ⟨_, h2, h3⟩ => by
      obtain ⟨t, x, h4⟩ := h2 hj
      exact ⟨t, x, h4, h3⟩
    clear HCh hle hj
    go_enter Tryd.func14, Tryd.ntmps14
    go_wp2_with (first
      | (go_at_call 12; (with_reducible refine (HC2.out _ HB0.out).mono ?_); rintro e w1 ⟨t, x, rfl, g1⟩; have G1 := Lib.hid ((HB0.out.trans (g1.mono HB0.out.size)).alloc (HB0.out.trans (g1.mono HB0.out.size)).size (.cells #[.string ⟨#[]⟩, .string ⟨#[]⟩, .string ⟨#[]⟩, .string ⟨#[]⟩, .string ⟨#[]⟩, .string ⟨#[]⟩, .string ⟨#[]⟩, .string ⟨#[]⟩] 28)); clear g1)
      | fail)
    go_ret
    exact ⟨rfl, G1.out⟩
  · rw [decide_eq_true (by rfl)]
    have HC2 : Hid (∀ W, Below w.heap.size w W → Calls Tryd.prog 12 #[.agg #[.slice a0 n0 c0, .slice a1 n1 c1, .slice a2 n2 c2, .slice a3 n3 c3, .slice a4 n4 c4, .slice a5 n5 c5, .slice a6 n6 c6, .slice a7 n7 c7], .agg #[.slice b0 m0 d0, .slice b1 m1 d1, .slice b2 m2 d2, .slice b3 m3 d3, .slice b4 m4 d4, .slice b5 m5 d5, .slice b6 m6 d6, .slice b7 m7 d7]] W fun e w' => e = .returned (.tuple #[.agg #[.string (chAt p q 0).1, .string (chAt p q 1).1, .string (chAt p q 2).1, .string (chAt p q 3).1, .string (chAt p q 4).1, .string (chAt p q 5).1, .string (chAt p q 6).1, .string (chAt p q 7).1], .nilIface]) ∧ Below W.heap.size W w') := fun W hb => (HCh.out W hb).mono fun e w' ⟨h1, _, h3⟩ => ⟨h1 rfl, h3⟩
    clear HCh hle
    generalize (chAt p q 0).1 = F0 at HC2
    generalize (chAt p q 1).1 = F1 at HC2
    generalize (chAt p q 2).1 = F2 at HC2
    generalize (chAt p q 3).1 = F3 at HC2
    generalize (chAt p q 4).1 = F4 at HC2
    generalize (chAt p q 5).1 = F5 at HC2
    generalize (chAt p q 6).1 = F6 at HC2
    generalize (chAt p q 7).1 = F7 at HC2
    go_enter Tryd.func14, Tryd.ntmps14
    go_wp2_with (first
      | (go_at_call 12; (with_reducible refine (HC2.out _ HB0.out).mono ?_); rintro e w1 ⟨rfl, g1⟩; have G1 := Lib.hid ((HB0.out.trans (g1.mono HB0.out.size)).alloc (HB0.out.trans (g1.mono HB0.out.size)).size (.cells #[.string F0, .string F1, .string F2, .string F3, .string F4, .string F5, .string F6, .string F7] 28)); clear g1)
      | fail)
    go_ret
    exact ⟨rfl, G1.out⟩

set_option maxHeartbeats 4000000 in
set_option maxRecDepth 100000 in
theorem chGuess_any {w : World} {u v : Nat → Value} {p q : Nat → List (List UInt8)} (h : ∀ k < 8, TextsAt w (u k) ((p k).map bs)) (h' : ∀ k < 8, TextsAt w (v k) ((q k).map bs)) (hl : ∀ k < 8, (p k).length ≤ 1000) (hl' : ∀ k < 8, (q k).length ≤ 1000) :
    Calls Tryd.prog 15 #[agg8 u, agg8 v] w fun e w' => e = .returned (.bool (guessB p q)) ∧ Below w.heap.size w w' := by
  have hu := texts_sl h
  have hv := texts_sl h'
  obtain ⟨a0, n0, c0, e0⟩ := hu 0 (by omega)
  obtain ⟨a1, n1, c1, e1⟩ := hu 1 (by omega)
  obtain ⟨a2, n2, c2, e2⟩ := hu 2 (by omega)
  obtain ⟨a3, n3, c3, e3⟩ := hu 3 (by omega)
  obtain ⟨a4, n4, c4, e4⟩ := hu 4 (by omega)
  obtain ⟨a5, n5, c5, e5⟩ := hu 5 (by omega)
  obtain ⟨a6, n6, c6, e6⟩ := hu 6 (by omega)
  obtain ⟨a7, n7, c7, e7⟩ := hu 7 (by omega)
  obtain ⟨b0, m0, d0, f0⟩ := hv 0 (by omega)
  obtain ⟨b1, m1, d1, f1⟩ := hv 1 (by omega)
  obtain ⟨b2, m2, d2, f2⟩ := hv 2 (by omega)
  obtain ⟨b3, m3, d3, f3⟩ := hv 3 (by omega)
  obtain ⟨b4, m4, d4, f4⟩ := hv 4 (by omega)
  obtain ⟨b5, m5, d5, f5⟩ := hv 5 (by omega)
  obtain ⟨b6, m6, d6, f6⟩ := hv 6 (by omega)
  obtain ⟨b7, m7, d7, f7⟩ := hv 7 (by omega)
  have hU : agg8 u = .agg #[.slice a0 n0 c0, .slice a1 n1 c1, .slice a2 n2 c2, .slice a3 n3 c3, .slice a4 n4 c4, .slice a5 n5 c5, .slice a6 n6 c6, .slice a7 n7 c7] := by unfold agg8; rw [e0, e1, e2, e3, e4, e5, e6, e7]
  have hV : agg8 v = .agg #[.slice b0 m0 d0, .slice b1 m1 d1, .slice b2 m2 d2, .slice b3 m3 d3, .slice b4 m4 d4, .slice b5 m5 d5, .slice b6 m6 d6, .slice b7 m7 d7] := by unfold agg8; rw [f0, f1, f2, f3, f4, f5, f6, f7]
  have hS : ∀ k, k < 8 → ∀ W, Below w.heap.size w W → Calls Tryd.prog 47 #[u k, v k] W fun e w' => e = .returned (.bool (sameFirstB ((p k).map bs) ((q k).map bs))) ∧ Below W.heap.size W w' := fun k hk W hb => chSameFirst_any ((h k hk).below hb) ((h' k hk).below hb) (by rw [List.length_map]; have := hl k hk; unfold maxLen; omega) (by rw [List.length_map]; have := hl' k hk; unfold maxLen; omega)
  have HS0 := Lib.hid (hS 0 (by omega))
  have HS1 := Lib.hid (hS 1 (by omega))
  rw [e0, f0] at HS0
  rw [e1, f1] at HS1
  have HBX := Lib.hid (two_boxes (w := w) (A := #[.slice a0 n0 c0, .slice a1 n1 c1, .slice a2 n2 c2, .slice a3 n3 c3, .slice a4 n4 c4, .slice a5 n5 c5, .slice a6 n6 c6, .slice a7 n7 c7]) (B := #[.slice b0 m0 d0, .slice b1 m1 d1, .slice b2 m2 d2, .slice b3 m3 d3, .slice b4 m4 d4, .slice b5 m5 d5, .slice b6 m6 d6, .slice b7 m7 d7]) (t := 24))
  have HB0 := Lib.hid (two_below (w := w) (A := #[.slice a0 n0 c0, .slice a1 n1 c1, .slice a2 n2 c2, .slice a3 n3 c3, .slice a4 n4 c4, .slice a5 n5 c5, .slice a6 n6 c6, .slice a7 n7 c7]) (B := #[.slice b0 m0 d0, .slice b1 m1 d1, .slice b2 m2 d2, .slice b3 m3 d3, .slice b4 m4 d4, .slice b5 m5 d5, .slice b6 m6 d6, .slice b7 m7 d7]) (t := 24))
  have HG : Hid (guessB p q = (sameFirstB ((p 0).map bs) ((q 0).map bs) && sameFirstB ((p 1).map bs) ((q 1).map bs))) := rfl
  rw [HG.out]
  generalize sameFirstB ((p 0).map bs) ((q 0).map bs) = r0 at *
  generalize sameFirstB ((p 1).map bs) ((q 1).map bs) = r1 at *
  obtain ⟨W0, hW0⟩ : ∃ W0, W0 = (w.alloc (.cells #[.slice a0 n0 c0, .slice a1 n1 c1, .slice a2 n2 c2, .slice a3 n3 c3, .slice a4 n4 c4, .slice a5 n5 c5, .slice a6 n6 c6, .slice a7 n7 c7] 24)).alloc (.cells #[.slice b0 m0 d0, .slice b1 m1 d1, .slice b2 m2 d2, .slice b3 m3 d3, .slice b4 m4 d4, .slice b5 m5 d5, .slice b6 m6 d6, .slice b7 m7 d7] 24) := ⟨_, rfl⟩
  rw [← hW0] at HBX HB0
  have HW0 := Lib.hid hW0.symm
  have HCe : Hid (∀ W, Below W0.heap.size W0 W → W.cell? ⟨w.heap.size, 0, none⟩ = some (.slice a0 n0 c0) ∧ W.cell? ⟨w.heap.size, 1, none⟩ = some (.slice a1 n1 c1) ∧ W.cell? ⟨w.heap.size + 1, 0, none⟩ = some (.slice b0 m0 d0) ∧ W.cell? ⟨w.heap.size + 1, 1, none⟩ = some (.slice b1 m1 d1)) := fun W hb => by
    obtain ⟨k1, k2⟩ := HBX.out W hb
    exact ⟨(k1.cell 0).trans rfl, (k1.cell 1).trans rfl, (k2.cell 0).trans rfl, (k2.cell 1).trans rfl⟩
  have BR : Hid (Below W0.heap.size W0 W0) := Below.refl _ _
  rw [hU, hV]
  clear hU hV e0 f0 e1 f1 e2 f2 e3 f3 e4 f4 e5 f5 e6 f6 e7 f7 hu hv h h' hl hl' hS HBX HG hW0
  cases r0 with
  | false =>
    go_enter Tryd.func15, Tryd.ntmps15
    go_wp2_with (first
      | (go_at_call 47; rw [HW0.out]; (with_reducible refine (HS0.out _ HB0.out).mono ?_); rintro e w1 ⟨rfl, g1⟩; have B1 := Lib.hid (BR.out.trans (g1.mono BR.out.size)); obtain ⟨k0, k1, k2, k3⟩ := HCe.out _ B1.out; clear g1)
      | fail)
    go_ret
    exact ⟨rfl, HB0.out.trans (B1.out.mono HB0.out.size)⟩
  | true =>
    go_enter Tryd.func15, Tryd.ntmps15
    go_wp2_with (first
      | (go_at_call 47; rw [HW0.out]; (with_reducible refine (HS0.out _ HB0.out).mono ?_); rintro e w1 ⟨rfl, g1⟩; have B1 := Lib.hid (BR.out.trans (g1.mono BR.out.size)); obtain ⟨k0, k1, k2, k3⟩ := HCe.out _ B1.out; clear g1)
      | (go_at_call 47; (with_reducible refine (HS1.out _ (HB0.out.trans (B1.out.mono HB0.out.size))).mono ?_); rintro e w2 ⟨rfl, g2⟩; have B2 := Lib.hid (B1.out.trans (g2.mono B1.out.size)); obtain ⟨l0, l1, l2, l3⟩ := HCe.out _ B2.out; clear g2)
      | fail)
    go_ret
    exact ⟨by simp, HB0.out.trans (B2.out.mono HB0.out.size)⟩

set_option maxHeartbeats 4000000 in
set_option maxRecDepth 100000 in
theorem r17Guess_any {w : World} {u v : Nat → Value} {p q : Nat → List (List UInt8)} (h : ∀ k < 8, TextsAt w (u k) ((p k).map bs)) (h' : ∀ k < 8, TextsAt w (v k) ((q k).map bs)) (hl : ∀ k < 8, (p k).length ≤ 1000) (hl' : ∀ k < 8, (q k).length ≤ 1000) :
    Calls Tryd.prog 16 #[agg8 u, agg8 v] w fun e w' => e = .returned (.bool (guessB p q)) ∧ Below w.heap.size w w' := by
  have hu := texts_sl h
  have hv := texts_sl h'
  obtain ⟨a0, n0, c0, e0⟩ := hu 0 (by omega)
  obtain ⟨a1, n1, c1, e1⟩ := hu 1 (by omega)
  obtain ⟨a2, n2, c2, e2⟩ := hu 2 (by omega)
  obtain ⟨a3, n3, c3, e3⟩ := hu 3 (by omega)
  obtain ⟨a4, n4, c4, e4⟩ := hu 4 (by omega)
  obtain ⟨a5, n5, c5, e5⟩ := hu 5 (by omega)
  obtain ⟨a6, n6, c6, e6⟩ := hu 6 (by omega)
  obtain ⟨a7, n7, c7, e7⟩ := hu 7 (by omega)
  obtain ⟨b0, m0, d0, f0⟩ := hv 0 (by omega)
  obtain ⟨b1, m1, d1, f1⟩ := hv 1 (by omega)
  obtain ⟨b2, m2, d2, f2⟩ := hv 2 (by omega)
  obtain ⟨b3, m3, d3, f3⟩ := hv 3 (by omega)
  obtain ⟨b4, m4, d4, f4⟩ := hv 4 (by omega)
  obtain ⟨b5, m5, d5, f5⟩ := hv 5 (by omega)
  obtain ⟨b6, m6, d6, f6⟩ := hv 6 (by omega)
  obtain ⟨b7, m7, d7, f7⟩ := hv 7 (by omega)
  have hU : agg8 u = .agg #[.slice a0 n0 c0, .slice a1 n1 c1, .slice a2 n2 c2, .slice a3 n3 c3, .slice a4 n4 c4, .slice a5 n5 c5, .slice a6 n6 c6, .slice a7 n7 c7] := by unfold agg8; rw [e0, e1, e2, e3, e4, e5, e6, e7]
  have hV : agg8 v = .agg #[.slice b0 m0 d0, .slice b1 m1 d1, .slice b2 m2 d2, .slice b3 m3 d3, .slice b4 m4 d4, .slice b5 m5 d5, .slice b6 m6 d6, .slice b7 m7 d7] := by unfold agg8; rw [f0, f1, f2, f3, f4, f5, f6, f7]
  have t0 := h 0 (by omega)
  have t1 := h 1 (by omega)
  have s0 := h' 0 (by omega)
  have s1 := h' 1 (by omega)
  have l0 := hl 0 (by omega)
  have l1 := hl 1 (by omega)
  have o0 := hl' 0 (by omega)
  have o1 := hl' 1 (by omega)
  rw [← List.length_map (f := bs)] at l0 l1 o0 o1
  have HG : Hid (guessB p q = (sameFirstB ((p 0).map bs) ((q 0).map bs) && sameFirstB ((p 1).map bs) ((q 1).map bs))) := rfl
  rw [HG.out, hU, hV]
  rw [e0] at t0
  rw [e1] at t1
  rw [f0] at s0
  rw [f1] at s1
  clear hU hV e0 f0 e1 f1 e2 f2 e3 f3 e4 f4 e5 f5 e6 f6 e7 f7 hu hv h h' hl hl' HG
  generalize (p 0).map bs = L0 at *
  generalize (p 1).map bs = L1 at *
  generalize (q 0).map bs = O0 at *
  generalize (q 1).map bs = O1 at *
  obtain ⟨_, _, z0, h0⟩ := t0
  obtain ⟨_, _, z1, h1⟩ := t1
  obtain ⟨_, _, y0, g0⟩ := s0
  obtain ⟨_, _, y1, g1⟩ := s1
  injection z0 with z01 z02 z03
  injection z1 with z11 z12 z13
  injection y0 with y01 y02 y03
  injection y1 with y11 y12 y13
  subst z01 z02 z03 z11 z12 z13 y01 y02 y03 y11 y12 y13
  have HB0 := Lib.hid (two_below (w := w) (A := #[.slice a0 L0.length c0, .slice a1 L1.length c1, .slice a2 n2 c2, .slice a3 n3 c3, .slice a4 n4 c4, .slice a5 n5 c5, .slice a6 n6 c6, .slice a7 n7 c7]) (B := #[.slice b0 O0.length d0, .slice b1 O1.length d1, .slice b2 m2 d2, .slice b3 m3 d3, .slice b4 m4 d4, .slice b5 m5 d5, .slice b6 m6 d6, .slice b7 m7 d7]) (t := 24))
  have HBX := Lib.hid (two_boxes (w := w) (A := #[.slice a0 L0.length c0, .slice a1 L1.length c1, .slice a2 n2 c2, .slice a3 n3 c3, .slice a4 n4 c4, .slice a5 n5 c5, .slice a6 n6 c6, .slice a7 n7 c7]) (B := #[.slice b0 O0.length d0, .slice b1 O1.length d1, .slice b2 m2 d2, .slice b3 m3 d3, .slice b4 m4 d4, .slice b5 m5 d5, .slice b6 m6 d6, .slice b7 m7 d7]) (t := 24))
  cases L0 with
  | nil =>
    clear h0 h1 g0 g1 HBX
    go_enter Tryd.func16, Tryd.ntmps16
    go_wp2_with fail
    go_ret
    exact ⟨by simp [sameFirstB], HB0.out⟩
  | cons x0 L0 =>
  cases O0 with
  | nil =>
    clear h0 h1 g0 g1 HBX
    go_enter Tryd.func16, Tryd.ntmps16
    go_wp2_with fail
    go_ret
    exact ⟨by simp [sameFirstB], HB0.out⟩
  | cons y0 O0 =>
  cases L1 with
  | nil =>
    clear h0 h1 g0 g1 HBX
    go_enter Tryd.func16, Tryd.ntmps16
    go_wp2_with fail
    go_ret
    exact ⟨by simp [sameFirstB], HB0.out⟩
  | cons x1 L1 =>
  cases O1 with
  | nil =>
    clear h0 h1 g0 g1 HBX
    go_enter Tryd.func16, Tryd.ntmps16
    go_wp2_with fail
    go_ret
    exact ⟨by simp [sameFirstB], HB0.out⟩
  | cons y1 O1 =>
    obtain ⟨g0b, g0o, rfl, g0l, g0c⟩ := h0 (by simp)
    obtain ⟨g1b, g1o, rfl, g1l, g1c⟩ := h1 (by simp)
    obtain ⟨k0b, k0o, rfl, k0l, k0c⟩ := g0 (by simp)
    obtain ⟨k1b, k1o, rfl, k1l, k1c⟩ := g1 (by simp)
    have HG : Hid ((sameFirstB (x0 :: L0) (y0 :: O0) && sameFirstB (x1 :: L1) (y1 :: O1)) = ((x0.toList == y0.toList) && (x1.toList == y1.toList))) := rfl
    rw [HG.out]
    have HCe : Hid (∀ W, Below w.heap.size w W → W.cell? ⟨g0b, g0o, none⟩ = some (.string x0) ∧ W.cell? ⟨k0b, k0o, none⟩ = some (.string y0) ∧ W.cell? ⟨g1b, g1o, none⟩ = some (.string x1) ∧ W.cell? ⟨k1b, k1o, none⟩ = some (.string y1)) := fun W hb => ⟨(hb.cell (p := ⟨g0b, g0o, none⟩) g0l).trans (g0c 0 _ rfl), (hb.cell (p := ⟨k0b, k0o, none⟩) k0l).trans (k0c 0 _ rfl), (hb.cell (p := ⟨g1b, g1o, none⟩) g1l).trans (g1c 0 _ rfl), (hb.cell (p := ⟨k1b, k1o, none⟩) k1l).trans (k1c 0 _ rfl)⟩
    clear HB0 HBX
    have HB0 := Lib.hid (two_below (w := w) (A := #[.slice (some ⟨g0b, g0o, none⟩) (L0.length + 1) c0, .slice (some ⟨g1b, g1o, none⟩) (L1.length + 1) c1, .slice a2 n2 c2, .slice a3 n3 c3, .slice a4 n4 c4, .slice a5 n5 c5, .slice a6 n6 c6, .slice a7 n7 c7]) (B := #[.slice (some ⟨k0b, k0o, none⟩) (O0.length + 1) d0, .slice (some ⟨k1b, k1o, none⟩) (O1.length + 1) d1, .slice b2 m2 d2, .slice b3 m3 d3, .slice b4 m4 d4, .slice b5 m5 d5, .slice b6 m6 d6, .slice b7 m7 d7]) (t := 24))
    have HBX := Lib.hid (two_boxes (w := w) (A := #[.slice (some ⟨g0b, g0o, none⟩) (L0.length + 1) c0, .slice (some ⟨g1b, g1o, none⟩) (L1.length + 1) c1, .slice a2 n2 c2, .slice a3 n3 c3, .slice a4 n4 c4, .slice a5 n5 c5, .slice a6 n6 c6, .slice a7 n7 c7]) (B := #[.slice (some ⟨k0b, k0o, none⟩) (O0.length + 1) d0, .slice (some ⟨k1b, k1o, none⟩) (O1.length + 1) d1, .slice b2 m2 d2, .slice b3 m3 d3, .slice b4 m4 d4, .slice b5 m5 d5, .slice b6 m6 d6, .slice b7 m7 d7]) (t := 24))
    obtain ⟨q0, q1, q2, q3⟩ := HCe.out _ HB0.out
    obtain ⟨p0, p1, p2, p3⟩ := HCe.out _ HB0.out.drew
    obtain ⟨hA, hB⟩ := HBX.out _ (Below.refl _ _).drew
    have v0 := (hA.cell 0).trans (show _ = some (Value.slice (some ⟨g0b, g0o, none⟩) (L0.length + 1) c0) from rfl)
    have v1 := (hA.cell 1).trans (show _ = some (Value.slice (some ⟨g1b, g1o, none⟩) (L1.length + 1) c1) from rfl)
    have v2 := (hB.cell 0).trans (show _ = some (Value.slice (some ⟨k0b, k0o, none⟩) (O0.length + 1) d0) from rfl)
    have v3 := (hB.cell 1).trans (show _ = some (Value.slice (some ⟨k1b, k1o, none⟩) (O1.length + 1) d1) from rfl)
    have t0 : ((L0.length : Int) + 1 == 0) = false := by rw [beq_eq_false_iff_ne]; omega
    have t1 : ((L1.length : Int) + 1 == 0) = false := by rw [beq_eq_false_iff_ne]; omega
    have t2 : ((O0.length : Int) + 1 == 0) = false := by rw [beq_eq_false_iff_ne]; omega
    have t3 : ((O1.length : Int) + 1 == 0) = false := by rw [beq_eq_false_iff_ne]; omega
    clear HG g0c g1c k0c k1c h0 h1 g0 g1 HCe hA hB HBX
    generalize hr0 : (x0.toList == y0.toList) = r0 at *
    generalize hr1 : (x1.toList == y1.toList) = r1 at *
    cases r0 with
    | true =>
      go_enter Tryd.func16, Tryd.ntmps16
      go_wp2_with fail
      go_region_held3 (fun w' => w'.cell? ⟨w.heap.size, 0, none⟩ = some (.slice (some ⟨g0b, g0o, none⟩) (L0.length + 1) c0) ∧ w'.cell? ⟨w.heap.size, 1, none⟩ = some (.slice (some ⟨g1b, g1o, none⟩) (L1.length + 1) c1) ∧ w'.cell? ⟨w.heap.size + 1, 0, none⟩ = some (.slice (some ⟨k0b, k0o, none⟩) (O0.length + 1) d0) ∧ w'.cell? ⟨w.heap.size + 1, 1, none⟩ = some (.slice (some ⟨k1b, k1o, none⟩) (O1.length + 1) d1) ∧ w'.cell? ⟨g0b, g0o, none⟩ = some (.string x0) ∧ w'.cell? ⟨k0b, k0o, none⟩ = some (.string y0) ∧ w'.cell? ⟨g1b, g1o, none⟩ = some (.string x1) ∧ w'.cell? ⟨k1b, k1o, none⟩ = some (.string y1))
        (first | with_reducible exact ⟨v0, v1, v2, v3, p0, p1, p2, p3⟩ | go_keep)
        (fail)
      all_goals
        go_wp2_with fail
        go_ret
        exact ⟨by simp, HB0.out.drew⟩
    | false =>
      go_enter Tryd.func16, Tryd.ntmps16
      go_wp2_with fail
      go_region
      all_goals
        go_wp2_with fail
        go_ret
        exact ⟨rfl, HB0.out.drew⟩
end Go.Proofs.YtihkhcocfhbekaaDoor
