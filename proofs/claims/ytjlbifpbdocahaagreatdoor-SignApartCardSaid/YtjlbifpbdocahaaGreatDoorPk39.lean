/- Part 39 of what the statement wants. -/
import Derived.BigQuiet
import Derived.Test.YtjlbifpbdocahaaGreatDoorPk35
import Derived.Test.YtjlbifpbdocahaaGreatDoorPk36
import Derived.Test.YtjlbifpbdocahaaGreatDoorPk38
namespace Go.Proofs.YtjlbifpbdocahaaGreatDoor
open Go.RowKit

set_option maxHeartbeats 8000000 in
set_option maxRecDepth 100000 in
theorem SignApart_small {w : World} (hg : TypeOfError w) {v : Value} {l : List MakeR} (hM : MakesAt w v l) (hl : l.length ≤ 20) (hs : ∀ x ∈ l, x.s.length ≤ 200) (x0 s0 s1 a0 a1 : Int) (u0 v0 g0 u1 v1 g1 : List UInt8) (hu0 : u0.length ≤ 100) (hv0 : v0.length ≤ 100) (hg0 : g0.length ≤ 100) (hu1 : u1.length ≤ 100) (hv1 : v1.length ≤ 100) (hg1 : g1.length ≤ 100) :
    Calls Tryz.prog 4 #[v, .agg #[.int .i64 s0, .string (bs u0), .string (bs v0), .string (bs g0), .int .i64 a0, .int .i64 s1, .string (bs u1), .string (bs v1), .string (bs g1), .int .i64 a1], .int .i64 x0] w fun e w' => e = .returned (.bool true) ∧ Below w.heap.size w w' := by
  have hfew : fewP l 20 = true := decide_eq_true ⟨by omega, hs⟩
  have b0 : Below w.heap.size w (w.alloc (.cells #[.int .i64 s0, .string (bs u0), .string (bs v0), .string (bs g0), .int .i64 a0, .int .i64 s1, .string (bs u1), .string (bs v1), .string (bs g1), .int .i64 a1] 26)) := (Below.refl _ _).alloc (Nat.le_refl _) _
  have hY : Holds (w.alloc (.cells #[.int .i64 s0, .string (bs u0), .string (bs v0), .string (bs g0), .int .i64 a0, .int .i64 s1, .string (bs u1), .string (bs v1), .string (bs g1), .int .i64 a1] 26)) w.heap.size 26 #[.int .i64 s0, .string (bs u0), .string (bs v0), .string (bs g0), .int .i64 a0, .int .i64 s1, .string (bs u1), .string (bs v1), .string (bs g1), .int .i64 a1] := Holds.new w _ _
  obtain ⟨W0, hW0⟩ : ∃ W0, Hid (W0 = w.alloc (.cells #[.int .i64 s0, .string (bs u0), .string (bs v0), .string (bs g0), .int .i64 a0, .int .i64 s1, .string (bs u1), .string (bs v1), .string (bs g1), .int .i64 a1] 26)) := ⟨_, Lib.hid rfl⟩
  rw [← hW0.out] at b0 hY
  have hM0 := makes_below22 hM b0
  have HFw := few_any hM0 20 (fun x hx => by have := hs x hx; omega) (by omega)
  rw [hfew] at HFw
  have HFw := Lib.hid HFw
  have e0 := bs_size u0
  have e1 := bs_size v0
  have e2 := bs_size g0
  have e3 := bs_size u1
  have e4 := bs_size v1
  have e5 := bs_size g1
  have HF0 : Hid (∀ W, Calls Tryz.prog 7 #[.agg #[.int .i64 s0, .string (bs u0), .string (bs v0), .string (bs g0), .int .i64 a0]] W fun e w' => e = .returned (.bool true) ∧ Below W.heap.size W w') := fun W => few22_any s0 a0 (bs u0) (bs v0) (bs g0) true true true (decide_eq_true (by omega)) (decide_eq_true (by omega)) (decide_eq_true (by omega)) (by omega) (by omega) (by omega) W
  have HF1 : Hid (∀ W, Calls Tryz.prog 7 #[.agg #[.int .i64 s1, .string (bs u1), .string (bs v1), .string (bs g1), .int .i64 a1]] W fun e w' => e = .returned (.bool true) ∧ Below W.heap.size W w') := fun W => few22_any s1 a1 (bs u1) (bs v1) (bs g1) true true true (decide_eq_true (by omega)) (decide_eq_true (by omega)) (decide_eq_true (by omega)) (by omega) (by omega) (by omega) W
  have HN : Hid (∀ W, Below W0.heap.size W0 W → Calls Tryz.prog 9 #[] W fun e w' => ∃ A, e = .returned (.pointer (some ⟨A, 0, none⟩)) ∧ Ta W0.heap.size W0 A [] 0 w') := fun W hb => (taNew W).mono fun e w' ⟨A, h1, h2⟩ => ⟨A, h1, ta_down22 hb h2⟩
  have HMk : Hid (∀ (A : Nat) (W : World), Ta W0.heap.size W0 A [] 0 W → Calls Tryz.prog 10 #[.pointer (some ⟨A, 0, none⟩), v] W fun e w' => ∃ (ids : List Int) (texts : List (List UInt8)) (ai : Option Addr) (ci : Nat) (at' : Option Addr) (ct : Nat), e = .returned (.agg #[.slice ai l.length ci, .slice at' l.length ct]) ∧
      (ids.length = l.length ∧ texts.length = l.length) ∧ IdsAt w' (.slice ai l.length ci) ids ∧ TextsAt w' (.slice at' l.length ct) (texts.map bs) ∧ Ta W0.heap.size W0 A (ids.zip texts) l.length w') := fun A W h => taMakes hM0 (Below.refl _ _) (Nat.le_refl _) h (by omega) (fun x hx => by have := hs x hx; omega)
  have HAw : Hid (∀ W, Below W0.heap.size W0 W → Calls Tryz.prog 8 #[] W fun e w' => e = .returned (.bool true) ∧ Below W.heap.size W w') := fun W hb => awake22_any W (hg.later (b0.trans (hb.mono b0.size)))
  obtain ⟨ao0, cap0, rfl, _⟩ := id hM0
  have HC : Hid (∀ W, Below W0.heap.size W0 W → (W.cell? ⟨w.heap.size, 0, none⟩ = some (.int .i64 s0) ∧ W.cell? ⟨w.heap.size, 1, none⟩ = some (.string (bs u0)) ∧ W.cell? ⟨w.heap.size, 2, none⟩ = some (.string (bs v0)) ∧ W.cell? ⟨w.heap.size, 3, none⟩ = some (.string (bs g0)) ∧ W.cell? ⟨w.heap.size, 4, none⟩ = some (.int .i64 a0) ∧ W.cell? ⟨w.heap.size, 5, none⟩ = some (.int .i64 s1) ∧ W.cell? ⟨w.heap.size, 6, none⟩ = some (.string (bs u1)) ∧ W.cell? ⟨w.heap.size, 7, none⟩ = some (.string (bs v1)) ∧ W.cell? ⟨w.heap.size, 8, none⟩ = some (.string (bs g1)) ∧ W.cell? ⟨w.heap.size, 9, none⟩ = some (.int .i64 a1))) := fun W hb => by
    have h := (Kept.ofBelow hb).hold _ _ _ (by decide) (by decide) hY
    exact ⟨h.cell 0, h.cell 1, h.cell 2, h.cell 3, h.cell 4, h.cell 5, h.cell 6, h.cell 7, h.cell 8, h.cell 9⟩
  have HY := Lib.hid hY
  have HB0 := Lib.hid b0
  have BR0 : Hid (Below W0.heap.size W0 W0) := Below.refl _ _
  obtain ⟨y0, y1, y2, y3, y4, y5, y6, y7, y8, y9⟩ := HC.out W0 BR0.out
  clear hM hM0 hs hfew hg hY b0 e0 e1 e2 e3 e4 e5
  go_enter Tryz.func4, Tryz.ntmps4
  go_upto_region 5 with (first
    | (go_at_call 6; rw [← hW0.out]; (with_reducible refine HFw.out.mono ?_); rintro e w' ⟨rfl, hw⟩; have hw := hw.symm; subst hw)
    | (go_at_call 7; (with_reducible refine (HF0.out _).mono ?_); rintro e w3 ⟨rfl, b3⟩; obtain ⟨c0, c1, c2, c3, c4, c5, c6, c7, c8, c9⟩ := HC.out _ b3)
    | (go_at_call 7; (with_reducible refine (HF1.out _).mono ?_); rintro e w4 ⟨rfl, b4⟩; have B4 := b3.trans (b4.mono b3.size))
    | (go_at_call 9; (with_reducible refine (HN.out _ B4).mono ?_); rintro e w1 ⟨A, rfl, t1⟩)
    | (go_at_call 10; (with_reducible refine (HMk.out _ _ t1).mono ?_); rintro e w2 ⟨ids, texts, ai, ci, at', ct, rfl, hln, hI, hT, t2⟩))
  obtain ⟨W3, hW3⟩ : ∃ W3, W3 = w2.alloc (.cells #[.slice ai l.length ci, .slice at' l.length ct] 35) := ⟨_, rfl⟩
  rw [← hW3]
  obtain ⟨hBx, hPk⟩ := made_box22 hW3 hI hT hln (by omega)
  have tt3 : Ta W0.heap.size W0 A (ids.zip texts) l.length W3 := by rw [hW3]; exact t2.alloc _
  have hY3 : Holds W3 w.heap.size 26 #[.int .i64 s0, .string (bs u0), .string (bs v0), .string (bs g0), .int .i64 a0, .int .i64 s1, .string (bs u1), .string (bs v1), .string (bs g1), .int .i64 a1] := (tt3.bel.block _ HY.out.lt).trans HY.out
  have hln' : ids.length = texts.length := by omega
  have hp0 := pick_in hln' s0
  have hp1 := pick_in hln' s1
  have hp2 := pick_in hln' x0
  have hP0 := hPk s0
  have hP1 := hPk s1
  have hP2 := hPk x0
  generalize pickP ids texts s0 = p0 at *
  generalize pickP ids texts s1 = p1 at *
  generalize pickP ids texts x0 = p2 at *
  obtain ⟨i0, t0⟩ := p0
  obtain ⟨i1, t1'⟩ := p1
  obtain ⟨ih, th⟩ := p2
  simp only at hP0 hP1 hP2
  have t4 : Ta W0.heap.size W0 A [(ih, th), (i1, t1'), (i0, t0)] 20 W3 := (((tt3.cons hp0).cons (hp1.imp_left fun h => List.mem_cons_of_mem _ h)).cons (hp2.imp_left fun h => List.mem_cons_of_mem _ (List.mem_cons_of_mem _ h))).mono (by omega) (fun p hp => by
    simp only [List.mem_cons, List.not_mem_nil, or_false] at hp
    rcases hp with rfl | rfl | rfl
    · exact .head _
    · exact .tail _ (.head _)
    · exact .tail _ (.tail _ (.head _)))
  generalize w2.heap.size = N at *
  have HBX : Hid (∀ W, Kept W3 W → (W.cell? ⟨w.heap.size, 0, none⟩ = some (.int .i64 s0) ∧ W.cell? ⟨w.heap.size, 1, none⟩ = some (.string (bs u0)) ∧ W.cell? ⟨w.heap.size, 2, none⟩ = some (.string (bs v0)) ∧ W.cell? ⟨w.heap.size, 3, none⟩ = some (.string (bs g0)) ∧ W.cell? ⟨w.heap.size, 4, none⟩ = some (.int .i64 a0) ∧ W.cell? ⟨w.heap.size, 5, none⟩ = some (.int .i64 s1) ∧ W.cell? ⟨w.heap.size, 6, none⟩ = some (.string (bs u1)) ∧ W.cell? ⟨w.heap.size, 7, none⟩ = some (.string (bs v1)) ∧ W.cell? ⟨w.heap.size, 8, none⟩ = some (.string (bs g1)) ∧ W.cell? ⟨w.heap.size, 9, none⟩ = some (.int .i64 a1)) ∧ Holds W N 35 #[.slice ai l.length ci, .slice at' l.length ct]) := fun W hk => by
    have h2 := hk.hold _ _ _ (by decide) (by decide) hY3
    exact ⟨⟨h2.cell 0, h2.cell 1, h2.cell 2, h2.cell 3, h2.cell 4, h2.cell 5, h2.cell 6, h2.cell 7, h2.cell 8, h2.cell 9⟩, hk.hold _ _ _ (by decide) (by decide) hBx⟩
  have HP0 := Lib.hid hP0
  have HP1 := Lib.hid hP1
  have HP2 := Lib.hid hP2
  have T4 := Lib.hid t4
  clear hW3 hI hT hln hln' t1 t2 tt3 t4 hp0 hp1 hp2 hPk hBx hY3 HY HMk HN HFw hP0 hP1 hP2 y0 y1 y2 y3 y4 y5 y6 y7 y8 y9 c0 c1 c2 c3 c4 c5 c6 c7 c8 c9 HC HF0 HF1 b3 b4 B4
  obtain ⟨⟨y0, y1, y2, y3, y4, y5, y6, y7, y8, y9⟩, hz⟩ := HBX.out W3 (Kept.refl _)
  go_upto_region 8 with (first
    | (go_at_call 11; (with_reducible refine (HP0.out _ (Below.refl _ _)).mono ?_); rintro e w4 ⟨rfl, b4⟩; obtain ⟨⟨f0, f1, f2, f3, f4, f5, f6, f7, f8, f9⟩, hz4⟩ := HBX.out w4 (Kept.ofBelow b4))
    | (go_at_call 11; (with_reducible refine (HP1.out _ b4).mono ?_); rintro e w5 ⟨rfl, b5⟩; have b5 := b4.trans (b5.mono b4.size); obtain ⟨⟨h0, h1, h2, h3, h4, h5, h6, h7, h8, h9⟩, hz5⟩ := HBX.out w5 (Kept.ofBelow b5))
    | (go_at_call 11; (with_reducible refine (HP2.out _ b5).mono ?_); rintro e w6 ⟨rfl, b6⟩; have b6 := b5.trans (b6.mono b5.size); have K6 := Kept.ofBelow b6; have t6 := T4.out.below b6)
    | (refine wpList_load_row rfl 35 _ rfl N rfl 35 _ (0, 0) _ hz5 Tryz.underlying35 rfl sizeMade22 ?_)
    | (refine wpList_load_row rfl 35 _ rfl N rfl 35 _ (0, 0) _ hz4 Tryz.underlying35 rfl sizeMade22 ?_)
    | (refine wpList_load_row rfl 35 _ rfl N rfl 35 _ (0, 0) _ hz Tryz.underlying35 rfl sizeMade22 ?_))
  have HU0 : Hid (∀ W, Ta W0.heap.size W0 A [(ih, th), (i1, t1'), (i0, t0)] 20 W → Calls Tryz.prog 12 #[.pointer (some ⟨A, 0, none⟩), .int .i64 i0, .string (bs u0), .string (bs v0), .string (bs g0), .int .i64 a0] W (TaPost W0.heap.size W0 A [(ih, th), (i1, t1'), (i0, t0)] 30 W (userL t0 u0 v0 g0 a0))) := fun W h => snUser_any h (by omega) u0 v0 g0 (by omega) (by omega) (by omega) a0 (.tail _ (.tail _ (.head _)))
  have HU1 : Hid (∀ (p : Int) W, Ta W0.heap.size W0 A ((p, userL t0 u0 v0 g0 a0) :: [(ih, th), (i1, t1'), (i0, t0)]) 30 W → Calls Tryz.prog 12 #[.pointer (some ⟨A, 0, none⟩), .int .i64 i1, .string (bs u1), .string (bs v1), .string (bs g1), .int .i64 a1] W (TaPost W0.heap.size W0 A ((p, userL t0 u0 v0 g0 a0) :: [(ih, th), (i1, t1'), (i0, t0)]) 40 W (userL t1' u1 v1 g1 a1))) := fun p W h => snUser_any h (by omega) u1 v1 g1 (by omega) (by omega) (by omega) a1 (.tail _ (.tail _ (.head _)))
  have HH : Hid (∀ (p q : Int) W, Ta W0.heap.size W0 A [(q, userL t1' u1 v1 g1 a1), (p, userL t0 u0 v0 g0 a0), (ih, th), (i1, t1'), (i0, t0)] 40 W → Calls Tryz.prog 24 #[.pointer (some ⟨A, 0, none⟩), .int .i64 ih] W (TaPost W0.heap.size W0 A [(q, userL t1' u1 v1 g1 a1), (p, userL t0 u0 v0 g0 a0), (ih, th), (i1, t1'), (i0, t0)] 41 W (refHashL th))) := fun p q W h => taHash h (by omega) (.tail _ (.tail _ (.head _)))
  have HHo : Hid (userL t0 u0 v0 g0 a0 ≠ [] → ∀ (p q hh : Int) W, Ta W0.heap.size W0 A [(hh, refHashL th), (q, userL t1' u1 v1 g1 a1), (p, userL t0 u0 v0 g0 a0), (ih, th), (i1, t1'), (i0, t0)] 41 W → Calls Tryz.prog 23 #[.pointer (some ⟨A, 0, none⟩), .string (bs g0), .int .i64 a0, .int .i64 hh] W fun r w' => ∃ o, r = .returned (.int .i64 o) ∧ (o != p) = true ∧ Ta W0.heap.size W0 A [(hh, refHashL th), (q, userL t1' u1 v1 g1 a1), (p, userL t0 u0 v0 g0 a0), (ih, th), (i1, t1'), (i0, t0)] 43 w' ∧ Kept W w') := fun hne p q hh W h =>
    (snHost_any h (by omega) g0 (by omega) a0 (.head _)).mono fun r w' ⟨o, h1, h2, h3⟩ => ⟨o, h1, by
      rw [bne_iff_ne]
      intro e
      exact host_user hne ((h2.same (.head _) (.tail _ (.tail _ (.tail _ (.head _))))).1 e), h2.mono (Nat.le_refl _) (fun x hx => .tail _ hx), h3⟩
  have HF : Hid (∀ (p q : Int) W, Ta W0.heap.size W0 A [(q, userL t1' u1 v1 g1 a1), (p, userL t0 u0 v0 g0 a0), (ih, th), (i1, t1'), (i0, t0)] 40 W → (p = -1 ↔ userL t0 u0 v0 g0 a0 = []) ∧ (q = -1 ↔ userL t1' u1 v1 g1 a1 = []) ∧ (userL t0 u0 v0 g0 a0 ≠ [] → userL t1' u1 v1 g1 a1 ≠ [] → (p = q ↔ i0 = i1 ∧ u0 = u1 ∧ v0 = v1 ∧ g0 = g1 ∧ a0 = a1))) := fun p q W h => by
    refine ⟨h.none (.tail _ (.head _)), h.none (.head _), fun n0 n1 => ?_⟩
    rw [h.same (i := p) (j := q) (.tail _ (.head _)) (.head _), h.same (i := i0) (j := i1) (.tail _ (.tail _ (.tail _ (.tail _ (.head _))))) (.tail _ (.tail _ (.tail _ (.head _))))]
    obtain ⟨⟨L, F, _, hG, _, h3⟩, _⟩ := h
    exact user_iff hG (h3 (i0, t0) (.tail _ (.tail _ (.tail _ (.tail _ (.head _)))))) (h3 (i1, t1') (.tail _ (.tail _ (.tail _ (.head _))))) n0 n1
  generalize userL t0 u0 v0 g0 a0 = OW0 at *
  generalize userL t1' u1 v1 g1 a1 = OW1 at *
  generalize refHashL th = HT at *
  obtain ⟨⟨k0, k1, k2, k3, k4, k5, k6, k7, k8, k9⟩, _⟩ := HBX.out _ K6
  have HC2 : Hid (∀ W, Kept W3 W → W.cell? ⟨w.heap.size, 3, none⟩ = some (.string (bs g0)) ∧ W.cell? ⟨w.heap.size, 4, none⟩ = some (.int .i64 a0)) := fun W hk => ⟨(HBX.out W hk).1.2.2.2.1, (HBX.out W hk).1.2.2.2.2.1⟩
  clear hz y0 y1 y2 y3 y4 y5 y6 y7 y8 y9 HP0 HP1 HP2 b4 b5 b6 hz4 f0 f1 f2 f3 f4 f5 f6 f7 f8 f9 h0 h1 h2 h3 h4 h5 h6 h7 h8 h9 hz5
  go_upto_region 10 with (first
    | (go_at_call 12; (with_reducible refine (HU0.out _ t6).mono ?_); rintro e w7 ⟨p, rfl, t7, j7⟩; have K7 := K6.trans j7; obtain ⟨⟨m0, m1, m2, m3, m4, m5, m6, m7, m8, m9⟩, _⟩ := HBX.out _ K7)
    | (go_at_call 12; (with_reducible refine (HU1.out _ _ t7).mono ?_); rintro e w8 ⟨q, rfl, t8, j8⟩; have K8 := K7.trans j8; obtain ⟨⟨n0, n1, n2, n3, n4, n5, n6, n7, n8, n9⟩, _⟩ := HBX.out _ K8))
  obtain ⟨fp, fq, fe⟩ := HF.out p q _ t8
  have T8 := Lib.hid t8
  have K8h := Lib.hid K8
  clear k0 k1 k2 k3 k4 k5 k6 k7 k8 k9 m0 m1 m2 m3 m4 m5 m6 m7 m8 m9 t6 t7 K6 K7 j7 j8 HU0 HU1 HF t8 K8
  by_cases hn0 : OW0 = []
  · have qp : (p == -1) = true := by rw [fp.2 hn0]; rfl
    clear fp fq fe hn0 HHo HH
    go_wp2_with (go_at_call 8; (with_reducible refine (HAw.out _ T8.out.bel).mono ?_); rintro e m1 ⟨rfl, b1⟩; have s1' := T8.out.below b1)
    go_ret
    exact ⟨rfl, HB0.out.trans (s1'.bel.mono HB0.out.size)⟩
  have qp : (p == -1) = false := beq_eq_false_iff_ne.2 (fun e => hn0 (fp.1 e))
  by_cases hn1 : OW1 = []
  · have qq : (q == -1) = true := by rw [fq.2 hn1]; rfl
    clear fp fq fe hn0 hn1 HHo HH
    go_wp2_with (go_at_call 8; (with_reducible refine (HAw.out _ T8.out.bel).mono ?_); rintro e m1 ⟨rfl, b1⟩; have s1' := T8.out.below b1)
    go_ret
    exact ⟨rfl, HB0.out.trans (s1'.bel.mono HB0.out.size)⟩
  have qq : (q == -1) = false := beq_eq_false_iff_ne.2 (fun e => hn1 (fq.1 e))
  have fe2 := fe hn0 hn1
  have HHo2 := Lib.hid (HHo.out hn0)
  have hsix : ((i0 == i1) = true ∧ ((bs u0).toList == (bs u1).toList) = true ∧ ((bs v0).toList == (bs v1).toList) = true ∧ ((bs g0).toList == (bs g1).toList) = true ∧ (a0 == a1) = true ∧ (p == q) = true) ∨ ((i0 == i1) = false ∧ (p == q) = false) ∨ ((i0 == i1) = true ∧ ((bs u0).toList == (bs u1).toList) = false ∧ (p == q) = false) ∨ ((i0 == i1) = true ∧ ((bs u0).toList == (bs u1).toList) = true ∧ ((bs v0).toList == (bs v1).toList) = false ∧ (p == q) = false) ∨ ((i0 == i1) = true ∧ ((bs u0).toList == (bs u1).toList) = true ∧ ((bs v0).toList == (bs v1).toList) = true ∧ ((bs g0).toList == (bs g1).toList) = false ∧ (p == q) = false) ∨ ((i0 == i1) = true ∧ ((bs u0).toList == (bs u1).toList) = true ∧ ((bs v0).toList == (bs v1).toList) = true ∧ ((bs g0).toList == (bs g1).toList) = true ∧ (a0 == a1) = false ∧ (p == q) = false) := by
    have no : ∀ (P : Prop), ¬ P → (p = q ↔ P) → (p == q) = false := fun P hP hh => beq_eq_false_iff_ne.2 (fun e => hP (hh.1 e))
    by_cases c1 : i0 = i1
    · have d1 : (i0 == i1) = true := by rw [c1]; simp
      by_cases c2 : u0 = u1
      · have d2 : ((bs u0).toList == (bs u1).toList) = true := by rw [c2]; simp
        by_cases c3 : v0 = v1
        · have d3 : ((bs v0).toList == (bs v1).toList) = true := by rw [c3]; simp
          by_cases c4 : g0 = g1
          · have d4 : ((bs g0).toList == (bs g1).toList) = true := by rw [c4]; simp
            by_cases c5 : a0 = a1
            · refine .inl ⟨d1, d2, d3, d4, by rw [c5]; simp, ?_⟩
              rw [beq_iff_eq]
              exact fe2.2 ⟨c1, c2, c3, c4, c5⟩
            · exact .inr (.inr (.inr (.inr (.inr ⟨d1, d2, d3, d4, beq_eq_false_iff_ne.2 c5, no _ (fun h => c5 h.2.2.2.2) fe2⟩))))
          · exact .inr (.inr (.inr (.inr (.inl ⟨d1, d2, d3, (ne_list c4).1, no _ (fun h => c4 h.2.2.2.1) fe2⟩))))
        · exact .inr (.inr (.inr (.inl ⟨d1, d2, (ne_list c3).1, no _ (fun h => c3 h.2.2.1) fe2⟩)))
      · exact .inr (.inr (.inl ⟨d1, (ne_list c2).1, no _ (fun h => c2 h.2.1) fe2⟩))
    · exact .inr (.inl ⟨beq_eq_false_iff_ne.2 c1, no _ (fun h => c1 h.1) fe2⟩)
  clear fp fq fe hn0 hn1 HHo fe2
  rcases hsix with ⟨d1, d2, d3, d4, d5, dp⟩ | ⟨d1, dp⟩ | ⟨d1, d2, dp⟩ | ⟨d1, d2, d3, dp⟩ | ⟨d1, d2, d3, d4, dp⟩ | ⟨d1, d2, d3, d4, d5, dp⟩
  all_goals
    go_upto_region 13 with fail
    have hsame : (true == true) = true ∧ (false == false) = true := ⟨rfl, rfl⟩
    have kd := K8h.out.trans (Kept.ofBelow (Below.refl w8.heap.size w8).drew)
    have td := T8.out.drew
    obtain ⟨x3', x4'⟩ := HC2.out _ kd
    clear n0 n1 n2 n3 n4 n5 n6 n7 n8 n9
    go_region_held3 (fun W => W.cell? ⟨w.heap.size, 3, none⟩ = some (.string (bs g0)) ∧ W.cell? ⟨w.heap.size, 4, none⟩ = some (.int .i64 a0))
      (first | with_reducible exact HC2.out _ kd | with_reducible exact HC2.out _ k1 | with_reducible exact HC2.out _ k2 | with_reducible exact HC2.out _ k3 | go_keep)
      (first
        | (go_at_call 8; (with_reducible refine (HAw.out _ td.bel).mono ?_); rintro e m1 ⟨rfl, b1⟩; have s1' := td.below b1; have k1 := kd.trans (Kept.ofBelow b1); obtain ⟨r0, r1⟩ := HC2.out _ k1)
        | (go_at_call 24; (with_reducible refine (HH.out _ _ _ s1').mono ?_); rintro e m2 ⟨hh, rfl, s2, j2⟩; have k2 := k1.trans j2; obtain ⟨r2, r3⟩ := HC2.out _ k2)
        | (go_at_call 23; (with_reducible refine (HHo2.out _ _ _ _ s2).mono ?_); rintro e m3 ⟨o, rfl, ho, s3, j3⟩; have k3 := k2.trans j3; obtain ⟨r4, r5⟩ := HC2.out _ k3))
    go_wp2_with fail
    go_ret
    exact ⟨rfl, HB0.out.trans (s3.bel.mono HB0.out.size)⟩

end Go.Proofs.YtjlbifpbdocahaaGreatDoor
