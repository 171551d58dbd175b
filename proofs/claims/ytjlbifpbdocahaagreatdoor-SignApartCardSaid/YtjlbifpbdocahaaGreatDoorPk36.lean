/- Part 36 of what the statement wants. -/
import Derived.BigQuiet
import Derived.Test.YtjlbifpbdocahaaGreatDoorPk34
import Derived.Test.YtjlbifpbdocahaaGreatDoorPk35
namespace Go.Proofs.YtjlbifpbdocahaaGreatDoor
open Go.RowKit

set_option maxHeartbeats 8000000 in
set_option maxRecDepth 100000 in
theorem SignUsers_small {w : World} (hg : TypeOfError w) {v : Value} {l : List MakeR} (hM : MakesAt w v l) (hl : l.length ≤ 20) (hs : ∀ x ∈ l, x.s.length ≤ 200) (x0 x1 s0 s1 a0 a1 : Int) (u0 v0 g0 u1 v1 g1 : List UInt8) (hu0 : u0.length ≤ 100) (hv0 : v0.length ≤ 100) (hg0 : g0.length ≤ 100) (hu1 : u1.length ≤ 100) (hv1 : v1.length ≤ 100) (hg1 : g1.length ≤ 100) :
    Calls Tryz.prog 3 #[v, .agg #[.int .i64 x0, .int .i64 x1], .agg #[.int .i64 s0, .string (bs u0), .string (bs v0), .string (bs g0), .int .i64 a0, .int .i64 s1, .string (bs u1), .string (bs v1), .string (bs g1), .int .i64 a1]] w fun e w' => e = .returned (.bool true) ∧ Below w.heap.size w w' := by
  have hfew : fewP l 20 = true := decide_eq_true ⟨by omega, hs⟩
  have b0 : Below w.heap.size w ((w.alloc (.cells #[.int .i64 x0, .int .i64 x1] 23)).alloc (.cells #[.int .i64 s0, .string (bs u0), .string (bs v0), .string (bs g0), .int .i64 a0, .int .i64 s1, .string (bs u1), .string (bs v1), .string (bs g1), .int .i64 a1] 26)) := ((Below.refl _ _).alloc (Nat.le_refl _) _).alloc (by simp) _
  have hX : Holds ((w.alloc (.cells #[.int .i64 x0, .int .i64 x1] 23)).alloc (.cells #[.int .i64 s0, .string (bs u0), .string (bs v0), .string (bs g0), .int .i64 a0, .int .i64 s1, .string (bs u1), .string (bs v1), .string (bs g1), .int .i64 a1] 26)) w.heap.size 23 #[.int .i64 x0, .int .i64 x1] := (Holds.new w 23 _).moves ((Moves.refl nobody _).alloc _) (fun h => h)
  have hY : Holds ((w.alloc (.cells #[.int .i64 x0, .int .i64 x1] 23)).alloc (.cells #[.int .i64 s0, .string (bs u0), .string (bs v0), .string (bs g0), .int .i64 a0, .int .i64 s1, .string (bs u1), .string (bs v1), .string (bs g1), .int .i64 a1] 26)) (w.heap.size + 1) 26 #[.int .i64 s0, .string (bs u0), .string (bs v0), .string (bs g0), .int .i64 a0, .int .i64 s1, .string (bs u1), .string (bs v1), .string (bs g1), .int .i64 a1] := by
    have := Holds.new (w.alloc (.cells #[.int .i64 x0, .int .i64 x1] 23)) 26 #[.int .i64 s0, .string (bs u0), .string (bs v0), .string (bs g0), .int .i64 a0, .int .i64 s1, .string (bs u1), .string (bs v1), .string (bs g1), .int .i64 a1]
    rwa [World.size_alloc] at this
  obtain ⟨W0, hW0⟩ : ∃ W0, Hid (W0 = (w.alloc (.cells #[.int .i64 x0, .int .i64 x1] 23)).alloc (.cells #[.int .i64 s0, .string (bs u0), .string (bs v0), .string (bs g0), .int .i64 a0, .int .i64 s1, .string (bs u1), .string (bs v1), .string (bs g1), .int .i64 a1] 26)) := ⟨_, Lib.hid rfl⟩
  rw [← hW0.out] at b0 hX hY
  have hM0 := makes_below22 hM b0
  have HFw := few_any hM0 20 (fun x hx => by have := hs x hx; omega) (by omega)
  rw [hfew] at HFw
  have HFw := Lib.hid HFw
  have e0 := bs_size u0
  have e1 := bs_size v0
  have e2 := bs_size g0
  have e3 := bs_size u1
  have e4 := bs_size v1
  have e5 := bs_size g1
  have HF0 : Hid (∀ W, Calls Tryz.prog 7 #[.agg #[.int .i64 s0, .string (bs u0), .string (bs v0), .string (bs g0), .int .i64 a0]] W fun e w' => e = .returned (.bool true) ∧ Below W.heap.size W w') := fun W => few22_any s0 a0 (bs u0) (bs v0) (bs g0) true true true (decide_eq_true (by omega)) (decide_eq_true (by omega)) (decide_eq_true (by omega)) (by omega) (by omega) (by omega) W
  have HF1 : Hid (∀ W, Calls Tryz.prog 7 #[.agg #[.int .i64 s1, .string (bs u1), .string (bs v1), .string (bs g1), .int .i64 a1]] W fun e w' => e = .returned (.bool true) ∧ Below W.heap.size W w') := fun W => few22_any s1 a1 (bs u1) (bs v1) (bs g1) true true true (decide_eq_true (by omega)) (decide_eq_true (by omega)) (decide_eq_true (by omega)) (by omega) (by omega) (by omega) W
  have HN : Hid (∀ W, Below W0.heap.size W0 W → Calls Tryz.prog 9 #[] W fun e w' => ∃ A, e = .returned (.pointer (some ⟨A, 0, none⟩)) ∧ Ta W0.heap.size W0 A [] 0 w') := fun W hb => (taNew W).mono fun e w' ⟨A, h1, h2⟩ => ⟨A, h1, ta_down22 hb h2⟩
  have HMk : Hid (∀ (A : Nat) (W : World), Ta W0.heap.size W0 A [] 0 W → Calls Tryz.prog 10 #[.pointer (some ⟨A, 0, none⟩), v] W fun e w' => ∃ (ids : List Int) (texts : List (List UInt8)) (ai : Option Addr) (ci : Nat) (at' : Option Addr) (ct : Nat), e = .returned (.agg #[.slice ai l.length ci, .slice at' l.length ct]) ∧
      (ids.length = l.length ∧ texts.length = l.length) ∧ IdsAt w' (.slice ai l.length ci) ids ∧ TextsAt w' (.slice at' l.length ct) (texts.map bs) ∧ Ta W0.heap.size W0 A (ids.zip texts) l.length w' ∧ ((∀ k, (Value.slice ai l.length ci).ownBlock = some k → ∃ cur, Holds w' k 37 cur) ∧ ∀ k, (Value.slice at' l.length ct).ownBlock = some k → ∃ cur, Holds w' k 9 cur)) := fun A W h => taMakesR22 hM0 (Below.refl _ _) (Nat.le_refl _) h (by omega) (fun x hx => by have := hs x hx; omega)
  have HAw : Hid (∀ W, Below W0.heap.size W0 W → Calls Tryz.prog 8 #[] W fun e w' => e = .returned (.bool true) ∧ Below W.heap.size W w') := fun W hb => awake22_any W (hg.later (b0.trans (hb.mono b0.size)))
  have HTd : Hid (∀ (W : World) (c : Nat) (v : Value), Below W0.heap.size W0 W → ToldAt W c userS 12 v → Calls Tryz.prog 20 #[v, .int .i64 12, .string ⟨#[117, 115, 101, 114]⟩, .string (partS c)] W fun r w' => r = .returned (.bool true) ∧ Below W.heap.size W w') := fun W c v hb hv => told22_any (hg.later (b0.trans (hb.mono b0.size))) hv (by decide)
  obtain ⟨ao0, cap0, rfl, _⟩ := id hM0
  have HC : Hid (∀ W, Below W0.heap.size W0 W → (W.cell? ⟨w.heap.size + 1, 0, none⟩ = some (.int .i64 s0) ∧ W.cell? ⟨w.heap.size + 1, 1, none⟩ = some (.string (bs u0)) ∧ W.cell? ⟨w.heap.size + 1, 2, none⟩ = some (.string (bs v0)) ∧ W.cell? ⟨w.heap.size + 1, 3, none⟩ = some (.string (bs g0)) ∧ W.cell? ⟨w.heap.size + 1, 4, none⟩ = some (.int .i64 a0) ∧ W.cell? ⟨w.heap.size + 1, 5, none⟩ = some (.int .i64 s1) ∧ W.cell? ⟨w.heap.size + 1, 6, none⟩ = some (.string (bs u1)) ∧ W.cell? ⟨w.heap.size + 1, 7, none⟩ = some (.string (bs v1)) ∧ W.cell? ⟨w.heap.size + 1, 8, none⟩ = some (.string (bs g1)) ∧ W.cell? ⟨w.heap.size + 1, 9, none⟩ = some (.int .i64 a1))) := fun W hb => by
    have h := (Kept.ofBelow hb).hold _ _ _ (by decide) (by decide) hY
    exact ⟨h.cell 0, h.cell 1, h.cell 2, h.cell 3, h.cell 4, h.cell 5, h.cell 6, h.cell 7, h.cell 8, h.cell 9⟩
  have HX := Lib.hid hX
  have HY := Lib.hid hY
  have HB0 := Lib.hid b0
  have BR0 : Hid (Below W0.heap.size W0 W0) := Below.refl _ _
  obtain ⟨y0, y1, y2, y3, y4, y5, y6, y7, y8, y9⟩ := HC.out W0 BR0.out
  clear hM hM0 hs hfew hg hX hY b0 e0 e1 e2 e3 e4 e5
  go_enter Tryz.func3, Tryz.ntmps3
  go_upto_region 5 with (first
    | (go_at_call 6; rw [← hW0.out]; (with_reducible refine HFw.out.mono ?_); rintro e w' ⟨rfl, hw⟩; have hw := hw.symm; subst hw)
    | (go_at_call 7; (with_reducible refine (HF0.out _).mono ?_); rintro e w3 ⟨rfl, b3⟩; obtain ⟨c0, c1, c2, c3, c4, c5, c6, c7, c8, c9⟩ := HC.out _ b3)
    | (go_at_call 7; (with_reducible refine (HF1.out _).mono ?_); rintro e w4 ⟨rfl, b4⟩; have B4 := b3.trans (b4.mono b3.size))
    | (go_at_call 9; (with_reducible refine (HN.out _ B4).mono ?_); rintro e w1 ⟨A, rfl, t1⟩)
    | (go_at_call 10; (with_reducible refine (HMk.out _ _ t1).mono ?_); rintro e w2 ⟨ids, texts, ai, ci, at', ct, rfl, hln, hI, hT, t2, hR1, hR2⟩))
  obtain ⟨W3, hW3⟩ : ∃ W3, W3 = w2.alloc (.cells #[.slice ai l.length ci, .slice at' l.length ct] 35) := ⟨_, rfl⟩
  rw [← hW3]
  obtain ⟨hBx, hPk⟩ := made_box22 hW3 hI hT hln (by omega)
  have hPkK : ∀ (i : Int) (W : World), Kept W3 W → Calls Tryz.prog 11 #[.agg #[.slice ai l.length ci, .slice at' l.length ct], .int .i64 i] W fun e w' => e = .returned (.tuple #[.int .i64 (pickP ids texts i).1, .string (bs (pickP ids texts i).2)]) ∧ Below W.heap.size W w' := fun i W hb => by
    have hb0 : Kept w2 W := (Kept.ofBelow (by rw [hW3]; exact (Below.refl _ _).alloc (Nat.le_refl _) _)).trans hb
    exact Pick_any (ids_kept22 hI hR1 hb0) (texts_kept22 hT hR2 hb0) (by omega) (by omega) i
  have tt3 : Ta W0.heap.size W0 A (ids.zip texts) l.length W3 := by rw [hW3]; exact t2.alloc _
  have hX3 : Holds W3 w.heap.size 23 #[.int .i64 x0, .int .i64 x1] := (tt3.bel.block _ HX.out.lt).trans HX.out
  have hY3 : Holds W3 (w.heap.size + 1) 26 #[.int .i64 s0, .string (bs u0), .string (bs v0), .string (bs g0), .int .i64 a0, .int .i64 s1, .string (bs u1), .string (bs v1), .string (bs g1), .int .i64 a1] := (tt3.bel.block _ HY.out.lt).trans HY.out
  have hln' : ids.length = texts.length := by omega
  have hp0 := pick_in hln' x0
  have hp1 := pick_in hln' x1
  have hp2 := pick_in hln' s0
  have hp3 := pick_in hln' s1
  have hP0 := hPk x0
  have hP1 := hPk x1
  have hP2 := hPk s0
  have hP2k := hPkK s0
  have hP3k := hPkK s1
  generalize pickP ids texts x0 = p0 at *
  generalize pickP ids texts x1 = p1 at *
  generalize pickP ids texts s0 = p2 at *
  generalize pickP ids texts s1 = p3 at *
  obtain ⟨ik, sk⟩ := p0
  obtain ⟨ig, sg⟩ := p1
  obtain ⟨i0, t0⟩ := p2
  obtain ⟨i1, t1'⟩ := p3
  simp only at hP0 hP1 hP2 hP2k hP3k
  have t4 : Ta W0.heap.size W0 A [(i1, t1'), (i0, t0), (ig, sg), (ik, sk)] 20 W3 := ((((tt3.cons hp0).cons (hp1.imp_left fun h => List.mem_cons_of_mem _ h)).cons (hp2.imp_left fun h => List.mem_cons_of_mem _ (List.mem_cons_of_mem _ h))).cons (hp3.imp_left fun h => List.mem_cons_of_mem _ (List.mem_cons_of_mem _ (List.mem_cons_of_mem _ h)))).mono (by omega) (fun p hp => by
    simp only [List.mem_cons, List.not_mem_nil, or_false] at hp
    rcases hp with rfl | rfl | rfl | rfl
    · exact .head _
    · exact .tail _ (.head _)
    · exact .tail _ (.tail _ (.head _))
    · exact .tail _ (.tail _ (.tail _ (.head _))))
  generalize w2.heap.size = N at *
  have HBX : Hid (∀ W, Kept W3 W → W.cell? ⟨w.heap.size, 0, none⟩ = some (.int .i64 x0) ∧ W.cell? ⟨w.heap.size, 1, none⟩ = some (.int .i64 x1) ∧ W.cell? ⟨w.heap.size + 1, 0, none⟩ = some (.int .i64 s0) ∧ Holds W N 35 #[.slice ai l.length ci, .slice at' l.length ct]) := fun W hk => by
    have h := hk.hold _ _ _ (by decide) (by decide) hX3
    have h2 := hk.hold _ _ _ (by decide) (by decide) hY3
    exact ⟨h.cell 0, h.cell 1, h2.cell 0, hk.hold _ _ _ (by decide) (by decide) hBx⟩
  have HCY : Hid (∀ W, Kept W3 W → Holds W (w.heap.size + 1) 26 #[.int .i64 s0, .string (bs u0), .string (bs v0), .string (bs g0), .int .i64 a0, .int .i64 s1, .string (bs u1), .string (bs v1), .string (bs g1), .int .i64 a1] ∧ Holds W N 35 #[.slice ai l.length ci, .slice at' l.length ct]) := fun W hk => ⟨hk.hold _ _ _ (by decide) (by decide) hY3, hk.hold _ _ _ (by decide) (by decide) hBx⟩
  have HC2 : Hid (∀ W, Kept W3 W → W.cell? ⟨w.heap.size + 1, 1, none⟩ = some (.string (bs u0)) ∧ W.cell? ⟨w.heap.size + 1, 2, none⟩ = some (.string (bs v0)) ∧ W.cell? ⟨w.heap.size + 1, 3, none⟩ = some (.string (bs g0)) ∧ W.cell? ⟨w.heap.size + 1, 4, none⟩ = some (.int .i64 a0)) := fun W hk => by
    have h2 := hk.hold _ _ _ (by decide) (by decide) hY3
    exact ⟨h2.cell 1, h2.cell 2, h2.cell 3, h2.cell 4⟩
  have HP0 := Lib.hid hP0
  have HP1 := Lib.hid hP1
  have HP2 := Lib.hid hP2
  have HP2k := Lib.hid hP2k
  have HP3k := Lib.hid hP3k
  have ls0 := t4.short (i := ik) (.tail _ (.tail _ (.tail _ (.head _))))
  have ls1 := t4.short (i := ig) (.tail _ (.tail _ (.head _)))
  have ls2 := t4.short (i := i0) (.tail _ (.head _))
  have ls3 := t4.short (i := i1) (.head _)
  have hpk := t4.pubOk (i := ik) (.tail _ (.tail _ (.tail _ (.head _))))
  have T4 := Lib.hid t4
  clear hW3 hI hT hln hln' t1 t2 tt3 t4 hp0 hp1 hp2 hp3 hPk hBx hX3 hY3 HX HY HMk HN HFw hP0 hP1 hP2 hP2k hP3k hPkK hR1 hR2 y0 y1 y2 y3 y4 y5 y6 y7 y8 y9 c0 c1 c2 c3 c4 c5 c6 c7 c8 c9 HC HF0 HF1 b3 b4 B4
  obtain ⟨y0, y1, y2, hz⟩ := HBX.out W3 (Kept.refl _)
  go_upto_region 8 with (first
    | (go_at_call 11; (with_reducible refine (HP0.out _ (Below.refl _ _)).mono ?_); rintro e w4 ⟨rfl, b4⟩; obtain ⟨f0, f1, f2, hz4⟩ := HBX.out w4 (Kept.ofBelow b4))
    | (go_at_call 11; (with_reducible refine (HP1.out _ b4).mono ?_); rintro e w5 ⟨rfl, b5⟩; have b5 := b4.trans (b5.mono b4.size); obtain ⟨h0, h1, h2, hz5⟩ := HBX.out w5 (Kept.ofBelow b5))
    | (go_at_call 11; (with_reducible refine (HP2.out _ b5).mono ?_); rintro e w6 ⟨rfl, b6⟩; have b6 := b5.trans (b6.mono b5.size); have K6 := Kept.ofBelow b6; have t6 := T4.out.below b6)
    | (refine wpList_load_row rfl 35 _ rfl N rfl 35 _ (0, 0) _ hz5 Tryz.underlying35 rfl sizeMade22 ?_)
    | (refine wpList_load_row rfl 35 _ rfl N rfl 35 _ (0, 0) _ hz4 Tryz.underlying35 rfl sizeMade22 ?_)
    | (refine wpList_load_row rfl 35 _ rfl N rfl 35 _ (0, 0) _ hz Tryz.underlying35 rfl sizeMade22 ?_))
  have HUs : Hid (∀ W, Ta W0.heap.size W0 A [(i1, t1'), (i0, t0), (ig, sg), (ik, sk)] 20 W → Calls Tryz.prog 12 #[.pointer (some ⟨A, 0, none⟩), .int .i64 i0, .string (bs u0), .string (bs v0), .string (bs g0), .int .i64 a0] W (TaPost W0.heap.size W0 A [(i1, t1'), (i0, t0), (ig, sg), (ik, sk)] 30 W (userL t0 u0 v0 g0 a0))) := fun W h => snUser_any h (by omega) u0 v0 g0 (by omega) (by omega) (by omega) a0 (.tail _ (.head _))
  have HRU : Hid (∀ W, Calls Tryz.prog 13 #[.string (bs t0), .string (bs u0), .string (bs v0), .string (bs g0), .int .i64 a0] W fun e w' => e = .returned (.string (bs (userL t0 u0 v0 g0 a0))) ∧ Below W.heap.size W w') := fun W => r22User_any t0 u0 v0 g0 a0 (by omega) (by omega) (by omega) (by omega) W
  have HE : Hid (∀ (o : Int) W, Ta W0.heap.size W0 A [(o, userL t0 u0 v0 g0 a0), (i1, t1'), (i0, t0), (ig, sg), (ik, sk)] 30 W → Calls Tryz.prog 14 #[.pointer (some ⟨A, 0, none⟩), .int .i64 o] W fun r w' => r = .returned (.string (bs (userL t0 u0 v0 g0 a0))) ∧ Below W.heap.size W w') := fun o W h => taEncode h (.head _)
  have HRq : Hid (∀ (o : Int) W, Ta W0.heap.size W0 A [(o, userL t0 u0 v0 g0 a0), (i1, t1'), (i0, t0), (ig, sg), (ik, sk)] 30 W → Calls Tryz.prog 15 #[.pointer (some ⟨A, 0, none⟩), .int .i64 i0, .string (bs u0), .string (bs v0), .string (bs g0), .int .i64 ik] W (TaPost W0.heap.size W0 A [(o, userL t0 u0 v0 g0 a0), (i1, t1'), (i0, t0), (ig, sg), (ik, sk)] 37 W (reqL t0 u0 v0 g0 sk))) := fun o W h => snRequest_any h (by omega) u0 v0 g0 (by omega) (by omega) (by omega) (.tail _ (.tail _ (.head _))) (.tail _ (.tail _ (.tail _ (.tail _ (.head _)))))
  have HE2 : Hid (∀ (q o : Int) W, Ta W0.heap.size W0 A [(q, reqL t0 u0 v0 g0 sk), (o, userL t0 u0 v0 g0 a0), (i1, t1'), (i0, t0), (ig, sg), (ik, sk)] 37 W → Calls Tryz.prog 14 #[.pointer (some ⟨A, 0, none⟩), .int .i64 q] W fun r w' => r = .returned (.string (bs (reqL t0 u0 v0 g0 sk))) ∧ Below W.heap.size W w') := fun q o W h => taEncode h (.head _)
  have HRR : Hid (∀ W, Calls Tryz.prog 16 #[.string (bs t0), .string (bs u0), .string (bs v0), .string (bs g0), .string (bs sk)] W fun e w' => e = .returned (.string (bs (reqL t0 u0 v0 g0 sk))) ∧ Below W.heap.size W w') := fun W => r22Request_any t0 u0 v0 g0 sk (by omega) (by omega) (by omega) (by omega) (by omega) W
  generalize userL t0 u0 v0 g0 a0 = OW at *
  generalize reqL t0 u0 v0 g0 sk = RQ at *
  have K7 : Kept W3 w6.drew := K6.trans (Kept.ofBelow (Below.refl _ _).drew)
  have t7 := t6.drew
  obtain ⟨c0, c1, c2, c3⟩ := HC2.out _ K7
  clear hz y0 y1 y2 HP0 HP1 HBX b4 b5 b6 K6 t6 hz4 f0 f1 f2 h0 h1 h2 hz5
  go_region_held3 (fun W => W.cell? ⟨w.heap.size + 1, 1, none⟩ = some (.string (bs u0)) ∧ W.cell? ⟨w.heap.size + 1, 2, none⟩ = some (.string (bs v0)) ∧ W.cell? ⟨w.heap.size + 1, 3, none⟩ = some (.string (bs g0)) ∧ W.cell? ⟨w.heap.size + 1, 4, none⟩ = some (.int .i64 a0))
    (first | with_reducible exact HC2.out _ K7 | with_reducible exact HC2.out _ K8 | with_reducible exact HC2.out _ K9 | go_keep)
    (first
      | (go_at_call 12; (with_reducible refine (HUs.out _ t7).mono ?_); rintro e w8 ⟨o, rfl, t8, k8⟩; have K8 := K7.trans k8; obtain ⟨d0, d1, d2, d3⟩ := HC2.out _ K8)
      | (go_at_call 13; (with_reducible refine (HRU.out _).mono ?_); rintro e w9 ⟨rfl, b9⟩; have t9 := t8.below b9; have K9 := K8.trans (Kept.ofBelow b9); obtain ⟨e0, e1, e2, e3⟩ := HC2.out _ K9))
  go_upto_region 9 with fail
  obtain ⟨z1, z2⟩ := eq_list OW
  obtain ⟨z3, z4⟩ := eq_list RQ
  have K9d := K9.trans (Kept.ofBelow (Below.refl _ _).drew)
  have t9d := t9.drew
  obtain ⟨f0, f1, f2, f3⟩ := HC2.out _ K9d
  clear t7 t8 K7 K8 k8 b9 HUs HRU c0 c1 c2 c3 d0 d1 d2 d3
  go_region_held3 (fun W => W.cell? ⟨w.heap.size + 1, 1, none⟩ = some (.string (bs u0)) ∧ W.cell? ⟨w.heap.size + 1, 2, none⟩ = some (.string (bs v0)) ∧ W.cell? ⟨w.heap.size + 1, 3, none⟩ = some (.string (bs g0)) ∧ W.cell? ⟨w.heap.size + 1, 4, none⟩ = some (.int .i64 a0))
    (first | with_reducible exact HC2.out _ K9d | with_reducible exact HC2.out _ K10 | with_reducible exact HC2.out _ K11 | with_reducible exact HC2.out _ K12 | with_reducible exact HC2.out _ K13 | go_keep)
    (first
      | (go_at_call 14; (with_reducible refine (HE.out _ _ t9d).mono ?_); rintro e w10 ⟨rfl, b10⟩; have t10 := t9d.below b10; have K10 := K9d.trans (Kept.ofBelow b10); obtain ⟨h0, h1, h2, h3⟩ := HC2.out _ K10)
      | (go_at_call 15; (with_reducible refine (HRq.out _ _ t10).mono ?_); rintro e w11 ⟨q, rfl, t11, k11⟩; have K11 := K10.trans k11; obtain ⟨j0, j1, j2, j3⟩ := HC2.out _ K11)
      | (go_at_call 14; (with_reducible refine (HE2.out _ _ _ t11).mono ?_); rintro e w12 ⟨rfl, b12⟩; have t12 := t11.below b12; have K12 := K11.trans (Kept.ofBelow b12); obtain ⟨l0, l1, l2, l3⟩ := HC2.out _ K12)
      | (go_at_call 16; (with_reducible refine (HRR.out _).mono ?_); rintro e w13 ⟨rfl, b13⟩; have t13 := t12.below b13; have K13 := K12.trans (Kept.ofBelow b13); obtain ⟨m0, m1, m2, m3⟩ := HC2.out _ K13))
  have t14 : Ta W0.heap.size W0 A [(o, OW), (i1, t1'), (i0, t0), (ig, sg), (ik, sk)] 37 w13 := t13.mono (Nat.le_refl _) (fun x hx => .tail _ hx)
  have T14 := Lib.hid t14
  have K14 := Lib.hid K13
  have hOl : OW.length ≤ 131072 := t14.short (.head _)
  clear t9 t9d t10 t11 t12 t13 t14 K9 K9d K10 K11 K12 K13 k11 b10 b12 b13 HE HE2 HRq HRR HC2 T4 z1 z2 z3 z4 e0 e1 e2 e3 f0 f1 f2 f3 h0 h1 h2 h3 j0 j1 j2 j3 l0 l1 l2 l3 m0 m1 m2 m3 HP2
  go_wp2_with fail
  go_loopw [17] (fun i wr => ∃ k : Nat, k ≤ 2 ∧ i = .int .i64 (k : Int) ∧ Ta W0.heap.size W0 A [(o, OW), (i1, t1'), (i0, t0), (ig, sg), (ik, sk)] (37 + 22 * k) wr ∧ Kept W3 wr) (fun i _ => 2 - (intOf i).toNat)
  case atStart => exact ⟨0, by omega, rfl, T14.out, K14.out⟩
  case round =>
    obtain ⟨k, hk, rfl, hta, hkp⟩ := hrel
    have hc : k = 0 ∨ k = 1 ∨ k = 2 := by omega
    rcases hc with rfl | rfl | rfl
    · have HK : Hid (∀ W, Ta W0.heap.size W0 A [(o, OW), (i1, t1'), (i0, t0), (ig, sg), (ik, sk)] 37 W → Calls Tryz.prog 18 #[.pointer (some ⟨A, 0, none⟩), .int .i64 a0] W (TaPost W0.heap.size W0 A [(o, OW), (i1, t1'), (i0, t0), (ig, sg), (ik, sk)] 38 W (refKeyL a0))) := fun W h => taKey h (by omega) a0
      have HPb : Hid (∀ (q : Int) W, Ta W0.heap.size W0 A ((q, refKeyL a0) :: [(o, OW), (i1, t1'), (i0, t0), (ig, sg), (ik, sk)]) 38 W → Calls Tryz.prog 17 #[.pointer (some ⟨A, 0, none⟩), .int .i64 q] W (TaPost W0.heap.size W0 A ((q, refKeyL a0) :: [(o, OW), (i1, t1'), (i0, t0), (ig, sg), (ik, sk)]) 39 W (pubL a0))) := fun q W h => taPub h (by omega) (.head _)
      have HRP := Lib.hid (fun W => r22Pub_any a0 W)
      have HC1 : Hid (∀ (p q : Int) W, Ta W0.heap.size W0 A ((p, pubL a0) :: (q, refKeyL a0) :: [(o, OW), (i1, t1'), (i0, t0), (ig, sg), (ik, sk)]) 39 W → Calls Tryz.prog 21 #[.pointer (some ⟨A, 0, none⟩), .int .i64 i0, .string (bs u0), .string (bs v0), .string (bs g0), .int .i64 ik, .int .i64 ig] W fun e w' => ∃ x, e = .returned x ∧ ToldAt w' (userC t0 u0 v0 g0 sk sg) userS 12 x ∧ Ta W0.heap.size W0 A ((p, pubL a0) :: (q, refKeyL a0) :: [(o, OW), (i1, t1'), (i0, t0), (ig, sg), (ik, sk)]) 49 w' ∧ Kept W w') := fun p q W h => snCheckUser_any h (by omega) u0 v0 g0 (by omega) (by omega) (by omega) (.tail _ (.tail _ (.tail _ (.tail _ (.head _))))) (.tail _ (.tail _ (.tail _ (.tail _ (.tail _ (.tail _ (.head _))))))) (.tail _ (.tail _ (.tail _ (.tail _ (.tail _ (.head _))))))
      have HR1 : Hid (∀ W, Calls Tryz.prog 22 #[.string (bs t0), .string (bs u0), .string (bs v0), .string (bs g0), .string (bs sk), .string (bs sg)] W fun e w' => e = .returned (.string (partS (userC t0 u0 v0 g0 sk sg))) ∧ Below W.heap.size W w') := fun W => r22CheckUser_any t0 u0 v0 g0 sk sg hpk (by omega) (by omega) (by omega) (by omega) W
      have HC3 : Hid (∀ (p q : Int) W, Ta W0.heap.size W0 A ((p, pubL a0) :: (q, refKeyL a0) :: [(o, OW), (i1, t1'), (i0, t0), (ig, sg), (ik, sk)]) 49 W → Calls Tryz.prog 21 #[.pointer (some ⟨A, 0, none⟩), .int .i64 i0, .string (bs u0), .string (bs v0), .string (bs g0), .int .i64 p, .int .i64 o] W fun e w' => ∃ x, e = .returned x ∧ ToldAt w' (userC t0 u0 v0 g0 (pubL a0) OW) userS 12 x ∧ Ta W0.heap.size W0 A ((p, pubL a0) :: (q, refKeyL a0) :: [(o, OW), (i1, t1'), (i0, t0), (ig, sg), (ik, sk)]) 59 w' ∧ Kept W w') := fun p q W h => snCheckUser_any h (by omega) u0 v0 g0 (by omega) (by omega) (by omega) (.tail _ (.tail _ (.tail _ (.tail _ (.head _))))) (.head _) (.tail _ (.tail _ (.head _)))
      have HR3 : Hid (∀ W, Calls Tryz.prog 22 #[.string (bs t0), .string (bs u0), .string (bs v0), .string (bs g0), .string (bs (pubL a0)), .string (bs OW)] W fun e w' => e = .returned (.string (partS (userC t0 u0 v0 g0 (pubL a0) OW))) ∧ Below W.heap.size W w') := fun W => r22CheckUser_any t0 u0 v0 g0 (pubL a0) OW (pubOk_pub a0) (by omega) (by omega) (by omega) (by omega) W
      have HDn : Hid (∀ (p q : Int) W, Ta W0.heap.size W0 A ((p, pubL a0) :: (q, refKeyL a0) :: [(o, OW), (i1, t1'), (i0, t0), (ig, sg), (ik, sk)]) 59 W → Ta W0.heap.size W0 A [(o, OW), (i1, t1'), (i0, t0), (ig, sg), (ik, sk)] 59 W) := fun p q W h => h.mono (Nat.le_refl _) (fun x hx => .tail _ (.tail _ hx))
      obtain ⟨hY9, _⟩ := HCY.out wr hkp
      have y0 := hY9.cell 0
      have y1 := hY9.cell 1
      have y2 := hY9.cell 2
      have y3 := hY9.cell 3
      have y4 := hY9.cell 4
      clear hY9
      generalize userC t0 u0 v0 g0 sk sg = CA at *
      generalize userC t0 u0 v0 g0 (pubL a0) OW = CB at *
      generalize pubL a0 = PW at *
      generalize refKeyL a0 = KW at *
      go_upto_region 15 with fail
      obtain ⟨Wz, hWz⟩ : ∃ Wz, Wz = wr.alloc (.cells #[.int .i64 s0, .string (bs u0), .string (bs v0), .string (bs g0), .int .i64 a0] 25) := ⟨_, rfl⟩
      rw [← hWz]
      have hZ : Holds Wz wr.heap.size 25 #[.int .i64 s0, .string (bs u0), .string (bs v0), .string (bs g0), .int .i64 a0] := by rw [hWz]; exact Holds.new wr _ _
      have kz : Kept W3 Wz := by rw [hWz]; exact hkp.trans (Kept.ofBelow ((Below.refl _ _).alloc (Nat.le_refl _) _))
      have tz : Ta W0.heap.size W0 A [(o, OW), (i1, t1'), (i0, t0), (ig, sg), (ik, sk)] 37 Wz := by rw [hWz]; exact hta.alloc _
      generalize wr.heap.size = NZ at *
      have HCk : Hid (∀ W, Kept Wz W → W.cell? ⟨NZ, 1, none⟩ = some (.string (bs u0)) ∧ W.cell? ⟨NZ, 2, none⟩ = some (.string (bs v0)) ∧ W.cell? ⟨NZ, 3, none⟩ = some (.string (bs g0)) ∧ W.cell? ⟨NZ, 4, none⟩ = some (.int .i64 a0)) := fun W hk => by
        have h := hk.hold _ _ _ (by decide) (by decide) hZ
        exact ⟨h.cell 1, h.cell 2, h.cell 3, h.cell 4⟩
      have z0 := hZ.cell 0
      obtain ⟨_, hMz⟩ := HCY.out Wz kz
      have HPz := Lib.hid (HP2k.out Wz kz)
      clear hWz hZ hta hkp y0 y1 y2 y3 y4
      go_upto_region 16 with (first
        | (go_at_call 11; (with_reducible refine HPz.out.mono ?_); rintro e m0 ⟨rfl, b0⟩; have s0' := tz.below b0; have k0 := Kept.ofBelow b0)
        | (refine wpList_load_row rfl 35 _ rfl N rfl 35 _ (0, 0) _ hMz Tryz.underlying35 rfl sizeMade22 ?_))
      have kd := k0.trans (Kept.ofBelow (Below.refl m0.heap.size m0).drew)
      have td := s0'.drew
      obtain ⟨f0, f1, f2, f3⟩ := HCk.out _ kd
      go_region_held3 (fun W => W.cell? ⟨NZ, 1, none⟩ = some (.string (bs u0)) ∧ W.cell? ⟨NZ, 2, none⟩ = some (.string (bs v0)) ∧ W.cell? ⟨NZ, 3, none⟩ = some (.string (bs g0)) ∧ W.cell? ⟨NZ, 4, none⟩ = some (.int .i64 a0))
        (first | with_reducible exact HCk.out _ kd | with_reducible exact HCk.out _ k1 | with_reducible exact HCk.out _ k2 | with_reducible exact HCk.out _ k3 | go_keep)
        (first
          | (go_at_call 18; (with_reducible refine (HK.out _ td).mono ?_); rintro e m1 ⟨q, rfl, s1', j1⟩; have k1 := kd.trans j1; obtain ⟨r0, r1, r2, r3⟩ := HCk.out _ k1)
          | (go_at_call 17; (with_reducible refine (HPb.out _ _ s1').mono ?_); rintro e m2 ⟨p, rfl, s2, j2⟩; have k2 := k1.trans j2; obtain ⟨r4, r5, r6, r7⟩ := HCk.out _ k2)
          | (go_at_call 19; (with_reducible refine (HRP.out _).mono ?_); rintro e m3 ⟨rfl, b3⟩; have s3 := s2.below b3; have k3 := k2.trans (Kept.ofBelow b3); obtain ⟨r8, r9, r10, r11⟩ := HCk.out _ k3))
      have k3d := k3.trans (Kept.ofBelow (Below.refl _ _).drew)
      have s3d := s3.drew
      obtain ⟨x0', x1', x2', x3'⟩ := HCk.out _ k3d
      clear f0 f1 f2 f3 r0 r1 r2 r3 r4 r5 r6 r7 r8 r9 r10 r11 s1' s2 j1 j2 td z0 hMz
      go_upto_region 17 with fail
      go_region_held3 (fun W => W.cell? ⟨NZ, 1, none⟩ = some (.string (bs u0)) ∧ W.cell? ⟨NZ, 2, none⟩ = some (.string (bs v0)) ∧ W.cell? ⟨NZ, 3, none⟩ = some (.string (bs g0)) ∧ W.cell? ⟨NZ, 4, none⟩ = some (.int .i64 a0))
        (first | with_reducible exact HCk.out _ k3d | with_reducible exact HCk.out _ k4 | with_reducible exact HCk.out _ k5 | with_reducible exact HCk.out _ k6 | go_keep)
        (first
          | (go_at_call 21; (with_reducible refine (HC1.out _ _ _ s3d).mono ?_); rintro e m4 ⟨v4, rfl, f4, s4, j4⟩; have k4 := k3d.trans j4; obtain ⟨r0, r1, r2, r3⟩ := HCk.out _ k4)
          | (go_at_call 22; (with_reducible refine (HR1.out _).mono ?_); rintro e m5 ⟨rfl, b5⟩; have s5 := s4.below b5; have k5 := k4.trans (Kept.ofBelow b5); have f5 := f4.kept (Kept.ofBelow b5); obtain ⟨r4, r5, r6, r7⟩ := HCk.out _ k5)
          | (go_at_call 20; (with_reducible refine (HTd.out _ _ _ s5.bel f5).mono ?_); rintro e m6 ⟨rfl, b6⟩; have s6 := s5.below b6; have k6 := k5.trans (Kept.ofBelow b6); obtain ⟨r8, r9, r10, r11⟩ := HCk.out _ k6))
      have k6d := k6.trans (Kept.ofBelow (Below.refl _ _).drew)
      have s6d := s6.drew
      obtain ⟨f0, f1, f2, f3⟩ := HCk.out _ k6d
      clear r0 r1 r2 r3 r4 r5 r6 r7 r8 r9 r10 r11 s3d s4 s5 x0' x1' x2' x3' f4 f5 j4
      go_upto_region 20 with fail
      go_region_held3 (fun W => W.cell? ⟨NZ, 1, none⟩ = some (.string (bs u0)) ∧ W.cell? ⟨NZ, 2, none⟩ = some (.string (bs v0)) ∧ W.cell? ⟨NZ, 3, none⟩ = some (.string (bs g0)) ∧ W.cell? ⟨NZ, 4, none⟩ = some (.int .i64 a0))
        (first | with_reducible exact HCk.out _ k6d | with_reducible exact HCk.out _ k7 | with_reducible exact HCk.out _ k8 | with_reducible exact HCk.out _ k9 | go_keep)
        (first
          | (go_at_call 21; (with_reducible refine (HC3.out _ _ _ s6d).mono ?_); rintro e m7 ⟨v7, rfl, f7, s7, j7⟩; have k7 := k6d.trans j7; obtain ⟨r0, r1, r2, r3⟩ := HCk.out _ k7)
          | (go_at_call 22; (with_reducible refine (HR3.out _).mono ?_); rintro e m8 ⟨rfl, b8⟩; have s8 := s7.below b8; have k8 := k7.trans (Kept.ofBelow b8); have f8 := f7.kept (Kept.ofBelow b8); obtain ⟨r4, r5, r6, r7⟩ := HCk.out _ k8)
          | (go_at_call 20; (with_reducible refine (HTd.out _ _ _ s8.bel f8).mono ?_); rintro e m9 ⟨rfl, b9⟩; have s9 := s8.below b9; have k9 := k8.trans (Kept.ofBelow b9); obtain ⟨r8, r9, r10, r11⟩ := HCk.out _ k9))
      go_wp2_with fail
      go_roundw
      case rel => exact ⟨1, by omega, by go_num, HDn.out _ _ _ s9, kz.trans k9⟩
      case measure => simp [intOf]
    · have HK : Hid (∀ W, Ta W0.heap.size W0 A [(o, OW), (i1, t1'), (i0, t0), (ig, sg), (ik, sk)] 59 W → Calls Tryz.prog 18 #[.pointer (some ⟨A, 0, none⟩), .int .i64 a1] W (TaPost W0.heap.size W0 A [(o, OW), (i1, t1'), (i0, t0), (ig, sg), (ik, sk)] 60 W (refKeyL a1))) := fun W h => taKey h (by omega) a1
      have HPb : Hid (∀ (q : Int) W, Ta W0.heap.size W0 A ((q, refKeyL a1) :: [(o, OW), (i1, t1'), (i0, t0), (ig, sg), (ik, sk)]) 60 W → Calls Tryz.prog 17 #[.pointer (some ⟨A, 0, none⟩), .int .i64 q] W (TaPost W0.heap.size W0 A ((q, refKeyL a1) :: [(o, OW), (i1, t1'), (i0, t0), (ig, sg), (ik, sk)]) 61 W (pubL a1))) := fun q W h => taPub h (by omega) (.head _)
      have HRP := Lib.hid (fun W => r22Pub_any a1 W)
      have HC1 : Hid (∀ (p q : Int) W, Ta W0.heap.size W0 A ((p, pubL a1) :: (q, refKeyL a1) :: [(o, OW), (i1, t1'), (i0, t0), (ig, sg), (ik, sk)]) 61 W → Calls Tryz.prog 21 #[.pointer (some ⟨A, 0, none⟩), .int .i64 i1, .string (bs u1), .string (bs v1), .string (bs g1), .int .i64 ik, .int .i64 ig] W fun e w' => ∃ x, e = .returned x ∧ ToldAt w' (userC t1' u1 v1 g1 sk sg) userS 12 x ∧ Ta W0.heap.size W0 A ((p, pubL a1) :: (q, refKeyL a1) :: [(o, OW), (i1, t1'), (i0, t0), (ig, sg), (ik, sk)]) 71 w' ∧ Kept W w') := fun p q W h => snCheckUser_any h (by omega) u1 v1 g1 (by omega) (by omega) (by omega) (.tail _ (.tail _ (.tail _ (.head _)))) (.tail _ (.tail _ (.tail _ (.tail _ (.tail _ (.tail _ (.head _))))))) (.tail _ (.tail _ (.tail _ (.tail _ (.tail _ (.head _))))))
      have HR1 : Hid (∀ W, Calls Tryz.prog 22 #[.string (bs t1'), .string (bs u1), .string (bs v1), .string (bs g1), .string (bs sk), .string (bs sg)] W fun e w' => e = .returned (.string (partS (userC t1' u1 v1 g1 sk sg))) ∧ Below W.heap.size W w') := fun W => r22CheckUser_any t1' u1 v1 g1 sk sg hpk (by omega) (by omega) (by omega) (by omega) W
      have HC3 : Hid (∀ (p q : Int) W, Ta W0.heap.size W0 A ((p, pubL a1) :: (q, refKeyL a1) :: [(o, OW), (i1, t1'), (i0, t0), (ig, sg), (ik, sk)]) 71 W → Calls Tryz.prog 21 #[.pointer (some ⟨A, 0, none⟩), .int .i64 i1, .string (bs u1), .string (bs v1), .string (bs g1), .int .i64 p, .int .i64 o] W fun e w' => ∃ x, e = .returned x ∧ ToldAt w' (userC t1' u1 v1 g1 (pubL a1) OW) userS 12 x ∧ Ta W0.heap.size W0 A ((p, pubL a1) :: (q, refKeyL a1) :: [(o, OW), (i1, t1'), (i0, t0), (ig, sg), (ik, sk)]) 81 w' ∧ Kept W w') := fun p q W h => snCheckUser_any h (by omega) u1 v1 g1 (by omega) (by omega) (by omega) (.tail _ (.tail _ (.tail _ (.head _)))) (.head _) (.tail _ (.tail _ (.head _)))
      have HR3 : Hid (∀ W, Calls Tryz.prog 22 #[.string (bs t1'), .string (bs u1), .string (bs v1), .string (bs g1), .string (bs (pubL a1)), .string (bs OW)] W fun e w' => e = .returned (.string (partS (userC t1' u1 v1 g1 (pubL a1) OW))) ∧ Below W.heap.size W w') := fun W => r22CheckUser_any t1' u1 v1 g1 (pubL a1) OW (pubOk_pub a1) (by omega) (by omega) (by omega) (by omega) W
      have HDn : Hid (∀ (p q : Int) W, Ta W0.heap.size W0 A ((p, pubL a1) :: (q, refKeyL a1) :: [(o, OW), (i1, t1'), (i0, t0), (ig, sg), (ik, sk)]) 81 W → Ta W0.heap.size W0 A [(o, OW), (i1, t1'), (i0, t0), (ig, sg), (ik, sk)] 81 W) := fun p q W h => h.mono (Nat.le_refl _) (fun x hx => .tail _ (.tail _ hx))
      obtain ⟨hY9, _⟩ := HCY.out wr hkp
      have y5 := hY9.cell 5
      have y6 := hY9.cell 6
      have y7 := hY9.cell 7
      have y8 := hY9.cell 8
      have y9 := hY9.cell 9
      clear hY9
      generalize userC t1' u1 v1 g1 sk sg = CA at *
      generalize userC t1' u1 v1 g1 (pubL a1) OW = CB at *
      generalize pubL a1 = PW at *
      generalize refKeyL a1 = KW at *
      go_upto_region 15 with fail
      obtain ⟨Wz, hWz⟩ : ∃ Wz, Wz = wr.alloc (.cells #[.int .i64 s1, .string (bs u1), .string (bs v1), .string (bs g1), .int .i64 a1] 25) := ⟨_, rfl⟩
      rw [← hWz]
      have hZ : Holds Wz wr.heap.size 25 #[.int .i64 s1, .string (bs u1), .string (bs v1), .string (bs g1), .int .i64 a1] := by rw [hWz]; exact Holds.new wr _ _
      have kz : Kept W3 Wz := by rw [hWz]; exact hkp.trans (Kept.ofBelow ((Below.refl _ _).alloc (Nat.le_refl _) _))
      have tz : Ta W0.heap.size W0 A [(o, OW), (i1, t1'), (i0, t0), (ig, sg), (ik, sk)] 59 Wz := by rw [hWz]; exact hta.alloc _
      generalize wr.heap.size = NZ at *
      have HCk : Hid (∀ W, Kept Wz W → W.cell? ⟨NZ, 1, none⟩ = some (.string (bs u1)) ∧ W.cell? ⟨NZ, 2, none⟩ = some (.string (bs v1)) ∧ W.cell? ⟨NZ, 3, none⟩ = some (.string (bs g1)) ∧ W.cell? ⟨NZ, 4, none⟩ = some (.int .i64 a1)) := fun W hk => by
        have h := hk.hold _ _ _ (by decide) (by decide) hZ
        exact ⟨h.cell 1, h.cell 2, h.cell 3, h.cell 4⟩
      have z0 := hZ.cell 0
      obtain ⟨_, hMz⟩ := HCY.out Wz kz
      have HPz := Lib.hid (HP3k.out Wz kz)
      clear hWz hZ hta hkp y5 y6 y7 y8 y9
      go_upto_region 16 with (first
        | (go_at_call 11; (with_reducible refine HPz.out.mono ?_); rintro e m0 ⟨rfl, b0⟩; have s0' := tz.below b0; have k0 := Kept.ofBelow b0)
        | (refine wpList_load_row rfl 35 _ rfl N rfl 35 _ (0, 0) _ hMz Tryz.underlying35 rfl sizeMade22 ?_))
      have kd := k0.trans (Kept.ofBelow (Below.refl m0.heap.size m0).drew)
      have td := s0'.drew
      obtain ⟨f0, f1, f2, f3⟩ := HCk.out _ kd
      go_region_held3 (fun W => W.cell? ⟨NZ, 1, none⟩ = some (.string (bs u1)) ∧ W.cell? ⟨NZ, 2, none⟩ = some (.string (bs v1)) ∧ W.cell? ⟨NZ, 3, none⟩ = some (.string (bs g1)) ∧ W.cell? ⟨NZ, 4, none⟩ = some (.int .i64 a1))
        (first | with_reducible exact HCk.out _ kd | with_reducible exact HCk.out _ k1 | with_reducible exact HCk.out _ k2 | with_reducible exact HCk.out _ k3 | go_keep)
        (first
          | (go_at_call 18; (with_reducible refine (HK.out _ td).mono ?_); rintro e m1 ⟨q, rfl, s1', j1⟩; have k1 := kd.trans j1; obtain ⟨r0, r1, r2, r3⟩ := HCk.out _ k1)
          | (go_at_call 17; (with_reducible refine (HPb.out _ _ s1').mono ?_); rintro e m2 ⟨p, rfl, s2, j2⟩; have k2 := k1.trans j2; obtain ⟨r4, r5, r6, r7⟩ := HCk.out _ k2)
          | (go_at_call 19; (with_reducible refine (HRP.out _).mono ?_); rintro e m3 ⟨rfl, b3⟩; have s3 := s2.below b3; have k3 := k2.trans (Kept.ofBelow b3); obtain ⟨r8, r9, r10, r11⟩ := HCk.out _ k3))
      have k3d := k3.trans (Kept.ofBelow (Below.refl _ _).drew)
      have s3d := s3.drew
      obtain ⟨x0', x1', x2', x3'⟩ := HCk.out _ k3d
      clear f0 f1 f2 f3 r0 r1 r2 r3 r4 r5 r6 r7 r8 r9 r10 r11 s1' s2 j1 j2 td z0 hMz
      go_upto_region 17 with fail
      go_region_held3 (fun W => W.cell? ⟨NZ, 1, none⟩ = some (.string (bs u1)) ∧ W.cell? ⟨NZ, 2, none⟩ = some (.string (bs v1)) ∧ W.cell? ⟨NZ, 3, none⟩ = some (.string (bs g1)) ∧ W.cell? ⟨NZ, 4, none⟩ = some (.int .i64 a1))
        (first | with_reducible exact HCk.out _ k3d | with_reducible exact HCk.out _ k4 | with_reducible exact HCk.out _ k5 | with_reducible exact HCk.out _ k6 | go_keep)
        (first
          | (go_at_call 21; (with_reducible refine (HC1.out _ _ _ s3d).mono ?_); rintro e m4 ⟨v4, rfl, f4, s4, j4⟩; have k4 := k3d.trans j4; obtain ⟨r0, r1, r2, r3⟩ := HCk.out _ k4)
          | (go_at_call 22; (with_reducible refine (HR1.out _).mono ?_); rintro e m5 ⟨rfl, b5⟩; have s5 := s4.below b5; have k5 := k4.trans (Kept.ofBelow b5); have f5 := f4.kept (Kept.ofBelow b5); obtain ⟨r4, r5, r6, r7⟩ := HCk.out _ k5)
          | (go_at_call 20; (with_reducible refine (HTd.out _ _ _ s5.bel f5).mono ?_); rintro e m6 ⟨rfl, b6⟩; have s6 := s5.below b6; have k6 := k5.trans (Kept.ofBelow b6); obtain ⟨r8, r9, r10, r11⟩ := HCk.out _ k6))
      have k6d := k6.trans (Kept.ofBelow (Below.refl _ _).drew)
      have s6d := s6.drew
      obtain ⟨f0, f1, f2, f3⟩ := HCk.out _ k6d
      clear r0 r1 r2 r3 r4 r5 r6 r7 r8 r9 r10 r11 s3d s4 s5 x0' x1' x2' x3' f4 f5 j4
      go_upto_region 20 with fail
      go_region_held3 (fun W => W.cell? ⟨NZ, 1, none⟩ = some (.string (bs u1)) ∧ W.cell? ⟨NZ, 2, none⟩ = some (.string (bs v1)) ∧ W.cell? ⟨NZ, 3, none⟩ = some (.string (bs g1)) ∧ W.cell? ⟨NZ, 4, none⟩ = some (.int .i64 a1))
        (first | with_reducible exact HCk.out _ k6d | with_reducible exact HCk.out _ k7 | with_reducible exact HCk.out _ k8 | with_reducible exact HCk.out _ k9 | go_keep)
        (first
          | (go_at_call 21; (with_reducible refine (HC3.out _ _ _ s6d).mono ?_); rintro e m7 ⟨v7, rfl, f7, s7, j7⟩; have k7 := k6d.trans j7; obtain ⟨r0, r1, r2, r3⟩ := HCk.out _ k7)
          | (go_at_call 22; (with_reducible refine (HR3.out _).mono ?_); rintro e m8 ⟨rfl, b8⟩; have s8 := s7.below b8; have k8 := k7.trans (Kept.ofBelow b8); have f8 := f7.kept (Kept.ofBelow b8); obtain ⟨r4, r5, r6, r7⟩ := HCk.out _ k8)
          | (go_at_call 20; (with_reducible refine (HTd.out _ _ _ s8.bel f8).mono ?_); rintro e m9 ⟨rfl, b9⟩; have s9 := s8.below b9; have k9 := k8.trans (Kept.ofBelow b9); obtain ⟨r8, r9, r10, r11⟩ := HCk.out _ k9))
      go_wp2_with fail
      go_roundw
      case rel => exact ⟨2, by omega, by go_num, HDn.out _ _ _ s9, kz.trans k9⟩
      case measure => simp [intOf]
    · have tF := Lib.hid hta
      clear hta hkp
      go_wp2_with (go_at_call 8; (with_reducible refine (HAw.out _ tF.out.bel).mono ?_); rintro e m1 ⟨rfl, b1⟩; have s1' := tF.out.below b1)
      go_ret
      exact ⟨rfl, HB0.out.trans (s1'.bel.mono HB0.out.size)⟩

end Go.Proofs.YtjlbifpbdocahaaGreatDoor
