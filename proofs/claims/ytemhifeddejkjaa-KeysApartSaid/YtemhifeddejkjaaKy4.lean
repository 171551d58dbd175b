/- Layer 21: the law KeysSix. -/
import Derived.Test.YtemhifeddejkjaaKy3
namespace Go.Proofs.Ytemhifeddejkjaa
open Go.RowKit

set_option maxRecDepth 100000 in
theorem sizeMadeK : (Try.prog.info? 31).map (·.size) = some 2 := by kernel_rfl
/-- The box of what the harness made, behind an alloc. -/
theorem made_boxK {w2 : World} {ai at' : Option Addr} {n ci ct : Nat} {ids : List Int} {texts : List (List UInt8)} {W3 : World} (hW : W3 = w2.alloc (.cells #[.slice ai n ci, .slice at' n ct] 31)) (hI : IdsAt w2 (.slice ai n ci) ids) (hT : TextsAt w2 (.slice at' n ct) (texts.map bs)) (hl : ids.length = n ∧ texts.length = n) (hn : n ≤ 1000000) :
    Holds W3 w2.heap.size 31 #[.slice ai n ci, .slice at' n ct] ∧ ∀ (i : Int) (W : World), Below W3.heap.size W3 W → Calls Try.prog 9 #[.agg #[.slice ai n ci, .slice at' n ct], .int .i64 i] W fun e w' => e = .returned (.tuple #[.int .i64 (pickP ids texts i).1, .string (bs (pickP ids texts i).2)]) ∧ Below W.heap.size W w' := by
  subst hW
  refine ⟨Holds.new w2 _ _, fun i W hb => ?_⟩
  have h0 : Below w2.heap.size w2 W := ((Below.refl _ _).alloc (Nat.le_refl _) _).trans (hb.mono (by rw [World.size_alloc]; omega))
  exact Pick_any (hI.below h0) (hT.below h0) (by omega) (by omega) i
theorem makes_belowK {w w' : World} {v : Value} {l : List MakeR} (hM : MakesAt w v l) (b0 : Below w.heap.size w w') : MakesAt w' v l := by
  obtain ⟨ao, cap, rfl, hc⟩ := hM
  refine ⟨ao, cap, rfl, fun hne => ?_⟩
  obtain ⟨b, off, e1, hb, h⟩ := hc hne
  refine ⟨b, off, e1, Nat.lt_of_lt_of_le hb b0.size, fun k x hk => ?_⟩
  obtain ⟨c0, c1, c2, c3, c4⟩ := h k x hk
  exact ⟨(b0.cell (p := ⟨b, off + k * 5, none⟩) hb).trans c0, (b0.cell (p := ⟨b, off + k * 5 + 1, none⟩) hb).trans c1, (b0.cell (p := ⟨b, off + k * 5 + 2, none⟩) hb).trans c2, (b0.cell (p := ⟨b, off + k * 5 + 3, none⟩) hb).trans c3, (b0.cell (p := ⟨b, off + k * 5 + 4, none⟩) hb).trans c4⟩
theorem six_get {k0 k1 k2 k3 k4 k5 : Int} {W : World} {N : Nat} (h : Holds W N 36 #[.int .i64 k0, .int .i64 k1, .int .i64 k2, .int .i64 k3, .int .i64 k4, .int .i64 k5]) {L : Nat} {k : Int} (hk : ([k0, k1, k2, k3, k4, k5] : List Int)[L]? = some k) : W.cell? ⟨N, L, none⟩ = some (.int .i64 k) := by
  rw [h.cell]
  match L, hk with
  | 0, hk => simp at hk; subst hk; rfl
  | 1, hk => simp at hk; subst hk; rfl
  | 2, hk => simp at hk; subst hk; rfl
  | 3, hk => simp at hk; subst hk; rfl
  | 4, hk => simp at hk; subst hk; rfl
  | 5, hk => simp at hk; subst hk; rfl
  | L + 6, hk => simp at hk
set_option maxHeartbeats 8000000 in
set_option maxRecDepth 100000 in
theorem KeysSix_small {w : World} {v : Value} {l : List MakeR} (hM : MakesAt w v l) (hl : l.length ≤ 20) (hs : ∀ x ∈ l, x.s.length ≤ 200) (x0 x1 x2 : Int) :
    Calls Try.prog 3 #[v, .agg #[.int .i64 x0, .int .i64 x1, .int .i64 x2]] w fun e w' => e = .returned (.bool true) ∧ Below w.heap.size w w' := by
  have hfew : fewP l 20 = true := decide_eq_true ⟨by omega, hs⟩
  have b0 : Below w.heap.size w (w.alloc (.cells #[.int .i64 x0, .int .i64 x1, .int .i64 x2] 23)) := (Below.refl _ _).alloc (Nat.le_refl _) _
  have hX := Holds.new w 23 #[.int .i64 x0, .int .i64 x1, .int .i64 x2]
  obtain ⟨W0, hW0⟩ : ∃ W0, Hid (W0 = w.alloc (.cells #[.int .i64 x0, .int .i64 x1, .int .i64 x2] 23)) := ⟨_, Lib.hid rfl⟩
  rw [← hW0.out] at b0 hX
  have hM0 := makes_belowK hM b0
  have HFw := few_any hM0 20 (fun x hx => by have := hs x hx; omega) (by omega)
  rw [hfew] at HFw
  have HF := Lib.hid HFw
  have HN := Lib.hid (taNew W0)
  have HMk : Hid (∀ (A : Nat) (W : World), Ta W0.heap.size W0 A [] 0 W → Calls Try.prog 8 #[.pointer (some ⟨A, 0, none⟩), v] W fun e w' => ∃ (ids : List Int) (texts : List (List UInt8)) (ai : Option Addr) (ci : Nat) (at' : Option Addr) (ct : Nat), e = .returned (.agg #[.slice ai l.length ci, .slice at' l.length ct]) ∧
      (ids.length = l.length ∧ texts.length = l.length) ∧ IdsAt w' (.slice ai l.length ci) ids ∧ TextsAt w' (.slice at' l.length ct) (texts.map bs) ∧ Ta W0.heap.size W0 A (ids.zip texts) l.length w') := fun A W h => taMakes hM0 (Below.refl _ _) (Nat.le_refl _) h (by omega) (fun x hx => by have := hs x hx; omega)
  obtain ⟨ao0, cap0, rfl, hcl⟩ := id hM0
  have HX := Lib.hid hX
  have HB0 := Lib.hid b0
  clear hM hM0 hs hfew hX b0 HFw hcl
  go_enter Try.func3, Try.ntmps3
  go_upto_region 5 with (first
    | (go_at_call 5; rw [← hW0.out]; (with_reducible refine HF.out.mono ?_); rintro e w' ⟨rfl, hw⟩; have hw := hw.symm; subst hw)
    | (go_at_call 7; (with_reducible refine HN.out.mono ?_); rintro e w1 ⟨A, rfl, t1⟩)
    | (go_at_call 8; (with_reducible refine (HMk.out _ _ t1).mono ?_); rintro e w2 ⟨ids, texts, ai, ci, at', ct, rfl, hln, hI, hT, t2⟩))
  obtain ⟨W3, hW3⟩ : ∃ W3, W3 = w2.alloc (.cells #[.slice ai l.length ci, .slice at' l.length ct] 31) := ⟨_, rfl⟩
  rw [← hW3]
  obtain ⟨hBx, hPk⟩ := made_boxK hW3 hI hT hln (by omega)
  have t3 : Ta W0.heap.size W0 A (ids.zip texts) l.length W3 := by rw [hW3]; exact t2.alloc _
  have hX3 : Holds W3 w.heap.size 23 #[.int .i64 x0, .int .i64 x1, .int .i64 x2] := (t3.bel.block _ HX.out.lt).trans HX.out
  have hln' : ids.length = texts.length := by omega
  have hp0 := pick_in hln' x0
  have hp1 := pick_in hln' x1
  have hp2 := pick_in hln' x2
  have hP0 := hPk x0
  have hP1 := hPk x1
  have hP2 := hPk x2
  generalize pickP ids texts x0 = p0 at *
  generalize pickP ids texts x1 = p1 at *
  generalize pickP ids texts x2 = p2 at *
  obtain ⟨i0, x⟩ := p0
  obtain ⟨i1, y⟩ := p1
  obtain ⟨i2, z⟩ := p2
  simp only at hP0 hP1 hP2
  have t4 : Ta W0.heap.size W0 A [(i2, z), (i1, y), (i0, x)] 20 W3 := (((t3.cons hp0).cons (hp1.imp_left fun h => .tail _ h)).cons (hp2.imp_left fun h => .tail _ (.tail _ h))).mono (by omega) (fun p hp => by
    simp only [List.mem_cons, List.not_mem_nil, or_false] at hp
    rcases hp with rfl | rfl | rfl
    · exact .head _
    · exact .tail _ (.head _)
    · exact .tail _ (.tail _ (.head _)))
  generalize w2.heap.size = N at *
  have HBX : Hid (∀ W, Below W3.heap.size W3 W → W.cell? ⟨w.heap.size, 0, none⟩ = some (.int .i64 x0) ∧ W.cell? ⟨w.heap.size, 1, none⟩ = some (.int .i64 x1) ∧ W.cell? ⟨w.heap.size, 2, none⟩ = some (.int .i64 x2) ∧ Holds W N 31 #[.slice ai l.length ci, .slice at' l.length ct]) := fun W hk => by
    have h := (Kept.ofBelow hk).hold _ _ _ (by decide) (by decide) hX3
    exact ⟨h.cell 0, h.cell 1, h.cell 2, (Kept.ofBelow hk).hold _ _ _ (by decide) (by decide) hBx⟩
  have HP0 := Lib.hid (hP0 W3 (Below.refl _ _))
  have HP1 := Lib.hid hP1
  have HP2 := Lib.hid hP2
  have gx := t4.short (.tail _ (.tail _ (.head _)))
  have gy := t4.short (.tail _ (.head _))
  have gz := t4.short (.head _)
  have HSx : Hid (∀ W, Ta W0.heap.size W0 A [(i2, z), (i1, y), (i0, x)] 20 W → Calls Try.prog 10 #[.pointer (some ⟨A, 0, none⟩), .int .i64 i0, .int .i64 i1, .int .i64 i2] W (SixPost W0.heap.size W0 A [(i2, z), (i1, y), (i0, x)] 20 W x y z)) := fun W h => kSix_any h (by omega) (.tail _ (.tail _ (.head _))) (.tail _ (.head _)) (.head _)
  have HE1 : Hid (∀ (k0 k1 k2 k3 k4 k5 : Int) (W : World), Ta W0.heap.size W0 A (sixP x y z [k0, k1, k2, k3, k4, k5] ++ [(i2, z), (i1, y), (i0, x)]) 26 W → ∀ (L : Nat) (k : Int), ([k0, k1, k2, k3, k4, k5] : List Int)[L]? = some k → Calls Try.prog 11 #[.pointer (some ⟨A, 0, none⟩), .int .i64 k] W fun r w' => r = .returned (.string (bs (refDeriveL (UInt8.ofNat (65 + L)) x y z))) ∧ Below W.heap.size W w') := fun k0 k1 k2 k3 k4 k5 W h L k hk => taEncode h (List.mem_append_left _ (sixP_mem hk))
  have HRK : Hid (∀ (L : Nat) (W : World), L ≤ 5 → Calls Try.prog 12 #[.int .u8 (65 + (L : Int)), .string (bs x), .string (bs y), .string (bs z)] W fun e w' => e = .returned (.string (bs (refDeriveL (UInt8.ofNat (65 + L)) x y z))) ∧ Below W.heap.size W w') := fun L W hL => by
    have h := r21Key_any (UInt8.ofNat (65 + L)) x y z (by omega) (by omega) (by omega) W
    rwa [show ((UInt8.ofNat (65 + L)).toNat : Int) = 65 + (L : Int) by simp; omega] at h
  have HBo : Hid (∀ (k0 k1 k2 k3 k4 k5 : Int) (W : World), Ta W0.heap.size W0 A (sixP x y z [k0, k1, k2, k3, k4, k5] ++ [(i2, z), (i1, y), (i0, x)]) 26 W → Calls Try.prog 13 #[.pointer (some ⟨A, 0, none⟩), .int .i64 i0, .int .i64 i1, .int .i64 i2] W fun r w' => ∃ p q : Int, r = .returned (.tuple #[.int .i64 p, .int .i64 q]) ∧ Ta W0.heap.size W0 A ((q, refListL [refDeriveL 66 x y z, refDeriveL 68 x y z, refDeriveL 70 x y z]) :: (p, refListL [refDeriveL 65 x y z, refDeriveL 67 x y z, refDeriveL 69 x y z]) :: (sixP x y z [k0, k1, k2, k3, k4, k5] ++ [(i2, z), (i1, y), (i0, x)])) 34 w' ∧ Kept W w') := fun k0 k1 k2 k3 k4 k5 W h => kBoth_any h (by omega) (List.mem_append_right _ (.tail _ (.tail _ (.head _)))) (List.mem_append_right _ (.tail _ (.head _))) (List.mem_append_right _ (.head _))
  have HRU : Hid (∀ W, Calls Try.prog 14 #[.string (bs x), .string (bs y), .string (bs z), .bool true] W fun e w' => e = .returned (.string (bs (refListL [refDeriveL 65 x y z, refDeriveL 67 x y z, refDeriveL 69 x y z]))) ∧ Below W.heap.size W w') := fun W => r21Way_true x y z (by omega) (by omega) (by omega) W
  have HRV : Hid (∀ W, Calls Try.prog 14 #[.string (bs x), .string (bs y), .string (bs z), .bool false] W fun e w' => e = .returned (.string (bs (refListL [refDeriveL 66 x y z, refDeriveL 68 x y z, refDeriveL 70 x y z]))) ∧ Below W.heap.size W w') := fun W => r21Way_false x y z (by omega) (by omega) (by omega) W
  have HEu : Hid (∀ (k0 k1 k2 k3 k4 k5 p q : Int) (W : World), Ta W0.heap.size W0 A ((q, refListL [refDeriveL 66 x y z, refDeriveL 68 x y z, refDeriveL 70 x y z]) :: (p, refListL [refDeriveL 65 x y z, refDeriveL 67 x y z, refDeriveL 69 x y z]) :: (sixP x y z [k0, k1, k2, k3, k4, k5] ++ [(i2, z), (i1, y), (i0, x)])) 34 W → Calls Try.prog 11 #[.pointer (some ⟨A, 0, none⟩), .int .i64 p] W fun r w' => r = .returned (.string (bs (refListL [refDeriveL 65 x y z, refDeriveL 67 x y z, refDeriveL 69 x y z]))) ∧ Below W.heap.size W w') := fun k0 k1 k2 k3 k4 k5 p q W h => taEncode h (.tail _ (.head _))
  have HEv : Hid (∀ (k0 k1 k2 k3 k4 k5 p q : Int) (W : World), Ta W0.heap.size W0 A ((q, refListL [refDeriveL 66 x y z, refDeriveL 68 x y z, refDeriveL 70 x y z]) :: (p, refListL [refDeriveL 65 x y z, refDeriveL 67 x y z, refDeriveL 69 x y z]) :: (sixP x y z [k0, k1, k2, k3, k4, k5] ++ [(i2, z), (i1, y), (i0, x)])) 34 W → Calls Try.prog 11 #[.pointer (some ⟨A, 0, none⟩), .int .i64 q] W fun r w' => r = .returned (.string (bs (refListL [refDeriveL 66 x y z, refDeriveL 68 x y z, refDeriveL 70 x y z]))) ∧ Below W.heap.size W w') := fun k0 k1 k2 k3 k4 k5 p q W h => taEncode h (.head _)
  have HW1 : Hid (∀ (k0 k1 k2 k3 k4 k5 p q : Int) (W : World), Ta W0.heap.size W0 A ((q, refListL [refDeriveL 66 x y z, refDeriveL 68 x y z, refDeriveL 70 x y z]) :: (p, refListL [refDeriveL 65 x y z, refDeriveL 67 x y z, refDeriveL 69 x y z]) :: (sixP x y z [k0, k1, k2, k3, k4, k5] ++ [(i2, z), (i1, y), (i0, x)])) 34 W → Calls Try.prog 15 #[.pointer (some ⟨A, 0, none⟩), .agg #[.int .i64 k0, .int .i64 k1, .int .i64 k2, .int .i64 k3, .int .i64 k4, .int .i64 k5], .bool true] W fun r w' => r = .returned (.int .i64 p) ∧ Ta W0.heap.size W0 A ((q, refListL [refDeriveL 66 x y z, refDeriveL 68 x y z, refDeriveL 70 x y z]) :: (p, refListL [refDeriveL 65 x y z, refDeriveL 67 x y z, refDeriveL 69 x y z]) :: (sixP x y z [k0, k1, k2, k3, k4, k5] ++ [(i2, z), (i1, y), (i0, x)])) 35 w' ∧ Kept W w') := fun k0 k1 k2 k3 k4 k5 p q W h =>
    (kWay_true h (by omega) (.tail _ (.tail _ (List.mem_append_left _ (sixP_mem (j := 0) rfl)))) (.tail _ (.tail _ (List.mem_append_left _ (sixP_mem (j := 2) rfl)))) (.tail _ (.tail _ (List.mem_append_left _ (sixP_mem (j := 4) rfl))))).mono fun r w' ⟨p', e1, e2, e3⟩ => by
      have : p' = p := (e2.same (.head _) (.tail _ (.tail _ (.head _)))).2 rfl
      exact ⟨by rw [e1, this], e2.mono (Nat.le_refl _) (fun s hs => .tail _ hs), e3⟩
  have HW2 : Hid (∀ (k0 k1 k2 k3 k4 k5 p q : Int) (W : World), Ta W0.heap.size W0 A ((q, refListL [refDeriveL 66 x y z, refDeriveL 68 x y z, refDeriveL 70 x y z]) :: (p, refListL [refDeriveL 65 x y z, refDeriveL 67 x y z, refDeriveL 69 x y z]) :: (sixP x y z [k0, k1, k2, k3, k4, k5] ++ [(i2, z), (i1, y), (i0, x)])) 35 W → Calls Try.prog 15 #[.pointer (some ⟨A, 0, none⟩), .agg #[.int .i64 k0, .int .i64 k1, .int .i64 k2, .int .i64 k3, .int .i64 k4, .int .i64 k5], .bool false] W fun r w' => r = .returned (.int .i64 q) ∧ Ta W0.heap.size W0 A [] 36 w' ∧ Kept W w') := fun k0 k1 k2 k3 k4 k5 p q W h =>
    (kWay_false h (by omega) (.tail _ (.tail _ (List.mem_append_left _ (sixP_mem (j := 1) rfl)))) (.tail _ (.tail _ (List.mem_append_left _ (sixP_mem (j := 3) rfl)))) (.tail _ (.tail _ (List.mem_append_left _ (sixP_mem (j := 5) rfl))))).mono fun r w' ⟨q', e1, e2, e3⟩ => by
      have : q' = q := (e2.same (.head _) (.tail _ (.head _))).2 rfl
      exact ⟨by rw [e1, this], e2.mono (Nat.le_refl _) (fun s hs => by simp at hs), e3⟩
  have HA := Lib.hid awake21_any
  have T4 := Lib.hid t4
  clear hW3 hI hT hln hln' t1 t2 t3 t4 hp0 hp1 hp2 hP0 hP1 hP2 hPk hBx hX3 HX HMk HN HF hW0 gx gy gz
  generalize refListL [refDeriveL 65 x y z, refDeriveL 67 x y z, refDeriveL 69 x y z] = U at *
  generalize refListL [refDeriveL 66 x y z, refDeriveL 68 x y z, refDeriveL 70 x y z] = V at *
  obtain ⟨D, hD⟩ : ∃ D : Nat → ByteArray, D = fun L => bs (refDeriveL (UInt8.ofNat (65 + L)) x y z) := ⟨_, rfl⟩
  have HE1 : Hid (∀ (k0 k1 k2 k3 k4 k5 : Int) (W : World), Ta W0.heap.size W0 A (sixP x y z [k0, k1, k2, k3, k4, k5] ++ [(i2, z), (i1, y), (i0, x)]) 26 W → ∀ (L : Nat) (k : Int), ([k0, k1, k2, k3, k4, k5] : List Int)[L]? = some k → Calls Try.prog 11 #[.pointer (some ⟨A, 0, none⟩), .int .i64 k] W fun r w' => r = .returned (.string (D L)) ∧ Below W.heap.size W w') := by rw [hD]; exact HE1
  have HRK : Hid (∀ (L : Nat) (W : World), L ≤ 5 → Calls Try.prog 12 #[.int .u8 (65 + (L : Int)), .string (bs x), .string (bs y), .string (bs z)] W fun e w' => e = .returned (.string (D L)) ∧ Below W.heap.size W w') := by rw [hD]; exact HRK
  clear hD
  generalize bs x = XB at *
  generalize bs y = YB at *
  generalize bs z = ZB at *
  generalize bs U = UB at *
  generalize bs V = VB at *
  generalize l.length = ll at *
  have s1 : (UB.toList == UB.toList) = true := by simp
  have s2 : (VB.toList == VB.toList) = true := by simp
  obtain ⟨y0, _, _, hz⟩ := HBX.out W3 (Below.refl _ _)
  go_upto_region 8 with (first
    | (go_at_call 9; (with_reducible refine (HP2.out _ b5).mono ?_); rintro e w6 ⟨rfl, b6⟩; have b6 := b5.trans (b6.mono b5.size))
    | (go_at_call 9; (with_reducible refine (HP1.out _ b4).mono ?_); rintro e w5 ⟨rfl, b5⟩; have b5 := b4.trans (b5.mono b4.size); obtain ⟨_, _, y2, hz3⟩ := HBX.out w5 b5)
    | (go_at_call 9; (with_reducible refine HP0.out.mono ?_); rintro e w4 ⟨rfl, b4⟩; obtain ⟨_, y1, _, hz2⟩ := HBX.out w4 b4)
    | (refine wpList_load_row rfl 31 _ rfl N rfl 31 _ (0, 0) _ hz3 Try.underlying31 rfl sizeMadeK ?_)
    | (refine wpList_load_row rfl 31 _ rfl N rfl 31 _ (0, 0) _ hz2 Try.underlying31 rfl sizeMadeK ?_)
    | (refine wpList_load_row rfl 31 _ rfl N rfl 31 _ (0, 0) _ hz Try.underlying31 rfl sizeMadeK ?_))
  have t6 := T4.out.below b6
  clear HP0 HP1 HP2 HBX hz hz2 hz3 y0 y1 y2 b4 b5 b6 T4
  go_upto_region 9 with (go_at_call 10; (with_reducible refine (HSx.out _ t6).mono ?_); rintro e w7 ⟨k0, k1, k2, k3, k4, k5, rfl, t7, k7⟩)
  obtain ⟨W8, hW8⟩ : ∃ W8, W8 = w7.alloc (.cells #[.int .i64 k0, .int .i64 k1, .int .i64 k2, .int .i64 k3, .int .i64 k4, .int .i64 k5] 36) := ⟨_, rfl⟩
  rw [← hW8]
  have t8 : Ta W0.heap.size W0 A (sixP x y z [k0, k1, k2, k3, k4, k5] ++ [(i2, z), (i1, y), (i0, x)]) 26 W8 := by rw [hW8]; exact t7.alloc _
  have hB8 : Holds W8 w7.heap.size 36 #[.int .i64 k0, .int .i64 k1, .int .i64 k2, .int .i64 k3, .int .i64 k4, .int .i64 k5] := by rw [hW8]; exact Holds.new w7 _ _
  generalize w7.heap.size = M at *
  have HG : Hid (∀ W, Kept W8 W → ∀ (L : Nat) (k : Int), ([k0, k1, k2, k3, k4, k5] : List Int)[L]? = some k → W.cell? ⟨M, L, none⟩ = some (.int .i64 k)) := fun W hk L k h => six_get (hk.hold _ _ _ (by decide) (by decide) hB8) h
  have HG6 : Hid (∀ W, Kept W8 W → W.cell? ⟨M, 0, none⟩ = some (.int .i64 k0) ∧ W.cell? ⟨M, 1, none⟩ = some (.int .i64 k1) ∧ W.cell? ⟨M, 2, none⟩ = some (.int .i64 k2) ∧ W.cell? ⟨M, 3, none⟩ = some (.int .i64 k3) ∧ W.cell? ⟨M, 4, none⟩ = some (.int .i64 k4) ∧ W.cell? ⟨M, 5, none⟩ = some (.int .i64 k5)) := fun W hk => ⟨HG.out W hk 0 k0 rfl, HG.out W hk 1 k1 rfl, HG.out W hk 2 k2 rfl, HG.out W hk 3 k3 rfl, HG.out W hk 4 k4 rfl, HG.out W hk 5 k5 rfl⟩
  have HEx : Hid (∀ L : Nat, L < 6 → ∃ k, ([k0, k1, k2, k3, k4, k5] : List Int)[L]? = some k) := fun L hL => ⟨_, List.getElem?_eq_getElem (by simpa using hL)⟩
  have T8 := Lib.hid t8
  have HE2 := Lib.hid (fun (W : World) (h) (L : Nat) (k : Int) (hk) => HE1.out k0 k1 k2 k3 k4 k5 W h L k hk)
  have HBo2 := Lib.hid (HBo.out k0 k1 k2 k3 k4 k5)
  have HEu2 := Lib.hid (HEu.out k0 k1 k2 k3 k4 k5)
  have HEv2 := Lib.hid (HEv.out k0 k1 k2 k3 k4 k5)
  have HW12 := Lib.hid (HW1.out k0 k1 k2 k3 k4 k5)
  have HW22 := Lib.hid (HW2.out k0 k1 k2 k3 k4 k5)
  clear hW8 t8 hB8 t7 t6 k7 HE1 HSx HBo HEu HEv HW1 HW2
  go_wp2_with fail
  go_loopw [14] (fun i wr => ∃ L : Nat, L ≤ 6 ∧ i = .int .i64 (L : Int) ∧ Below W8.heap.size W8 wr) (fun i _ => 6 - (intOf i).toNat)
  case atStart => exact ⟨0, by omega, rfl, Below.refl _ _⟩
  case round =>
    obtain ⟨L, hL, rfl, hbel⟩ := hrel
    by_cases hlt : L < 6
    · obtain ⟨k, hk⟩ := HEx.out L hlt
      have y0 := HG.out wr (Kept.ofBelow hbel) L k hk
      have HE := Lib.hid (HE2.out wr (T8.out.below hbel) L k hk)
      have HR := Lib.hid (fun W => HRK.out L W (by omega))
      have q1 : decide ((L : Int) < 6) = true := decide_eq_true (by omega)
      have q2 : wrap64 (65 + (L : Int)) = 65 + (L : Int) := IntWalk.wrap64_in _ (by omega)
      have cv : ∀ W, (convert 3 5 (.int .i64 (65 + (L : Int)))).run Try.prog W = .ok (.int .u8 (65 + (L : Int))) W := fun W => by
        have := ky_u8 (65 + L) (by omega) W
        rwa [show ((65 + L : Nat) : Int) = 65 + (L : Int) by omega] at this
      have HB := Lib.hid hbel
      clear hbel hk HE2 HRK HEx
      generalize D L = DL at *
      have s3 : (DL.toList == DL.toList) = true := by simp
      go_wp2_with (first
        | (go_at_call 11; (with_reducible refine HE.out.mono ?_); rintro e w9 ⟨rfl, b9⟩; have b9 := HB.out.trans (b9.mono HB.out.size))
        | (go_at_call 12; (with_reducible refine (HR.out _).mono ?_); rintro e w10 ⟨rfl, b10⟩; have b10 := b9.trans (b10.mono b9.size)))
      go_roundw
      case rel => exact ⟨L + 1, by omega, by go_num, b10⟩
      case measure => simp [intOf]; omega
    · have hL6 : L = 6 := by omega
      subst hL6
      have t9 := T8.out.below hbel
      have K9 := Kept.ofBelow hbel
      clear hlt hL hbel HE2 HRK HEx HG
      go_wp2_with (first
        | (go_at_call 13; (with_reducible refine (HBo2.out _ t9).mono ?_); rintro e w10 ⟨p, q, rfl, t10, k10⟩; have K10 := K9.trans k10)
        | (go_at_call 14; (with_reducible refine (HRU.out _).mono ?_); rintro e w11 ⟨rfl, b11⟩; have t11 := t10.below b11; have K11 := K10.trans (Kept.ofBelow b11))
        | (go_at_call 14; (with_reducible refine (HRV.out _).mono ?_); rintro e w12 ⟨rfl, b12⟩; have t12 := t11.below b12; have K12 := K11.trans (Kept.ofBelow b12))
        | (go_at_call 6; (with_reducible refine (HA.out _).mono ?_); rintro e w13 ⟨rfl, b13⟩; have t13 := t12.below b13; have K13 := K12.trans (Kept.ofBelow b13))
        | (go_at_call 11; (with_reducible refine (HEu2.out _ _ _ t13).mono ?_); rintro e w14 ⟨rfl, b14⟩; have t14 := t13.below b14; have K14 := K13.trans (Kept.ofBelow b14))
        | (go_at_call 11; (with_reducible refine (HEv2.out _ _ _ t14).mono ?_); rintro e w15 ⟨rfl, b15⟩; have t15 := t14.below b15; have K15 := K14.trans (Kept.ofBelow b15); obtain ⟨a0, a1, a2, a3, a4, a5⟩ := HG6.out _ K15)
        | (go_at_call 15; (with_reducible refine (HW12.out _ _ _ t15).mono ?_); rintro e w16 ⟨rfl, t16, k16⟩; have K16 := K15.trans k16; obtain ⟨c0, c1, c2, c3, c4, c5⟩ := HG6.out _ K16)
        | (go_at_call 15; (with_reducible refine (HW22.out _ _ _ t16).mono ?_); rintro e w17 ⟨rfl, t17, k17⟩))
      go_ret
      exact ⟨rfl, HB0.out.trans (t17.bel.mono HB0.out.size)⟩
end Go.Proofs.Ytemhifeddejkjaa
