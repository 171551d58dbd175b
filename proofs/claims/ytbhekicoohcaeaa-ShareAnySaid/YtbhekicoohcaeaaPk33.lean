/- Part 33 of what the statement wants. -/
import Derived.Test.YtbhekicoohcaeaaPk31
import Derived.Test.YtbhekicoohcaeaaPk32
namespace Go.Proofs.Ytbhekicoohcaeaa
open Go.RowKit

set_option maxRecDepth 100000 in
theorem sizeMade : (Try.prog.info? 31).map (·.size) = some 2 := by kernel_rfl
/-- The box of what the harness made, behind an alloc. -/
theorem made_box {w2 : World} {ai at' : Option Addr} {n ci ct : Nat} {ids : List Int} {texts : List (List UInt8)} {W3 : World} (hW : W3 = w2.alloc (.cells #[.slice ai n ci, .slice at' n ct] 31)) (hI : IdsAt w2 (.slice ai n ci) ids) (hT : TextsAt w2 (.slice at' n ct) (texts.map bs)) (hl : ids.length = n ∧ texts.length = n) (hn : n ≤ 1000000) :
    Holds W3 w2.heap.size 31 #[.slice ai n ci, .slice at' n ct] ∧ ∀ (i : Int) (W : World), Below W3.heap.size W3 W → Calls Try.prog 12 #[.agg #[.slice ai n ci, .slice at' n ct], .int .i64 i] W fun e w' => e = .returned (.tuple #[.int .i64 (pickP ids texts i).1, .string (bs (pickP ids texts i).2)]) ∧ Below W.heap.size W w' := by
  subst hW
  refine ⟨Holds.new w2 _ _, fun i W hb => ?_⟩
  have h0 : Below w2.heap.size w2 W := ((Below.refl _ _).alloc (Nat.le_refl _) _).trans (hb.mono (by rw [World.size_alloc]; omega))
  exact Pick_any (hI.below h0) (hT.below h0) (by omega) (by omega) i

set_option maxHeartbeats 4000000 in
set_option maxRecDepth 100000 in
theorem ShareAny_small {w : World} {v : Value} {l : List MakeR} (hM : MakesAt w v l) (hl : l.length ≤ 20) (hs : ∀ x ∈ l, x.s.length ≤ 200) (x0 x1 x2 x3 : Int) (h2 : x2 ≤ 9223372036854775807) (g : List UInt8) (hg : g.length ≤ 200) :
    Calls Try.prog 3 #[v, .agg #[.int .i64 x0, .int .i64 x1, .int .i64 x2, .int .i64 x3], .string (bs g)] w fun e w' => e = .returned (.bool true) ∧ Below w.heap.size w w' := by
  have hfew : fewP l 20 = true := decide_eq_true ⟨by omega, hs⟩
  have b0 : Below w.heap.size w (w.alloc (.cells #[.int .i64 x0, .int .i64 x1, .int .i64 x2, .int .i64 x3] 23)) := (Below.refl _ _).alloc (Nat.le_refl _) _
  have hX := Holds.new w 23 #[.int .i64 x0, .int .i64 x1, .int .i64 x2, .int .i64 x3]
  obtain ⟨W0, hW0⟩ : ∃ W0, Hid (W0 = w.alloc (.cells #[.int .i64 x0, .int .i64 x1, .int .i64 x2, .int .i64 x3] 23)) := ⟨_, Lib.hid rfl⟩
  rw [← hW0.out] at b0 hX
  have hM0 : MakesAt W0 v l := by
    obtain ⟨ao, cap, rfl, hc⟩ := hM
    refine ⟨ao, cap, rfl, fun hne => ?_⟩
    obtain ⟨b, off, e1, hb, h⟩ := hc hne
    refine ⟨b, off, e1, Nat.lt_of_lt_of_le hb b0.size, fun k x hk => ?_⟩
    obtain ⟨c0, c1, c2, c3, c4⟩ := h k x hk
    exact ⟨(b0.cell (p := ⟨b, off + k * 5, none⟩) hb).trans c0, (b0.cell (p := ⟨b, off + k * 5 + 1, none⟩) hb).trans c1, (b0.cell (p := ⟨b, off + k * 5 + 2, none⟩) hb).trans c2, (b0.cell (p := ⟨b, off + k * 5 + 3, none⟩) hb).trans c3, (b0.cell (p := ⟨b, off + k * 5 + 4, none⟩) hb).trans c4⟩
  have HFw := few_any hM0 20 (fun x hx => by have := hs x hx; omega) (by omega)
  rw [hfew] at HFw
  have HFw := Lib.hid HFw
  have HN := Lib.hid (taNew W0)
  have HMk : Hid (∀ (A : Nat) (W : World), Ta W0.heap.size W0 A [] 0 W → Calls Try.prog 11 #[.pointer (some ⟨A, 0, none⟩), v] W fun e w' => ∃ (ids : List Int) (texts : List (List UInt8)) (ai : Option Addr) (ci : Nat) (at' : Option Addr) (ct : Nat), e = .returned (.agg #[.slice ai l.length ci, .slice at' l.length ct]) ∧
      (ids.length = l.length ∧ texts.length = l.length) ∧ IdsAt w' (.slice ai l.length ci) ids ∧ TextsAt w' (.slice at' l.length ct) (texts.map bs) ∧ Ta W0.heap.size W0 A (ids.zip texts) l.length w') := fun A W h => taMakes hM0 (Below.refl _ _) (Nat.le_refl _) h (by omega) (fun x hx => by have := hs x hx; omega)
  obtain ⟨ao0, cap0, rfl, _⟩ := id hM0
  have hgs := bs_size g
  have q0 : decide (((bs g).size : Int) > 200) = false := decide_eq_false (by omega)
  have HX := Lib.hid hX
  have HB0 := Lib.hid b0
  clear hM hM0 hs hfew hX b0
  go_enter Try.func3, Try.ntmps3
  go_upto_region 5 with (first
    | (go_at_call 8; rw [← hW0.out]; (with_reducible refine HFw.out.mono ?_); rintro e w' ⟨rfl, hw⟩; have hw := hw.symm; subst hw)
    | (go_at_call 10; (with_reducible refine HN.out.mono ?_); rintro e w1 ⟨A, rfl, t1⟩)
    | (go_at_call 11; (with_reducible refine (HMk.out _ _ t1).mono ?_); rintro e w2 ⟨ids, texts, ai, ci, at', ct, rfl, hln, hI, hT, t2⟩))
  obtain ⟨W3, hW3⟩ : ∃ W3, W3 = w2.alloc (.cells #[.slice ai l.length ci, .slice at' l.length ct] 31) := ⟨_, rfl⟩
  rw [← hW3]
  obtain ⟨hBx, hPk⟩ := made_box hW3 hI hT hln (by omega)
  have t3 : Ta W0.heap.size W0 A (ids.zip texts) l.length W3 := by rw [hW3]; exact t2.alloc _
  have hX3 : Holds W3 w.heap.size 23 #[.int .i64 x0, .int .i64 x1, .int .i64 x2, .int .i64 x3] := (t3.bel.block _ HX.out.lt).trans HX.out
  have hln' : ids.length = texts.length := by omega
  have hp0 := pick_in hln' x0
  have hp1 := pick_in hln' x1
  have hP0 := hPk x0
  have hP1 := hPk x1
  generalize pickP ids texts x0 = p0 at *
  generalize pickP ids texts x1 = p1 at *
  obtain ⟨i, s⟩ := p0
  obtain ⟨j, t⟩ := p1
  simp only at hP0 hP1
  have t4 : Ta W0.heap.size W0 A [(j, t), (i, s)] 20 W3 := ((t3.cons hp0).cons (hp1.imp_left fun h => List.mem_cons_of_mem _ h)).mono (by omega) (fun p hp => by
    rcases List.mem_cons.1 hp with rfl | hp
    · exact .head _
    · rw [List.mem_singleton.1 hp]; exact .tail _ (.head _))
  generalize w2.heap.size = N at *
  have HBX : Hid (∀ W, Kept W3 W → W.cell? ⟨w.heap.size, 0, none⟩ = some (.int .i64 x0) ∧ W.cell? ⟨w.heap.size, 1, none⟩ = some (.int .i64 x1) ∧ Holds W N 31 #[.slice ai l.length ci, .slice at' l.length ct]) := fun W hk => by
    have h := hk.hold _ _ _ (by decide) (by decide) hX3
    exact ⟨h.cell 0, h.cell 1, hk.hold _ _ _ (by decide) (by decide) hBx⟩
  have HC : Hid (∀ W, Kept W3 W → W.cell? ⟨w.heap.size, 2, none⟩ = some (.int .i64 x2) ∧ W.cell? ⟨w.heap.size, 3, none⟩ = some (.int .i64 x3)) := fun W hk => by
    have h := hk.hold _ _ _ (by decide) (by decide) hX3
    exact ⟨h.cell 2, h.cell 3⟩
  clear hW3 hI hT hln hln' t1 t2 hp0 hp1 hPk hBx hX3 HX HMk HN HFw hW0
  have hMl : ∀ W : World, W3 = W → True := fun _ _ => trivial
  clear hMl
  have HP0 := Lib.hid (hP0 W3 (Below.refl _ _))
  have HP1 := Lib.hid (hP1)
  have hGx : s.length ≤ 131072 ∧ (∀ x ∈ (nodeOf s).args, x ≠ []) ∧ (t.length ≤ 10000 ∨ kindL t ≠ 2) ∧ Raisable s ∧ ((secretZ g s t = 0 ∧ secretL g s t ≠ []) ∨ (secretZ g s t = 5 ∧ secretL g s t = [])) := by
    obtain ⟨⟨L, F, ha, hG, _, h3⟩, _⟩ := t4
    have hi := h3 (i, s) (.tail _ (.head _))
    have hj := h3 (j, t) (.head _)
    exact ⟨hi.short hG, hi.args hG, hj.nine hG, hi.raisable hG, secret_iff hG hi hj⟩
  obtain ⟨g1, g2, g3, g4, hcase⟩ := hGx
  have hsame : secret9L g s t = secretL g s t := (secret_same g s t).symm
  have HRS : Hid (∀ W, Calls Try.prog 14 #[.string (bs g), .string (bs s), .string (bs t)] W fun e w' => e = .returned (.string (bs (secretL g s t))) ∧ Below W.heap.size W w') := fun W => by
    rw [← hsame]
    exact r19Secret_any g s t (by omega) g2 g3 g4 W
  have HRR : Hid (∀ W, Calls Try.prog 17 #[.string (bs g), .string (bs s)] W fun e w' => e = .returned (.bool (rightB g s)) ∧ Below W.heap.size W w') := fun W => r19Right_any g s (by omega) g2 W
  have HRO : Hid (∀ W, Calls Try.prog 19 #[.string (bs g), .string (bs t)] W fun e w' => e = .returned (.string (bs (offerL g t))) ∧ Below W.heap.size W w') := fun W => r19Offer_any g t (by omega) g3 (raise_base2 g) W
  have HRF : Hid (∀ W, Calls Try.prog 21 #[.int .i64 x2, .int .i64 x3] W fun e w' => e = .returned (.string (bs (freshL x2 x3))) ∧ Below W.heap.size W w') := fun W => r19Fresh_any x2 x3 h2 W
  have HSe : Hid (∀ W, Ta W0.heap.size W0 A [(j, t), (i, s)] 20 W → Calls Try.prog 13 #[.pointer (some ⟨A, 0, none⟩), .string (bs g), .int .i64 i, .int .i64 j] W fun e w' => ∃ k : Int, e = .returned (.tuple #[.int .i64 k, .int .i64 (secretZ g s t)]) ∧ Ta W0.heap.size W0 A [(k, secretL g s t), (j, t), (i, s)] 21 w' ∧ Kept W w') := fun W h => hSecret_any h (by omega) g (.tail _ (.head _)) (.head _)
  have HE1 : Hid (∀ (k : Int) (W : World), Ta W0.heap.size W0 A [(k, secretL g s t), (j, t), (i, s)] 21 W → Calls Try.prog 15 #[.pointer (some ⟨A, 0, none⟩), .int .i64 k] W fun r w' => r = .returned (.string (bs (secretL g s t))) ∧ Below W.heap.size W w') := fun k W h => taEncode h (.head _)
  have HCh : Hid (∀ (k : Int) (W : World), Ta W0.heap.size W0 A [(k, secretL g s t), (j, t), (i, s)] 21 W → Calls Try.prog 16 #[.pointer (some ⟨A, 0, none⟩), .string (bs g), .int .i64 i] W fun e w' => e = .returned (.int .i64 (checkZ g s)) ∧ Below W.heap.size W w') := fun k W h => hCheck_any h g (.tail _ (.tail _ (.head _)))
  have HOf : Hid (∀ (k : Int) (W : World), Ta W0.heap.size W0 A [(k, secretL g s t), (j, t), (i, s)] 21 W → Calls Try.prog 18 #[.pointer (some ⟨A, 0, none⟩), .string (bs g), .int .i64 j] W (TaPost W0.heap.size W0 A [(k, secretL g s t), (j, t), (i, s)] 23 W (offerL g t))) := fun k W h => hOffer_any h (by omega) g (by omega) (.tail _ (.head _))
  have HE2 : Hid (∀ (o k : Int) (W : World), Ta W0.heap.size W0 A [(o, offerL g t), (k, secretL g s t), (j, t), (i, s)] 23 W → Calls Try.prog 15 #[.pointer (some ⟨A, 0, none⟩), .int .i64 o] W fun r w' => r = .returned (.string (bs (offerL g t))) ∧ Below W.heap.size W w') := fun o k W h => taEncode h (.head _)
  have HFr : Hid (∀ (o k : Int) (W : World), Ta W0.heap.size W0 A [(o, offerL g t), (k, secretL g s t), (j, t), (i, s)] 23 W → Calls Try.prog 20 #[.pointer (some ⟨A, 0, none⟩), .int .i64 x2, .int .i64 x3] W (TaPost W0.heap.size W0 A [(o, offerL g t), (k, secretL g s t), (j, t), (i, s)] 24 W (freshL x2 x3))) := fun o k W h => hFresh_any h (by omega) x2 x3 h2
  have HE3 : Hid (∀ (f o k : Int) (W : World), Ta W0.heap.size W0 A [(f, freshL x2 x3), (o, offerL g t), (k, secretL g s t), (j, t), (i, s)] 24 W → Calls Try.prog 15 #[.pointer (some ⟨A, 0, none⟩), .int .i64 f] W fun r w' => r = .returned (.string (bs (freshL x2 x3))) ∧ Below W.heap.size W w') := fun f o k W h => taEncode h (.head _)
  have HA := Lib.hid awake19_any
  have hcr : (secretZ g s t = 0 ∧ (bs (secretL g s t)).toList.isEmpty = false ∧ rightB g s = true ∧ checkZ g s = 0) ∨ (secretZ g s t = 5 ∧ (bs (secretL g s t)).toList.isEmpty = true ∧ rightB g s = true ∧ checkZ g s = 0) ∨ (secretZ g s t = 5 ∧ (bs (secretL g s t)).toList.isEmpty = true ∧ rightB g s = false ∧ checkZ g s = 5) := by
    rcases hcase with ⟨e1, e2⟩ | ⟨e1, e2⟩
    · refine .inl ⟨e1, none_no e2, ?_⟩
      have hr : rightB g s = true := by
        cases hr : rightB g s with
        | true => rfl
        | false => exact absurd (if_neg (fun hh => by rw [hr] at hh; exact absurd hh.1 (by simp))) e2
      exact ⟨hr, if_pos hr⟩
    · cases hr : rightB g s with
      | true => exact .inr (.inl ⟨e1, none_yes e2, rfl, if_pos hr⟩)
      | false => exact .inr (.inr ⟨e1, none_yes e2, rfl, if_neg (by rw [hr]; simp)⟩)
  have t4' := Lib.hid t4
  clear hP0 hP1 hcase hsame g1 g2 g3 g4 t4 t3 hgs q0
  generalize secretZ g s t = E at *
  generalize rightB g s = R at *
  generalize checkZ g s = C at *
  generalize secretL g s t = S at *
  generalize offerL g t = O at *
  generalize freshL x2 x3 = Fr at *
  generalize bs g = GB at *
  generalize bs s = sB at *
  generalize bs t = tB at *
  generalize bs S = SB at *
  generalize bs O = OB at *
  generalize bs Fr = FB at *
  generalize l.length = ll at *
  have s1 : (SB.toList == SB.toList) = true := by simp
  have s2 : (OB.toList == OB.toList) = true := by simp
  have s3 : (FB.toList == FB.toList) = true := by simp
  have HBl : Hid (∀ W : World, Below W3.heap.size W3 W → Kept W3 W) := fun W h => Kept.ofBelow h
  rcases hcr with ⟨rfl, qe, rfl, rfl⟩ | ⟨rfl, qe, rfl, rfl⟩ | ⟨rfl, qe, rfl, rfl⟩
  all_goals
    obtain ⟨y0, _, hz⟩ := HBX.out W3 (Kept.refl _)
    go_upto_region 7 with (first
      | (go_at_call 12; (with_reducible refine (HP1.out _ b4).mono ?_); rintro e w5 ⟨rfl, b5⟩; have b5 := b4.trans (b5.mono b4.size); have K5 := Kept.ofBelow b5; have t5 := t4'.out.below b5)
      | (go_at_call 12; (with_reducible refine HP0.out.mono ?_); rintro e w4 ⟨rfl, b4⟩; obtain ⟨_, y1, hz2⟩ := HBX.out w4 (Kept.ofBelow b4))
      | (refine wpList_load_row rfl 31 _ rfl N rfl 31 _ (0, 0) _ hz2 Try.underlying31 rfl sizeMade ?_)
      | (refine wpList_load_row rfl 31 _ rfl N rfl 31 _ (0, 0) _ hz Try.underlying31 rfl sizeMade ?_))
    clear HP0 HP1 HBX hz hz2 y0 y1 b4 b5 t4'
    go_upto_region 14 with (first
      | (go_at_call 13; (with_reducible refine (HSe.out _ t5).mono ?_); rintro e w6 ⟨k, rfl, t6, k6⟩; have K6 := K5.trans k6)
      | (go_at_call 14; (with_reducible refine (HRS.out _).mono ?_); rintro e w7 ⟨rfl, b7⟩; have t7 := t6.below b7; have K7 := K6.trans (Kept.ofBelow b7))
      | (go_at_call 15; (with_reducible refine (HE1.out _ _ t7).mono ?_); rintro e w8 ⟨rfl, b8⟩; have t8 := t7.below b8; have K8 := K7.trans (Kept.ofBelow b8))
      | (go_at_call 16; (with_reducible refine (HCh.out _ _ t8).mono ?_); rintro e w9 ⟨rfl, b9⟩; have t9 := t8.below b9; have K9 := K8.trans (Kept.ofBelow b9))
      | (go_at_call 17; (with_reducible refine (HRR.out _).mono ?_); rintro e w10 ⟨rfl, b10⟩; have t10 := t9.below b10; have K10 := K9.trans (Kept.ofBelow b10)))
    have K11 : Kept W3 w10.drew := K10.trans (Kept.ofBelow (Below.refl _ _).drew)
    have t11 := t10.drew
    obtain ⟨y2, y3⟩ := HC.out _ K11
    have HT5 := Lib.hid t5
    clear HSe HRS HCh HRR K5 K6 K7 K8 K9 K10 k6 t5 t6 t7 t8 t9 t10 b7 b8 b9 b10 HT5
    go_region_held3 (fun w' => w'.cell? ⟨w.heap.size, 2, none⟩ = some (.int .i64 x2) ∧ w'.cell? ⟨w.heap.size, 3, none⟩ = some (.int .i64 x3))
      (first | with_reducible exact HC.out _ K11 | with_reducible exact HC.out _ K12 | with_reducible exact HC.out _ K13 | with_reducible exact HC.out _ K14 | with_reducible exact HC.out _ K15 | with_reducible exact HC.out _ K16 | with_reducible exact HC.out _ K17 | with_reducible exact HC.out _ K18 | go_keep)
      (first
        | (go_at_call 9; (with_reducible refine (HA.out _).mono ?_); rintro e w12 ⟨rfl, b12⟩; have t12 := t11.below b12; have K12 := K11.trans (Kept.ofBelow b12); obtain ⟨z2, z3⟩ := HC.out _ K12)
        | (go_at_call 18; (with_reducible refine (HOf.out _ _ t12).mono ?_); rintro e w13 ⟨o, rfl, t13, k13⟩; have K13 := K12.trans k13; obtain ⟨u2, u3⟩ := HC.out _ K13)
        | (go_at_call 15; (with_reducible refine (HE2.out _ _ _ t13).mono ?_); rintro e w14 ⟨rfl, b14⟩; have t14 := t13.below b14; have K14 := K13.trans (Kept.ofBelow b14); obtain ⟨v2, v3⟩ := HC.out _ K14)
        | (go_at_call 19; (with_reducible refine (HRO.out _).mono ?_); rintro e w15 ⟨rfl, b15⟩; have t15 := t14.below b15; have K15 := K14.trans (Kept.ofBelow b15); obtain ⟨a2, a3⟩ := HC.out _ K15)
        | (go_at_call 20; (with_reducible refine (HFr.out _ _ _ t15).mono ?_); rintro e w16 ⟨f, rfl, t16, k16⟩; have K16 := K15.trans k16; obtain ⟨c2, c3⟩ := HC.out _ K16)
        | (go_at_call 15; (with_reducible refine (HE3.out _ _ _ _ t16).mono ?_); rintro e w17 ⟨rfl, b17⟩; have t17 := t16.below b17; have K17 := K16.trans (Kept.ofBelow b17); obtain ⟨d2, d3⟩ := HC.out _ K17)
        | (go_at_call 21; (with_reducible refine (HRF.out _).mono ?_); rintro e w18 ⟨rfl, b18⟩; have t18 := t17.below b18; have K18 := K17.trans (Kept.ofBelow b18); obtain ⟨e2, e3⟩ := HC.out _ K18))
    all_goals
      go_wp2_with fail
      go_ret
      exact ⟨rfl, HB0.out.trans (t18.bel.mono HB0.out.size)⟩
end Go.Proofs.Ytbhekicoohcaeaa

namespace Go.Proofs.Ytbhekicoohcaeaa
open Go.RowKit

end Go.Proofs.Ytbhekicoohcaeaa

namespace Go.Proofs.Ytbhekicoohcaeaa
open Go.RowKit

end Go.Proofs.Ytbhekicoohcaeaa

namespace Go.Proofs.Ytbhekicoohcaeaa
open Go.RowKit

end Go.Proofs.Ytbhekicoohcaeaa
