/- Part 35 of what the statement wants. -/
import Derived.BigQuiet
import Derived.Test.YtbnecckgapainaaGreatDoorPk34
namespace Go.Proofs.YtbnecckgapainaaGreatDoor
open Go.RowKit

theorem pubOk_pub (who : Int) : PubOk (pubL who) := fun h => by
  by_cases hw : 0 ≤ who ∧ who ≤ 2147483647
  · exact ⟨who.toNat, by omega, by rw [Int.toNat_of_nonneg hw.1]⟩
  · rw [pubL_out (by omega)] at h
    simp [kindL] at h
set_option maxHeartbeats 8000000 in
set_option maxRecDepth 100000 in
theorem SignHosts_small {w : World} (hg : TypeOfError w) {v : Value} {l : List MakeR} (hM : MakesAt w v l) (hl : l.length ≤ 20) (hs : ∀ x ∈ l, x.s.length ≤ 200) (x0 x1 x2 a0 a1 : Int) (g0 g1 : List UInt8) (hg0 : g0.length ≤ 200) (hg1 : g1.length ≤ 200) :
    Calls Tryz.prog 5 #[v, .agg #[.int .i64 x0, .int .i64 x1, .int .i64 x2], .agg #[.string (bs g0), .int .i64 a0, .string (bs g1), .int .i64 a1]] w fun e w' => e = .returned (.bool true) ∧ Below w.heap.size w w' := by
  have hfew : fewP l 20 = true := decide_eq_true ⟨by omega, hs⟩
  have b0 : Below w.heap.size w ((w.alloc (.cells #[.int .i64 x0, .int .i64 x1, .int .i64 x2] 39)).alloc (.cells #[.string (bs g0), .int .i64 a0, .string (bs g1), .int .i64 a1] 58)) := ((Below.refl _ _).alloc (Nat.le_refl _) _).alloc (by simp) _
  have hX : Holds ((w.alloc (.cells #[.int .i64 x0, .int .i64 x1, .int .i64 x2] 39)).alloc (.cells #[.string (bs g0), .int .i64 a0, .string (bs g1), .int .i64 a1] 58)) w.heap.size 39 #[.int .i64 x0, .int .i64 x1, .int .i64 x2] := (Holds.new w 39 _).moves ((Moves.refl nobody _).alloc _) (fun h => h)
  have hY : Holds ((w.alloc (.cells #[.int .i64 x0, .int .i64 x1, .int .i64 x2] 39)).alloc (.cells #[.string (bs g0), .int .i64 a0, .string (bs g1), .int .i64 a1] 58)) (w.heap.size + 1) 58 #[.string (bs g0), .int .i64 a0, .string (bs g1), .int .i64 a1] := by
    have := Holds.new (w.alloc (.cells #[.int .i64 x0, .int .i64 x1, .int .i64 x2] 39)) 58 #[.string (bs g0), .int .i64 a0, .string (bs g1), .int .i64 a1]
    rwa [World.size_alloc] at this
  obtain ⟨W0, hW0⟩ : ∃ W0, Hid (W0 = (w.alloc (.cells #[.int .i64 x0, .int .i64 x1, .int .i64 x2] 39)).alloc (.cells #[.string (bs g0), .int .i64 a0, .string (bs g1), .int .i64 a1] 58)) := ⟨_, Lib.hid rfl⟩
  rw [← hW0.out] at b0 hX hY
  have hM0 := makes_below22 hM b0
  have HFw := few_any hM0 20 (fun x hx => by have := hs x hx; omega) (by omega)
  rw [hfew] at HFw
  have HFw := Lib.hid HFw
  have HN := Lib.hid (taNew W0)
  have HMk : Hid (∀ (A : Nat) (W : World), Ta W0.heap.size W0 A [] 0 W → Calls Tryz.prog 14 #[.pointer (some ⟨A, 0, none⟩), v] W fun e w' => ∃ (ids : List Int) (texts : List (List UInt8)) (ai : Option Addr) (ci : Nat) (at' : Option Addr) (ct : Nat), e = .returned (.agg #[.slice ai l.length ci, .slice at' l.length ct]) ∧
      (ids.length = l.length ∧ texts.length = l.length) ∧ IdsAt w' (.slice ai l.length ci) ids ∧ TextsAt w' (.slice at' l.length ct) (texts.map bs) ∧ Ta W0.heap.size W0 A (ids.zip texts) l.length w') := fun A W h => taMakes hM0 (Below.refl _ _) (Nat.le_refl _) h (by omega) (fun x hx => by have := hs x hx; omega)
  have HAw : Hid (∀ W, Below W0.heap.size W0 W → Calls Tryz.prog 22 #[] W fun e w' => e = .returned (.bool true) ∧ Below W.heap.size W w') := fun W hb => awake22_any W (hg.later (b0.trans (hb.mono b0.size)))
  have HTd : Hid (∀ (W : World) (c : Nat) (v : Value), Below W0.heap.size W0 W → ToldAt W c hostS 9 v → Calls Tryz.prog 29 #[v, .int .i64 9, .string ⟨#[104, 111, 115, 116]⟩, .string (partS c)] W fun r w' => r = .returned (.bool true) ∧ Below W.heap.size W w') := fun W c v hb hv => told22_any (hg.later (b0.trans (hb.mono b0.size))) hv (by decide)
  have hz0 := bs_size g0
  have hz1 := bs_size g1
  have q0 : decide (((bs g0).size : Int) > 200) = false := decide_eq_false (by omega)
  have q1 : decide (((bs g1).size : Int) > 200) = false := decide_eq_false (by omega)
  obtain ⟨ao0, cap0, rfl, _⟩ := id hM0
  have y0 := hY.cell 0
  have y1 := hY.cell 1
  have y2 := hY.cell 2
  have y3 := hY.cell 3
  have HX := Lib.hid hX
  have HY := Lib.hid hY
  have HB0 := Lib.hid b0
  clear hM hM0 hs hfew hg hX hY b0 hz0 hz1
  go_enter Tryz.func5, Tryz.ntmps5
  go_upto_region 5 with (first
    | (go_at_call 9; rw [← hW0.out]; (with_reducible refine HFw.out.mono ?_); rintro e w' ⟨rfl, hw⟩; have hw := hw.symm; subst hw)
    | (go_at_call 12; (with_reducible refine HN.out.mono ?_); rintro e w1 ⟨A, rfl, t1⟩)
    | (go_at_call 14; (with_reducible refine (HMk.out _ _ t1).mono ?_); rintro e w2 ⟨ids, texts, ai, ci, at', ct, rfl, hln, hI, hT, t2⟩))
  obtain ⟨W3, hW3⟩ : ∃ W3, W3 = w2.alloc (.cells #[.slice ai l.length ci, .slice at' l.length ct] 47) := ⟨_, rfl⟩
  rw [← hW3]
  obtain ⟨hBx, hPk⟩ := made_box22 hW3 hI hT hln (by omega)
  have t3 : Ta W0.heap.size W0 A (ids.zip texts) l.length W3 := by rw [hW3]; exact t2.alloc _
  have hX3 : Holds W3 w.heap.size 39 #[.int .i64 x0, .int .i64 x1, .int .i64 x2] := (t3.bel.block _ HX.out.lt).trans HX.out
  have hY3 : Holds W3 (w.heap.size + 1) 58 #[.string (bs g0), .int .i64 a0, .string (bs g1), .int .i64 a1] := (t3.bel.block _ HY.out.lt).trans HY.out
  have hln' : ids.length = texts.length := by omega
  have hp0 := pick_in hln' x0
  have hp1 := pick_in hln' x1
  have hp2 := pick_in hln' x2
  have hP0 := hPk x0
  have hP1 := hPk x1
  have hP2 := hPk x2
  generalize pickP ids texts x0 = p0 at *
  generalize pickP ids texts x1 = p1 at *
  generalize pickP ids texts x2 = p2 at *
  obtain ⟨ik, sk⟩ := p0
  obtain ⟨ig, sg⟩ := p1
  obtain ⟨ih, sh⟩ := p2
  simp only at hP0 hP1 hP2
  have t4 : Ta W0.heap.size W0 A [(ih, sh), (ig, sg), (ik, sk)] 20 W3 := (((t3.cons hp0).cons (hp1.imp_left fun h => List.mem_cons_of_mem _ h)).cons (hp2.imp_left fun h => List.mem_cons_of_mem _ (List.mem_cons_of_mem _ h))).mono (by omega) (fun p hp => by
    simp only [List.mem_cons, List.not_mem_nil, or_false] at hp
    rcases hp with rfl | rfl | rfl
    · exact .head _
    · exact .tail _ (.head _)
    · exact .tail _ (.tail _ (.head _)))
  generalize w2.heap.size = N at *
  have HBX : Hid (∀ W, Kept W3 W → W.cell? ⟨w.heap.size, 0, none⟩ = some (.int .i64 x0) ∧ W.cell? ⟨w.heap.size, 1, none⟩ = some (.int .i64 x1) ∧ W.cell? ⟨w.heap.size, 2, none⟩ = some (.int .i64 x2) ∧ Holds W N 47 #[.slice ai l.length ci, .slice at' l.length ct]) := fun W hk => by
    have h := hk.hold _ _ _ (by decide) (by decide) hX3
    exact ⟨h.cell 0, h.cell 1, h.cell 2, hk.hold _ _ _ (by decide) (by decide) hBx⟩
  have HC : Hid (∀ W, Kept W3 W → W.cell? ⟨w.heap.size + 1, 0, none⟩ = some (.string (bs g0)) ∧ W.cell? ⟨w.heap.size + 1, 1, none⟩ = some (.int .i64 a0) ∧ W.cell? ⟨w.heap.size + 1, 2, none⟩ = some (.string (bs g1)) ∧ W.cell? ⟨w.heap.size + 1, 3, none⟩ = some (.int .i64 a1)) := fun W hk => by
    have h := hk.hold _ _ _ (by decide) (by decide) hY3
    exact ⟨h.cell 0, h.cell 1, h.cell 2, h.cell 3⟩
  have HP0 := Lib.hid hP0
  have HP1 := Lib.hid hP1
  have HP2 := Lib.hid hP2
  have ls0 := t4.short (i := ik) (.tail _ (.tail _ (.head _)))
  have ls1 := t4.short (i := ig) (.tail _ (.head _))
  have ls2 := t4.short (i := ih) (.head _)
  have hpk := t4.pubOk (i := ik) (.tail _ (.tail _ (.head _)))
  have T4 := Lib.hid t4
  have HBl : Hid (∀ W : World, Below W3.heap.size W3 W → Kept W3 W) := fun W h => Kept.ofBelow h
  clear hW3 hI hT hln hln' t1 t2 t3 t4 hp0 hp1 hp2 hPk hBx hX3 hY3 HX HY HMk HN HFw hP0 hP1 hP2 y0 y1 y2 y3
  obtain ⟨y0, y1, y2, hz⟩ := HBX.out W3 (Kept.refl _)
  go_upto_region 8 with (first
    | (go_at_call 23; (with_reducible refine (HP0.out _ (Below.refl _ _)).mono ?_); rintro e w4 ⟨rfl, b4⟩; obtain ⟨u0, u1, u2, hz4⟩ := HBX.out w4 (Kept.ofBelow b4))
    | (go_at_call 23; (with_reducible refine (HP1.out _ b4).mono ?_); rintro e w5 ⟨rfl, b5⟩; have b5 := b4.trans (b5.mono b4.size); obtain ⟨v0, v1, v2, hz5⟩ := HBX.out w5 (Kept.ofBelow b5))
    | (go_at_call 23; (with_reducible refine (HP2.out _ b5).mono ?_); rintro e w6 ⟨rfl, b6⟩; have b6 := b5.trans (b6.mono b5.size); have K6 := Kept.ofBelow b6; have t6 := T4.out.below b6)
    | (refine wpList_load_row rfl 47 _ rfl N rfl 47 _ (0, 0) _ hz5 Tryz.underlying47 rfl sizeMade22 ?_)
    | (refine wpList_load_row rfl 47 _ rfl N rfl 47 _ (0, 0) _ hz4 Tryz.underlying47 rfl sizeMade22 ?_)
    | (refine wpList_load_row rfl 47 _ rfl N rfl 47 _ (0, 0) _ hz Tryz.underlying47 rfl sizeMade22 ?_))
  have HHo : Hid (∀ W, Ta W0.heap.size W0 A [(ih, sh), (ig, sg), (ik, sk)] 20 W → Calls Tryz.prog 24 #[.pointer (some ⟨A, 0, none⟩), .string (bs g0), .int .i64 a0, .int .i64 ih] W (TaPost W0.heap.size W0 A [(ih, sh), (ig, sg), (ik, sk)] 22 W (hostL g0 a0 sh))) := fun W h => snHost_any h (by omega) g0 (by omega) a0 (.head _)
  have HRH : Hid (∀ W, Calls Tryz.prog 25 #[.string (bs g0), .int .i64 a0, .string (bs sh)] W fun e w' => e = .returned (.string (bs (hostL g0 a0 sh))) ∧ Below W.heap.size W w') := fun W => r22Host_any g0 a0 sh (by omega) (by omega) W
  have HE : Hid (∀ (o : Int) W, Ta W0.heap.size W0 A [(o, hostL g0 a0 sh), (ih, sh), (ig, sg), (ik, sk)] 22 W → Calls Tryz.prog 15 #[.pointer (some ⟨A, 0, none⟩), .int .i64 o] W fun r w' => r = .returned (.string (bs (hostL g0 a0 sh))) ∧ Below W.heap.size W w') := fun o W h => taEncode h (.head _)
  have HC2 : Hid (∀ W, Kept W3 W → W.cell? ⟨w.heap.size + 1, 0, none⟩ = some (.string (bs g0)) ∧ W.cell? ⟨w.heap.size + 1, 1, none⟩ = some (.int .i64 a0)) := fun W hk => ⟨(HC.out W hk).1, (HC.out W hk).2.1⟩
  generalize hostL g0 a0 sh = OW at *
  have K7 : Kept W3 w6.drew := K6.trans (Kept.ofBelow (Below.refl _ _).drew)
  have t7 := t6.drew
  obtain ⟨c0, c1⟩ := HC2.out _ K7
  have T6 := Lib.hid t6
  clear hz y0 y1 y2 HP0 HP1 HP2 HBX b4 b5 b6 K6 t6 hz4 u0 u1 u2 v0 v1 v2 hz5
  go_region_held3 (fun w' => w'.cell? ⟨w.heap.size + 1, 0, none⟩ = some (.string (bs g0)) ∧ w'.cell? ⟨w.heap.size + 1, 1, none⟩ = some (.int .i64 a0))
    (first | with_reducible exact HC2.out _ K7 | with_reducible exact HC2.out _ K8 | with_reducible exact HC2.out _ K9 | go_keep)
    (first
      | (go_at_call 24; (with_reducible refine (HHo.out _ t7).mono ?_); rintro e w8 ⟨o, rfl, t8, k8⟩; have K8 := K7.trans k8; obtain ⟨d0, d1⟩ := HC2.out _ K8)
      | (go_at_call 25; (with_reducible refine (HRH.out _).mono ?_); rintro e w9 ⟨rfl, b9⟩; have t9 := t8.below b9; have K9 := K8.trans (Kept.ofBelow b9); obtain ⟨e0, e1⟩ := HC2.out _ K9))
  obtain ⟨z1, z2⟩ := eq_list OW
  go_wp2_with (go_at_call 15; (with_reducible refine (HE.out _ _ t9).mono ?_); rintro e w10 ⟨rfl, b10⟩; have t10 := t9.below b10; have K10 := K9.trans (Kept.ofBelow b10))
  have T10 := Lib.hid t10
  have K10h := Lib.hid K10
  have hOl : OW.length ≤ 131072 := t10.short (.head _)
  clear t7 t8 t9 t10 K7 K8 K9 K10 k8 b9 b10 HHo HRH HE HC2 T4 T6 z1 z2 c0 c1 d0 d1 e0 e1 q0 q1
  go_loopw [17] (fun i wr => ∃ k : Nat, k ≤ 2 ∧ i = .int .i64 (k : Int) ∧ Ta W0.heap.size W0 A [(o, OW), (ih, sh), (ig, sg), (ik, sk)] (22 + 6 * k) wr ∧ Kept W3 wr) (fun i _ => 2 - (intOf i).toNat)
  case atStart => exact ⟨0, by omega, rfl, T10.out, K10h.out⟩
  case round =>
    obtain ⟨k, hk, rfl, hta, hkp⟩ := hrel
    have hc : k = 0 ∨ k = 1 ∨ k = 2 := by omega
    rcases hc with rfl | rfl | rfl
    · have HK : Hid (∀ W, Ta W0.heap.size W0 A [(o, OW), (ih, sh), (ig, sg), (ik, sk)] 22 W → Calls Tryz.prog 27 #[.pointer (some ⟨A, 0, none⟩), .int .i64 a0] W (TaPost W0.heap.size W0 A [(o, OW), (ih, sh), (ig, sg), (ik, sk)] 23 W (refKeyL a0))) := fun W h => taKey h (by omega) a0
      have HPb : Hid (∀ (q : Int) W, Ta W0.heap.size W0 A ((q, refKeyL a0) :: [(o, OW), (ih, sh), (ig, sg), (ik, sk)]) 23 W → Calls Tryz.prog 26 #[.pointer (some ⟨A, 0, none⟩), .int .i64 q] W (TaPost W0.heap.size W0 A ((q, refKeyL a0) :: [(o, OW), (ih, sh), (ig, sg), (ik, sk)]) 24 W (pubL a0))) := fun q W h => taPub h (by omega) (.head _)
      have HRP := Lib.hid (fun W => r22Pub_any a0 W)
      have HC1 : Hid (∀ (p q : Int) W, Ta W0.heap.size W0 A ((p, pubL a0) :: (q, refKeyL a0) :: [(o, OW), (ih, sh), (ig, sg), (ik, sk)]) 24 W → Calls Tryz.prog 30 #[.pointer (some ⟨A, 0, none⟩), .string (bs g0), .int .i64 a0, .int .i64 ik, .int .i64 ig, .int .i64 ih] W fun e w' => ∃ v, e = .returned v ∧ ToldAt w' (hostC g0 a0 sk sg sh) hostS 9 v ∧ Ta W0.heap.size W0 A ((p, pubL a0) :: (q, refKeyL a0) :: [(o, OW), (ih, sh), (ig, sg), (ik, sk)]) 26 w' ∧ Kept W w') := fun p q W h => snCheckHost_any h (by omega) g0 (by omega) a0 (.tail _ (.tail _ (.tail _ (.tail _ (.tail _ (.head _)))))) (.tail _ (.tail _ (.tail _ (.tail _ (.head _))))) (.tail _ (.tail _ (.tail _ (.head _))))
      have HR1 : Hid (∀ W, Calls Tryz.prog 31 #[.string (bs g0), .int .i64 a0, .string (bs sk), .string (bs sg), .string (bs sh)] W fun e w' => e = .returned (.string (partS (hostC g0 a0 sk sg sh))) ∧ Below W.heap.size W w') := fun W => r22CheckHost_any g0 a0 sk sg sh hpk (by omega) (by omega) W
      have HC3 : Hid (∀ (p q : Int) W, Ta W0.heap.size W0 A ((p, pubL a0) :: (q, refKeyL a0) :: [(o, OW), (ih, sh), (ig, sg), (ik, sk)]) 26 W → Calls Tryz.prog 30 #[.pointer (some ⟨A, 0, none⟩), .string (bs g0), .int .i64 a0, .int .i64 p, .int .i64 o, .int .i64 ih] W fun e w' => ∃ v, e = .returned v ∧ ToldAt w' (hostC g0 a0 (pubL a0) OW sh) hostS 9 v ∧ Ta W0.heap.size W0 A ((p, pubL a0) :: (q, refKeyL a0) :: [(o, OW), (ih, sh), (ig, sg), (ik, sk)]) 28 w' ∧ Kept W w') := fun p q W h => snCheckHost_any h (by omega) g0 (by omega) a0 (.head _) (.tail _ (.tail _ (.head _))) (.tail _ (.tail _ (.tail _ (.head _))))
      have HR3 : Hid (∀ W, Calls Tryz.prog 31 #[.string (bs g0), .int .i64 a0, .string (bs (pubL a0)), .string (bs OW), .string (bs sh)] W fun e w' => e = .returned (.string (partS (hostC g0 a0 (pubL a0) OW sh))) ∧ Below W.heap.size W w') := fun W => r22CheckHost_any g0 a0 (pubL a0) OW sh (pubOk_pub a0) (by omega) (by omega) W
      have HCk : Hid (∀ W, Kept W3 W → W.cell? ⟨w.heap.size + 1, 0, none⟩ = some (.string (bs g0)) ∧ W.cell? ⟨w.heap.size + 1, 1, none⟩ = some (.int .i64 a0)) := fun W hk => ⟨(HC.out W hk).1, (HC.out W hk).2.1⟩
      have HDn : Hid (∀ (p q : Int) W, Ta W0.heap.size W0 A ((p, pubL a0) :: (q, refKeyL a0) :: [(o, OW), (ih, sh), (ig, sg), (ik, sk)]) 28 W → Ta W0.heap.size W0 A [(o, OW), (ih, sh), (ig, sg), (ik, sk)] 28 W) := fun p q W h => h.mono (Nat.le_refl _) (fun x hx => .tail _ (.tail _ hx))
      clear HC
      generalize hostC g0 a0 sk sg sh = CA at *
      generalize hostC g0 a0 (pubL a0) OW sh = CB at *
      generalize pubL a0 = PW at *
      generalize refKeyL a0 = KW at *
      have kd : Kept W3 wr.drew := hkp.trans (Kept.ofBelow (Below.refl _ _).drew)
      have td := hta.drew
      obtain ⟨f0, f1⟩ := HCk.out _ kd
      obtain ⟨f2, f3⟩ := HCk.out _ hkp
      go_upto_region 14 with fail
      go_region_held3 (fun w' => w'.cell? ⟨w.heap.size + 1, 0, none⟩ = some (.string (bs g0)) ∧ w'.cell? ⟨w.heap.size + 1, 1, none⟩ = some (.int .i64 a0))
        (first | with_reducible exact HCk.out _ kd | with_reducible exact HCk.out _ k1 | with_reducible exact HCk.out _ k2 | with_reducible exact HCk.out _ k3 | go_keep)
        (first
          | (go_at_call 27; (with_reducible refine (HK.out _ td).mono ?_); rintro e m1 ⟨q, rfl, s1, j1⟩; have k1 := kd.trans j1; obtain ⟨r0, r1⟩ := HCk.out _ k1)
          | (go_at_call 26; (with_reducible refine (HPb.out _ _ s1).mono ?_); rintro e m2 ⟨p, rfl, s2, j2⟩; have k2 := k1.trans j2; obtain ⟨r2, r3⟩ := HCk.out _ k2)
          | (go_at_call 28; (with_reducible refine (HRP.out _).mono ?_); rintro e m3 ⟨rfl, b3⟩; have s3 := s2.below b3; have k3 := k2.trans (Kept.ofBelow b3); obtain ⟨r4, r5⟩ := HCk.out _ k3))
      have k3d := k3.trans (Kept.ofBelow (Below.refl _ _).drew)
      have s3d := s3.drew
      obtain ⟨x0', x1'⟩ := HCk.out _ k3d
      clear f0 f1 f2 f3 r0 r1 r2 r3 r4 r5 s1 s2 j1 j2 td
      go_upto_region 15 with fail
      go_region_held3 (fun w' => w'.cell? ⟨w.heap.size + 1, 0, none⟩ = some (.string (bs g0)) ∧ w'.cell? ⟨w.heap.size + 1, 1, none⟩ = some (.int .i64 a0))
        (first | with_reducible exact HCk.out _ k3d | with_reducible exact HCk.out _ k4 | with_reducible exact HCk.out _ k5 | with_reducible exact HCk.out _ k6 | go_keep)
        (first
          | (go_at_call 30; (with_reducible refine (HC1.out _ _ _ s3d).mono ?_); rintro e m4 ⟨v4, rfl, f4, s4, j4⟩; have k4 := k3d.trans j4; obtain ⟨r6, r7⟩ := HCk.out _ k4)
          | (go_at_call 31; (with_reducible refine (HR1.out _).mono ?_); rintro e m5 ⟨rfl, b5⟩; have s5 := s4.below b5; have k5 := k4.trans (Kept.ofBelow b5); have f5 := f4.kept (Kept.ofBelow b5); obtain ⟨r8, r9⟩ := HCk.out _ k5)
          | (go_at_call 29; (with_reducible refine (HTd.out _ _ _ s5.bel f5).mono ?_); rintro e m6 ⟨rfl, b6⟩; have s6 := s5.below b6; have k6 := k5.trans (Kept.ofBelow b6); obtain ⟨r10, r11⟩ := HCk.out _ k6))
      have k6d := k6.trans (Kept.ofBelow (Below.refl _ _).drew)
      have s6d := s6.drew
      obtain ⟨x2', x3'⟩ := HCk.out _ k6d
      clear r6 r7 r8 r9 r10 r11 s3d s4 s5 x0' x1' f4 f5 j4
      go_upto_region 18 with fail
      go_region_held3 (fun w' => w'.cell? ⟨w.heap.size + 1, 0, none⟩ = some (.string (bs g0)) ∧ w'.cell? ⟨w.heap.size + 1, 1, none⟩ = some (.int .i64 a0))
        (first | with_reducible exact HCk.out _ k6d | with_reducible exact HCk.out _ k7 | with_reducible exact HCk.out _ k8 | with_reducible exact HCk.out _ k9 | go_keep)
        (first
          | (go_at_call 30; (with_reducible refine (HC3.out _ _ _ s6d).mono ?_); rintro e m7 ⟨v7, rfl, f7, s7, j7⟩; have k7 := k6d.trans j7; obtain ⟨r12, r13⟩ := HCk.out _ k7)
          | (go_at_call 31; (with_reducible refine (HR3.out _).mono ?_); rintro e m8 ⟨rfl, b8⟩; have s8 := s7.below b8; have k8 := k7.trans (Kept.ofBelow b8); have f8 := f7.kept (Kept.ofBelow b8); obtain ⟨r14, r15⟩ := HCk.out _ k8)
          | (go_at_call 29; (with_reducible refine (HTd.out _ _ _ s8.bel f8).mono ?_); rintro e m9 ⟨rfl, b9⟩; have s9 := s8.below b9; have k9 := k8.trans (Kept.ofBelow b9); obtain ⟨r16, r17⟩ := HCk.out _ k9))
      go_wp2_with fail
      go_roundw
      case rel => exact ⟨1, by omega, by go_num, HDn.out _ _ _ s9, k9⟩
      case measure => simp [intOf]
    · have HK : Hid (∀ W, Ta W0.heap.size W0 A [(o, OW), (ih, sh), (ig, sg), (ik, sk)] 28 W → Calls Tryz.prog 27 #[.pointer (some ⟨A, 0, none⟩), .int .i64 a1] W (TaPost W0.heap.size W0 A [(o, OW), (ih, sh), (ig, sg), (ik, sk)] 29 W (refKeyL a1))) := fun W h => taKey h (by omega) a1
      have HPb : Hid (∀ (q : Int) W, Ta W0.heap.size W0 A ((q, refKeyL a1) :: [(o, OW), (ih, sh), (ig, sg), (ik, sk)]) 29 W → Calls Tryz.prog 26 #[.pointer (some ⟨A, 0, none⟩), .int .i64 q] W (TaPost W0.heap.size W0 A ((q, refKeyL a1) :: [(o, OW), (ih, sh), (ig, sg), (ik, sk)]) 30 W (pubL a1))) := fun q W h => taPub h (by omega) (.head _)
      have HRP := Lib.hid (fun W => r22Pub_any a1 W)
      have HC1 : Hid (∀ (p q : Int) W, Ta W0.heap.size W0 A ((p, pubL a1) :: (q, refKeyL a1) :: [(o, OW), (ih, sh), (ig, sg), (ik, sk)]) 30 W → Calls Tryz.prog 30 #[.pointer (some ⟨A, 0, none⟩), .string (bs g1), .int .i64 a1, .int .i64 ik, .int .i64 ig, .int .i64 ih] W fun e w' => ∃ v, e = .returned v ∧ ToldAt w' (hostC g1 a1 sk sg sh) hostS 9 v ∧ Ta W0.heap.size W0 A ((p, pubL a1) :: (q, refKeyL a1) :: [(o, OW), (ih, sh), (ig, sg), (ik, sk)]) 32 w' ∧ Kept W w') := fun p q W h => snCheckHost_any h (by omega) g1 (by omega) a1 (.tail _ (.tail _ (.tail _ (.tail _ (.tail _ (.head _)))))) (.tail _ (.tail _ (.tail _ (.tail _ (.head _))))) (.tail _ (.tail _ (.tail _ (.head _))))
      have HR1 : Hid (∀ W, Calls Tryz.prog 31 #[.string (bs g1), .int .i64 a1, .string (bs sk), .string (bs sg), .string (bs sh)] W fun e w' => e = .returned (.string (partS (hostC g1 a1 sk sg sh))) ∧ Below W.heap.size W w') := fun W => r22CheckHost_any g1 a1 sk sg sh hpk (by omega) (by omega) W
      have HC3 : Hid (∀ (p q : Int) W, Ta W0.heap.size W0 A ((p, pubL a1) :: (q, refKeyL a1) :: [(o, OW), (ih, sh), (ig, sg), (ik, sk)]) 32 W → Calls Tryz.prog 30 #[.pointer (some ⟨A, 0, none⟩), .string (bs g1), .int .i64 a1, .int .i64 p, .int .i64 o, .int .i64 ih] W fun e w' => ∃ v, e = .returned v ∧ ToldAt w' (hostC g1 a1 (pubL a1) OW sh) hostS 9 v ∧ Ta W0.heap.size W0 A ((p, pubL a1) :: (q, refKeyL a1) :: [(o, OW), (ih, sh), (ig, sg), (ik, sk)]) 34 w' ∧ Kept W w') := fun p q W h => snCheckHost_any h (by omega) g1 (by omega) a1 (.head _) (.tail _ (.tail _ (.head _))) (.tail _ (.tail _ (.tail _ (.head _))))
      have HR3 : Hid (∀ W, Calls Tryz.prog 31 #[.string (bs g1), .int .i64 a1, .string (bs (pubL a1)), .string (bs OW), .string (bs sh)] W fun e w' => e = .returned (.string (partS (hostC g1 a1 (pubL a1) OW sh))) ∧ Below W.heap.size W w') := fun W => r22CheckHost_any g1 a1 (pubL a1) OW sh (pubOk_pub a1) (by omega) (by omega) W
      have HCk : Hid (∀ W, Kept W3 W → W.cell? ⟨w.heap.size + 1, 2, none⟩ = some (.string (bs g1)) ∧ W.cell? ⟨w.heap.size + 1, 3, none⟩ = some (.int .i64 a1)) := fun W hk => ⟨(HC.out W hk).2.2.1, (HC.out W hk).2.2.2⟩
      have HDn : Hid (∀ (p q : Int) W, Ta W0.heap.size W0 A ((p, pubL a1) :: (q, refKeyL a1) :: [(o, OW), (ih, sh), (ig, sg), (ik, sk)]) 34 W → Ta W0.heap.size W0 A [(o, OW), (ih, sh), (ig, sg), (ik, sk)] 34 W) := fun p q W h => h.mono (Nat.le_refl _) (fun x hx => .tail _ (.tail _ hx))
      clear HC
      generalize hostC g1 a1 sk sg sh = CA at *
      generalize hostC g1 a1 (pubL a1) OW sh = CB at *
      generalize pubL a1 = PW at *
      generalize refKeyL a1 = KW at *
      have kd : Kept W3 wr.drew := hkp.trans (Kept.ofBelow (Below.refl _ _).drew)
      have td := hta.drew
      obtain ⟨f0, f1⟩ := HCk.out _ kd
      obtain ⟨f2, f3⟩ := HCk.out _ hkp
      go_upto_region 14 with fail
      go_region_held3 (fun w' => w'.cell? ⟨w.heap.size + 1, 2, none⟩ = some (.string (bs g1)) ∧ w'.cell? ⟨w.heap.size + 1, 3, none⟩ = some (.int .i64 a1))
        (first | with_reducible exact HCk.out _ kd | with_reducible exact HCk.out _ k1 | with_reducible exact HCk.out _ k2 | with_reducible exact HCk.out _ k3 | go_keep)
        (first
          | (go_at_call 27; (with_reducible refine (HK.out _ td).mono ?_); rintro e m1 ⟨q, rfl, s1, j1⟩; have k1 := kd.trans j1; obtain ⟨r0, r1⟩ := HCk.out _ k1)
          | (go_at_call 26; (with_reducible refine (HPb.out _ _ s1).mono ?_); rintro e m2 ⟨p, rfl, s2, j2⟩; have k2 := k1.trans j2; obtain ⟨r2, r3⟩ := HCk.out _ k2)
          | (go_at_call 28; (with_reducible refine (HRP.out _).mono ?_); rintro e m3 ⟨rfl, b3⟩; have s3 := s2.below b3; have k3 := k2.trans (Kept.ofBelow b3); obtain ⟨r4, r5⟩ := HCk.out _ k3))
      have k3d := k3.trans (Kept.ofBelow (Below.refl _ _).drew)
      have s3d := s3.drew
      obtain ⟨x0', x1'⟩ := HCk.out _ k3d
      clear f0 f1 f2 f3 r0 r1 r2 r3 r4 r5 s1 s2 j1 j2 td
      go_upto_region 15 with fail
      go_region_held3 (fun w' => w'.cell? ⟨w.heap.size + 1, 2, none⟩ = some (.string (bs g1)) ∧ w'.cell? ⟨w.heap.size + 1, 3, none⟩ = some (.int .i64 a1))
        (first | with_reducible exact HCk.out _ k3d | with_reducible exact HCk.out _ k4 | with_reducible exact HCk.out _ k5 | with_reducible exact HCk.out _ k6 | go_keep)
        (first
          | (go_at_call 30; (with_reducible refine (HC1.out _ _ _ s3d).mono ?_); rintro e m4 ⟨v4, rfl, f4, s4, j4⟩; have k4 := k3d.trans j4; obtain ⟨r6, r7⟩ := HCk.out _ k4)
          | (go_at_call 31; (with_reducible refine (HR1.out _).mono ?_); rintro e m5 ⟨rfl, b5⟩; have s5 := s4.below b5; have k5 := k4.trans (Kept.ofBelow b5); have f5 := f4.kept (Kept.ofBelow b5); obtain ⟨r8, r9⟩ := HCk.out _ k5)
          | (go_at_call 29; (with_reducible refine (HTd.out _ _ _ s5.bel f5).mono ?_); rintro e m6 ⟨rfl, b6⟩; have s6 := s5.below b6; have k6 := k5.trans (Kept.ofBelow b6); obtain ⟨r10, r11⟩ := HCk.out _ k6))
      have k6d := k6.trans (Kept.ofBelow (Below.refl _ _).drew)
      have s6d := s6.drew
      obtain ⟨x2', x3'⟩ := HCk.out _ k6d
      clear r6 r7 r8 r9 r10 r11 s3d s4 s5 x0' x1' f4 f5 j4
      go_upto_region 18 with fail
      go_region_held3 (fun w' => w'.cell? ⟨w.heap.size + 1, 2, none⟩ = some (.string (bs g1)) ∧ w'.cell? ⟨w.heap.size + 1, 3, none⟩ = some (.int .i64 a1))
        (first | with_reducible exact HCk.out _ k6d | with_reducible exact HCk.out _ k7 | with_reducible exact HCk.out _ k8 | with_reducible exact HCk.out _ k9 | go_keep)
        (first
          | (go_at_call 30; (with_reducible refine (HC3.out _ _ _ s6d).mono ?_); rintro e m7 ⟨v7, rfl, f7, s7, j7⟩; have k7 := k6d.trans j7; obtain ⟨r12, r13⟩ := HCk.out _ k7)
          | (go_at_call 31; (with_reducible refine (HR3.out _).mono ?_); rintro e m8 ⟨rfl, b8⟩; have s8 := s7.below b8; have k8 := k7.trans (Kept.ofBelow b8); have f8 := f7.kept (Kept.ofBelow b8); obtain ⟨r14, r15⟩ := HCk.out _ k8)
          | (go_at_call 29; (with_reducible refine (HTd.out _ _ _ s8.bel f8).mono ?_); rintro e m9 ⟨rfl, b9⟩; have s9 := s8.below b9; have k9 := k8.trans (Kept.ofBelow b9); obtain ⟨r16, r17⟩ := HCk.out _ k9))
      go_wp2_with fail
      go_roundw
      case rel => exact ⟨2, by omega, by go_num, HDn.out _ _ _ s9, k9⟩
      case measure => simp [intOf]
    · have tF := Lib.hid hta
      clear hta hkp HC
      go_wp2_with (go_at_call 22; (with_reducible refine (HAw.out _ tF.out.bel).mono ?_); rintro e m1 ⟨rfl, b1⟩; have s1 := tF.out.below b1)
      go_ret
      exact ⟨rfl, HB0.out.trans (s1.bel.mono HB0.out.size)⟩

end Go.Proofs.YtbnecckgapainaaGreatDoor
