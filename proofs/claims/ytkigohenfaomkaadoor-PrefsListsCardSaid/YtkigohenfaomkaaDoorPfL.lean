/- Layer 15: the law PrefsLists. -/
import Derived.Test.YtkigohenfaomkaaDoorPfV
import Derived.Test.YtkigohenfaomkaaDoorPfT
import Derived.Test.YtkigohenfaomkaaDoorPfB
namespace Go.Proofs.YtkigohenfaomkaaDoor
open Go.RowKit

set_option maxHeartbeats 8000000 in
set_option maxRecDepth 100000 in
theorem prefsLists_any {w : World} (hT : Tab15 w) {u v : Nat → Value} {p q : Nat → List (List UInt8)} (h : Eight w u p) (hs : ∀ k < 8, ∀ x ∈ p k, x.length ≤ maxLen) (h' : Eight w v q) (hs' : ∀ k < 8, ∀ x ∈ q k, x.length ≤ maxLen) (z : Int) :
    Calls Tryd.prog 4 #[agg8 u, agg8 v, .int .i64 z] w fun e w' => e = .returned (.bool true) ∧ Below w.heap.size w w' := by
  have hu := h.sl
  have hv := h'.sl
  obtain ⟨a0, n0, c0, e0⟩ := hu 0 (by omega)
  obtain ⟨a1, n1, c1, e1⟩ := hu 1 (by omega)
  obtain ⟨a2, n2, c2, e2⟩ := hu 2 (by omega)
  obtain ⟨a3, n3, c3, e3⟩ := hu 3 (by omega)
  obtain ⟨a4, n4, c4, e4⟩ := hu 4 (by omega)
  obtain ⟨a5, n5, c5, e5⟩ := hu 5 (by omega)
  obtain ⟨a6, n6, c6, e6⟩ := hu 6 (by omega)
  obtain ⟨a7, n7, c7, e7⟩ := hu 7 (by omega)
  obtain ⟨b0, m0, d0, f0⟩ := hv 0 (by omega)
  obtain ⟨b1, m1, d1, f1⟩ := hv 1 (by omega)
  obtain ⟨b2, m2, d2, f2⟩ := hv 2 (by omega)
  obtain ⟨b3, m3, d3, f3⟩ := hv 3 (by omega)
  obtain ⟨b4, m4, d4, f4⟩ := hv 4 (by omega)
  obtain ⟨b5, m5, d5, f5⟩ := hv 5 (by omega)
  obtain ⟨b6, m6, d6, f6⟩ := hv 6 (by omega)
  obtain ⟨b7, m7, d7, f7⟩ := hv 7 (by omega)
  obtain ⟨E, hE⟩ : ∃ E, E = agg8 u := ⟨_, rfl⟩
  have hX : E = .agg #[.slice a0 n0 c0, .slice a1 n1 c1, .slice a2 n2 c2, .slice a3 n3 c3, .slice a4 n4 c4, .slice a5 n5 c5, .slice a6 n6 c6, .slice a7 n7 c7] := by rw [hE]; unfold agg8; rw [e0, e1, e2, e3, e4, e5, e6, e7]
  obtain ⟨G, hG⟩ : ∃ G, G = agg8 v := ⟨_, rfl⟩
  have hY : G = .agg #[.slice b0 m0 d0, .slice b1 m1 d1, .slice b2 m2 d2, .slice b3 m3 d3, .slice b4 m4 d4, .slice b5 m5 d5, .slice b6 m6 d6, .slice b7 m7 d7] := by rw [hG]; unfold agg8; rw [f0, f1, f2, f3, f4, f5, f6, f7]
  obtain ⟨w1, hw1⟩ : ∃ w1, w1 = (w.alloc (.cells #[.slice a0 n0 c0, .slice a1 n1 c1, .slice a2 n2 c2, .slice a3 n3 c3, .slice a4 n4 c4, .slice a5 n5 c5, .slice a6 n6 c6, .slice a7 n7 c7] 24)).alloc (.cells #[.slice b0 m0 d0, .slice b1 m1 d1, .slice b2 m2 d2, .slice b3 m3 d3, .slice b4 m4 d4, .slice b5 m5 d5, .slice b6 m6 d6, .slice b7 m7 d7] 24) := ⟨_, rfl⟩
  have hn1 : (w.alloc (.cells #[.slice a0 n0 c0, .slice a1 n1 c1, .slice a2 n2 c2, .slice a3 n3 c3, .slice a4 n4 c4, .slice a5 n5 c5, .slice a6 n6 c6, .slice a7 n7 c7] 24)).heap.size = w.heap.size + 1 := World.size_alloc _ _
  have hb1 : Below w.heap.size w w1 := by rw [hw1]; exact ((Below.refl _ _).alloc (Nat.le_refl _) _).alloc (by rw [hn1]; omega) _
  have hs1 : w1.heap.size = w.heap.size + 1 + 1 := by rw [hw1, World.size_alloc, hn1]
  have hr0 : w1.heap[w.heap.size]? = some (.cells #[.slice a0 n0 c0, .slice a1 n1 c1, .slice a2 n2 c2, .slice a3 n3 c3, .slice a4 n4 c4, .slice a5 n5 c5, .slice a6 n6 c6, .slice a7 n7 c7] 24 (0, 0)) := by
    rw [hw1]
    exact (((Below.refl _ (w.alloc (.cells #[.slice a0 n0 c0, .slice a1 n1 c1, .slice a2 n2 c2, .slice a3 n3 c3, .slice a4 n4 c4, .slice a5 n5 c5, .slice a6 n6 c6, .slice a7 n7 c7] 24))).alloc (Nat.le_refl _) (.cells #[.slice b0 m0 d0, .slice b1 m1 d1, .slice b2 m2 d2, .slice b3 m3 d3, .slice b4 m4 d4, .slice b5 m5 d5, .slice b6 m6 d6, .slice b7 m7 d7] 24)).block _ (by rw [hn1]; omega)).trans (heap_alloc_new w (.cells #[.slice a0 n0 c0, .slice a1 n1 c1, .slice a2 n2 c2, .slice a3 n3 c3, .slice a4 n4 c4, .slice a5 n5 c5, .slice a6 n6 c6, .slice a7 n7 c7] 24))
  have hr1 : w1.heap[w.heap.size + 1]? = some (.cells #[.slice b0 m0 d0, .slice b1 m1 d1, .slice b2 m2 d2, .slice b3 m3 d3, .slice b4 m4 d4, .slice b5 m5 d5, .slice b6 m6 d6, .slice b7 m7 d7] 24 (0, 0)) := by
    rw [hw1]
    have := heap_alloc_new (w.alloc (.cells #[.slice a0 n0 c0, .slice a1 n1 c1, .slice a2 n2 c2, .slice a3 n3 c3, .slice a4 n4 c4, .slice a5 n5 c5, .slice a6 n6 c6, .slice a7 n7 c7] 24)) (.cells #[.slice b0 m0 d0, .slice b1 m1 d1, .slice b2 m2 d2, .slice b3 m3 d3, .slice b4 m4 d4, .slice b5 m5 d5, .slice b6 m6 d6, .slice b7 m7 d7] 24)
    rwa [hn1] at this
  have HBx : Hid (∀ W, Below w1.heap.size w1 W → W.heap[w.heap.size]? = some (.cells #[.slice a0 n0 c0, .slice a1 n1 c1, .slice a2 n2 c2, .slice a3 n3 c3, .slice a4 n4 c4, .slice a5 n5 c5, .slice a6 n6 c6, .slice a7 n7 c7] 24 (0, 0)) ∧ W.heap[w.heap.size + 1]? = some (.cells #[.slice b0 m0 d0, .slice b1 m1 d1, .slice b2 m2 d2, .slice b3 m3 d3, .slice b4 m4 d4, .slice b5 m5 d5, .slice b6 m6 d6, .slice b7 m7 d7] 24 (0, 0))) := fun W hb => ⟨(hb.block _ (by omega)).trans hr0, (hb.block _ (by omega)).trans hr1⟩
  have hsz : (Tryd.prog.info? 24).map (·.size) = some (#[.slice a0 n0 c0, .slice a1 n1 c1, .slice a2 n2 c2, .slice a3 n3 c3, .slice a4 n4 c4, .slice a5 n5 c5, .slice a6 n6 c6, .slice a7 n7 c7] : Array Value).size := by kernel_rfl
  have hsz2 : (Tryd.prog.info? 24).map (·.size) = some (#[.slice b0 m0 d0, .slice b1 m1 d1, .slice b2 m2 d2, .slice b3 m3 d3, .slice b4 m4 d4, .slice b5 m5 d5, .slice b6 m6 d6, .slice b7 m7 d7] : Array Value).size := by kernel_rfl
  have HBt : ∀ W, Below w1.heap.size w1 W → Below w.heap.size w W := fun W hb => hb1.trans (hb.mono hb1.size)
  have HA := Lib.hid (fun (W : World) (hb : Below w1.heap.size w1 W) => awake15_any (hT.below (HBt W hb)))
  have hfp := fun (W : World) (hb : Below w1.heap.size w1 W) => few15_any (h.below (HBt W hb)) hs
  have hfq := fun (W : World) (hb : Below w1.heap.size w1 W) => few15_any (h'.below (HBt W hb)) hs'
  rw [← hE, hX] at hfp ⊢
  rw [← hG, hY] at hfq ⊢
  have HB1 := Lib.hid hb1
  have HR1 : Hid (Below w1.heap.size w1 w1) := Below.refl _ _
  have HW := Lib.hid hw1
  obtain ⟨zp, hzp⟩ : ∃ zp : Bool, zp = true ↔ ∀ k < 8, okP15 (p k) := by
    by_cases hh : ∀ k < 8, okP15 (p k)
    · exact ⟨true, fun _ => hh, fun _ => rfl⟩
    · exact ⟨false, fun e => absurd e Bool.false_ne_true, fun e => absurd e hh⟩
  obtain ⟨zq, hzq⟩ : ∃ zq : Bool, zq = true ↔ ∀ k < 8, okP15 (q k) := by
    by_cases hh : ∀ k < 8, okP15 (q k)
    · exact ⟨true, fun _ => hh, fun _ => rfl⟩
    · exact ⟨false, fun e => absurd e Bool.false_ne_true, fun e => absurd e hh⟩
  have HFp : Hid (∀ W, Below w1.heap.size w1 W → Calls Tryd.prog 6 #[.agg #[.slice a0 n0 c0, .slice a1 n1 c1, .slice a2 n2 c2, .slice a3 n3 c3, .slice a4 n4 c4, .slice a5 n5 c5, .slice a6 n6 c6, .slice a7 n7 c7]] W fun e w' => e = .returned (.bool zp) ∧ Below W.heap.size W w') := fun W hb => (hfp W hb).mono (by
    rintro e w' ⟨z1, rfl, hz, hb'⟩
    have : z1 = zp := by rw [Bool.eq_iff_iff, hz, hzp]
    exact ⟨by rw [this], hb'⟩)
  have HFq : Hid (∀ W, Below w1.heap.size w1 W → Calls Tryd.prog 6 #[.agg #[.slice b0 m0 d0, .slice b1 m1 d1, .slice b2 m2 d2, .slice b3 m3 d3, .slice b4 m4 d4, .slice b5 m5 d5, .slice b6 m6 d6, .slice b7 m7 d7]] W fun e w' => e = .returned (.bool zq) ∧ Below W.heap.size W w') := fun W hb => (hfq W hb).mono (by
    rintro e w' ⟨z1, rfl, hz, hb'⟩
    have : z1 = zq := by rw [Bool.eq_iff_iff, hz, hzq]
    exact ⟨by rw [this], hb'⟩)
  clear hfp hfq hzq hb1 hr0 hr1 hn1 hs1
  have HWw : Hid ((w.alloc (.cells #[.slice a0 n0 c0, .slice a1 n1 c1, .slice a2 n2 c2, .slice a3 n3 c3, .slice a4 n4 c4, .slice a5 n5 c5, .slice a6 n6 c6, .slice a7 n7 c7] 24)).alloc (.cells #[.slice b0 m0 d0, .slice b1 m1 d1, .slice b2 m2 d2, .slice b3 m3 d3, .slice b4 m4 d4, .slice b5 m5 d5, .slice b6 m6 d6, .slice b7 m7 d7] 24) = w1) := hw1.symm
  cases zp with
  | false =>
    clear hzp hX hY hE hG hw1 HBt h h' hs hs' hu hv hT e0 e1 e2 e3 e4 e5 e6 e7 f0 f1 f2 f3 f4 f5 f6 f7
    go_enter Tryd.func4, Tryd.ntmps4
    go_wp2_with (first
      | (go_at_call 6; rw [HWw.out]; (with_reducible refine (HFp.out _ HR1.out).mono ?_); rintro e w2 ⟨rfl, g2⟩; have B2 := Lib.hid g2; clear g2)
      | (go_at_call 7; (with_reducible refine (HA.out _ B2.out).mono ?_); rintro e w5 ⟨rfl, g5⟩; have B5 := Lib.hid (B2.out.trans (g5.mono B2.out.size)); clear g5))
    go_ret
    exact ⟨rfl, HB1.out.trans (B5.out.mono HB1.out.size)⟩
  | true =>
  cases zq with
  | false =>
    clear hzp hX hY hE hG hw1 HBt h h' hs hs' hu hv hT e0 e1 e2 e3 e4 e5 e6 e7 f0 f1 f2 f3 f4 f5 f6 f7
    go_enter Tryd.func4, Tryd.ntmps4
    go_wp2_with (first
      | (go_at_call 6; rw [HWw.out]; (with_reducible refine (HFp.out _ HR1.out).mono ?_); rintro e w2 ⟨rfl, g2⟩; have B2 := Lib.hid g2; obtain ⟨y0, y1, y2, y3, y4, y5, y6, y7⟩ := row8 (HBx.out _ g2).2; clear g2)
      | (go_at_call 6; (with_reducible refine (HFq.out _ B2.out).mono ?_); rintro e w3 ⟨rfl, g3⟩; have B3 := Lib.hid (B2.out.trans (g3.mono B2.out.size)); clear g3)
      | (go_at_call 7; (with_reducible refine (HA.out _ B3.out).mono ?_); rintro e w5 ⟨rfl, g5⟩; have B5 := Lib.hid (B3.out.trans (g5.mono B3.out.size)); clear g5))
    go_ret
    exact ⟨rfl, HB1.out.trans (B5.out.mono HB1.out.size)⟩
  | true =>
  have hok := hzp.1 rfl
  have hl20 : ∀ k < 8, (p k).length ≤ 1000 := fun k hk => by have := (hok k hk).1; omega
  have HLs : Hid (∀ W, Below w1.heap.size w1 W → Calls Tryd.prog 12 #[.agg #[.slice a0 n0 c0, .slice a1 n1 c1, .slice a2 n2 c2, .slice a3 n3 c3, .slice a4 n4 c4, .slice a5 n5 c5, .slice a6 n6 c6, .slice a7 n7 c7]] W fun e w' => ∃ (b c : Nat) (u' : Nat → Value), e = .returned (.slice (some ⟨b, 0, none⟩) 8 c) ∧ b < w'.heap.size ∧ 8 ≤ c ∧ (∀ k < 8, w'.cell? ⟨b, k, none⟩ = some (u' k) ∧ TextsAt w' (u' k) ((p k).map bs)) ∧ Below W.heap.size W w') := fun W hb => by
    rw [← hX, hE]
    exact pfLists_any (fun k hk => (h.at_ k hk).below (HBt W hb)) hl20
  have HRl : Hid (∀ W, Below w1.heap.size w1 W → Calls Tryd.prog 13 #[.agg #[.slice a0 n0 c0, .slice a1 n1 c1, .slice a2 n2 c2, .slice a3 n3 c3, .slice a4 n4 c4, .slice a5 n5 c5, .slice a6 n6 c6, .slice a7 n7 c7]] W fun e w' => ∃ b, e = .returned (.slice (some ⟨b, 0, none⟩) 8 8) ∧ b < w'.heap.size ∧ (∀ k < 8, w'.cell? ⟨b, k, none⟩ = some (u k)) ∧ Below W.heap.size W w') := fun W hb => by
    rw [← hX, hE]
    exact r15Lists_any fun k hk => (h.at_ k hk).below (HBt W hb)
  have HAt : Hid (∀ W, Below w1.heap.size w1 W → (∀ k < 8, TextsAt W (u k) ((p k).map bs)) ∧ ∀ k < 8, TextsAt W (v k) ((q k).map bs)) := fun W hb => ⟨fun k hk => (h.at_ k hk).below (HBt W hb), fun k hk => (h'.at_ k hk).below (HBt W hb)⟩
  have HLe : Hid (∀ k < 8, (p k).length ≤ maxLen) := h.len
  have HL2 := Lib.hid hl20
  have HLi := Lib.hid (fun (W : World) (hb : Below w1.heap.size w1 W) => pfList_any (hT.below (HBt W hb)) z)
  have HWo : Hid (∀ W, Calls Tryd.prog 11 #[.int .i64 z] W fun e w' => e = .returned (.string (bs (wordZ z))) ∧ Below W.heap.size W w') := fun W => r15Word_any z W
  have HXE : Hid ((.agg #[.slice a0 n0 c0, .slice a1 n1 c1, .slice a2 n2 c2, .slice a3 n3 c3, .slice a4 n4 c4, .slice a5 n5 c5, .slice a6 n6 c6, .slice a7 n7 c7] : Value) = agg8 u) := by rw [← hX, hE]; exact rfl
  have HYE : Hid ((.agg #[.slice b0 m0 d0, .slice b1 m1 d1, .slice b2 m2 d2, .slice b3 m3 d3, .slice b4 m4 d4, .slice b5 m5 d5, .slice b6 m6 d6, .slice b7 m7 d7] : Value) = agg8 v) := by rw [← hY, hG]; exact rfl
  have HU := Lib.hid hu
  clear hzp hok hl20 hX hY hE hG hw1 HBt h h' hs hs' hu hv hT e0 e1 e2 e3 e4 e5 e6 e7 f0 f1 f2 f3 f4 f5 f6 f7
  go_enter Tryd.func4, Tryd.ntmps4
  go_wp2_with (first
    | (go_at_call 6; rw [HWw.out]; (with_reducible refine (HFp.out _ HR1.out).mono ?_); rintro e w2 ⟨rfl, g2⟩; have B2 := Lib.hid g2; obtain ⟨y0, y1, y2, y3, y4, y5, y6, y7⟩ := row8 (HBx.out _ g2).2; clear g2)
    | (go_at_call 6; (with_reducible refine (HFq.out _ B2.out).mono ?_); rintro e w3 ⟨rfl, g3⟩; have B3 := Lib.hid (B2.out.trans (g3.mono B2.out.size)); clear g3)
    | (go_at_call 12; (with_reducible refine (HLs.out _ B3.out).mono ?_); rintro e w4 ⟨bL, cL, u4, rfl, hL1, hL2, hL3, g4⟩; have B4 := Lib.hid (B3.out.trans (g4.mono B3.out.size)); have K1 := Lib.hid hL1; have K2 := Lib.hid hL3; clear g4 hL1 hL3)
    | (go_at_call 13; (with_reducible refine (HRl.out _ B4.out).mono ?_); rintro e w5 ⟨bW, rfl, hW1, hW2, g5⟩; have B5 := Lib.hid (B4.out.trans (g5.mono B4.out.size)); have G5 := Lib.hid g5; have K3 := Lib.hid hW1; have K4 := Lib.hid hW2; clear g5 hW1 hW2)
    | (refine wpList_load_row rfl 24 _ rfl w.heap.size rfl 24 _ (0, 0) _ (HBx.out _ B4.out).1 Tryd.underlying24 rfl hsz ?_)
    | (refine wpList_load_row rfl 24 _ rfl w.heap.size rfl 24 _ (0, 0) _ (HBx.out _ B3.out).1 Tryd.underlying24 rfl hsz ?_))
  have HK5 : Hid (∀ W, Below w5.heap.size w5 W → bL < W.heap.size ∧ ∀ k < 8, W.cell? ⟨bL, k, none⟩ = some (u4 k) ∧ W.cell? ⟨bW, k, none⟩ = some (u k) ∧ TextsAt W (u4 k) ((p k).map bs)) := fun W hb =>
    ⟨Nat.lt_of_lt_of_le K1.out (Nat.le_trans G5.out.size hb.size), fun k hk => ⟨(hb.cell (p := ⟨bL, k, none⟩) (Nat.lt_of_lt_of_le K1.out G5.out.size)).trans ((G5.out.cell (p := ⟨bL, k, none⟩) K1.out).trans (K2.out k hk).1), (hb.cell (p := ⟨bW, k, none⟩) K3.out).trans (K4.out k hk), (((K2.out k hk).2).below G5.out).below hb⟩⟩
  have HU4 : Hid (∀ k < 8, ∃ a n c, u4 k = .slice a n c) := fun k hk => texts_some (K2.out k hk).2
  clear K1 K2 K3 K4 G5 B2 B3 B4 HFp HFq HLs HRl y0 y1 y2 y3 y4 y5 y6 y7
  go_loopw [9] (fun i wr => ∃ k : Nat, k ≤ 8 ∧ i = .int .i64 k ∧ Below w5.heap.size w5 wr) (fun i _ => 9 - (intOf i).toNat)
  case atStart => exact ⟨0, Nat.zero_le _, rfl, Below.refl _ _⟩
  case round =>
    obtain ⟨k, hk, rfl, hb⟩ := hrel
    by_cases hlt : k < 8
    · obtain ⟨ak, nk, ck, ek⟩ := HU4.out k hlt
      obtain ⟨bk, mk, dk, fk⟩ := HU.out k hlt
      have hlk : ∀ W, Below wr.drew.heap.size wr.drew W → W.cell? ⟨bL, k, none⟩ = some (u4 k) ∧ W.cell? ⟨bW, k, none⟩ = some (u k) := fun W hW => ⟨((HK5.out W (hb.drew.trans (hW.mono hb.drew.size))).2 k hlt).1, ((HK5.out W (hb.drew.trans (hW.mono hb.drew.size))).2 k hlt).2.1⟩
      have hbd := hb.drew
      have hq := same_any ((HK5.out wr.drew hbd).2 k hlt).2.2 ((HAt.out wr.drew (B5.out.trans (hbd.mono B5.out.size))).1 k hlt) (by rw [List.length_map]; exact HLe.out k hlt)
      rw [decide_eq_true rfl] at hq
      obtain ⟨k1, k2⟩ := hlk wr.drew (Below.refl _ _)
      rw [ek] at k1 hq hlk
      rw [fk] at k2 hq hlk
      have HQk := Lib.hid hq
      have HLk := Lib.hid hlk
      have HBk := Lib.hid hbd
      clear hb hbd hlk hq ek fk HK5 HU4 HU HAt HLe HBx HA HLi HWo HXE HYE HW HWw HR1 HB1 B5 HL2
      go_wp2_with fail
      go_region_held3 (fun w' => w'.cell? ⟨bL, k, none⟩ = some (.slice ak nk ck) ∧ w'.cell? ⟨bW, k, none⟩ = some (.slice bk mk dk))
        (first | with_reducible exact ⟨k1, k2⟩ | with_reducible exact ⟨z1, z2⟩ | go_keep)
        (first | (go_at_call 14; (with_reducible refine HQk.out.mono ?_); rintro e w6 ⟨rfl, g6⟩; have B6 := Lib.hid (HBk.out.trans (g6.mono HBk.out.size)); obtain ⟨z1, z2⟩ := HLk.out _ g6; clear g6))
      all_goals
        go_wp2_with fail
        go_roundw
        case rel => exact ⟨k + 1, by omega, by go_num, B6.out⟩
        case measure => simp [intOf]; omega
    · have hkl : k = 8 := by omega
      subst hkl
      obtain ⟨hbL, hK⟩ := HK5.out wr hb
      have hB6 := B5.out.trans (hb.mono B5.out.size)
      have hof := pfOf_eight (c := cL) hbL (fun k hk => ⟨(hK k hk).1, (hK k hk).2.2⟩) HL2.out
      have HOf : Hid (Calls Tryd.prog 15 #[.slice (some ⟨bL, 0, none⟩) 8 cL] wr fun e w' => ∃ (u' : Nat → Value) (A0 A1 A2 A3 A4 A5 A6 A7 : Option Addr) (N0 N1 N2 N3 N4 N5 N6 N7 C0 C1 C2 C3 C4 C5 C6 C7 : Nat), e = .returned (.tuple #[.agg #[.slice A0 N0 C0, .slice A1 N1 C1, .slice A2 N2 C2, .slice A3 N3 C3, .slice A4 N4 C4, .slice A5 N5 C5, .slice A6 N6 C6, .slice A7 N7 C7], .bool true]) ∧ (.agg #[.slice A0 N0 C0, .slice A1 N1 C1, .slice A2 N2 C2, .slice A3 N3 C3, .slice A4 N4 C4, .slice A5 N5 C5, .slice A6 N6 C6, .slice A7 N7 C7] : Value) = agg8 u' ∧ (∀ k < 8, TextsAt w' (u' k) ((p k).map bs)) ∧ Below wr.heap.size wr w') := hof.mono (by
        rintro e w' ⟨u', rfl, ht, hbl⟩
        obtain ⟨A0, N0, C0, g0⟩ := texts_some (ht 0 (by omega))
        obtain ⟨A1, N1, C1, g1⟩ := texts_some (ht 1 (by omega))
        obtain ⟨A2, N2, C2, g2⟩ := texts_some (ht 2 (by omega))
        obtain ⟨A3, N3, C3, g3⟩ := texts_some (ht 3 (by omega))
        obtain ⟨A4, N4, C4, g4⟩ := texts_some (ht 4 (by omega))
        obtain ⟨A5, N5, C5, g5⟩ := texts_some (ht 5 (by omega))
        obtain ⟨A6, N6, C6, g6⟩ := texts_some (ht 6 (by omega))
        obtain ⟨A7, N7, C7, g7⟩ := texts_some (ht 7 (by omega))
        have hx : (.agg #[.slice A0 N0 C0, .slice A1 N1 C1, .slice A2 N2 C2, .slice A3 N3 C3, .slice A4 N4 C4, .slice A5 N5 C5, .slice A6 N6 C6, .slice A7 N7 C7] : Value) = agg8 u' := by unfold agg8; rw [g0, g1, g2, g3, g4, g5, g6, g7]
        exact ⟨u', A0, A1, A2, A3, A4, A5, A6, A7, N0, N1, N2, N3, N4, N5, N6, N7, C0, C1, C2, C3, C4, C5, C6, C7, by rw [hx], hx, ht, hbl⟩)
      have HO7 : Hid (∀ W, Calls Tryd.prog 15 #[.slice (some ⟨bL, 0, none⟩) 7 cL] W fun e w' => e = .returned (.tuple #[.agg #[.slice none 0 0, .slice none 0 0, .slice none 0 0, .slice none 0 0, .slice none 0 0, .slice none 0 0, .slice none 0 0, .slice none 0 0], .bool false]) ∧ Below W.heap.size W w') := fun W => pfOf_seven
      have HB6 := Lib.hid hB6
      have h7 : 7 ≤ cL := by omega
      clear hb hlt hbL hK hB6 hof HK5 HU4 B5
      go_wp2_with (first
        | (go_at_call 15; (with_reducible refine HOf.out.mono ?_); rintro e w7 ⟨u7, A0, A1, A2, A3, A4, A5, A6, A7, N0, N1, N2, N3, N4, N5, N6, N7, C0, C1, C2, C3, C4, C5, C6, C7, rfl, hx7, ht7, g7⟩; have HX7 := Lib.hid hx7; have HT7 := Lib.hid ht7; have B7 := Lib.hid (HB6.out.trans (g7.mono HB6.out.size)); have CC7 : Hid (Below w7.heap.size w7 (w7.alloc (.cells #[.slice A0 N0 C0, .slice A1 N1 C1, .slice A2 N2 C2, .slice A3 N3 C3, .slice A4 N4 C4, .slice A5 N5 C5, .slice A6 N6 C6, .slice A7 N7 C7] 24))) := (Below.refl _ _).alloc (Nat.le_refl _) _; clear hx7 ht7 g7)
        | (go_at_call 15; (with_reducible refine (HO7.out _).mono ?_); rintro e w8 ⟨rfl, g8⟩; have D8 := Lib.hid g8; clear g8))
      have HD9 : Hid (Below (w7.alloc (.cells #[.slice A0 N0 C0, .slice A1 N1 C1, .slice A2 N2 C2, .slice A3 N3 C3, .slice A4 N4 C4, .slice A5 N5 C5, .slice A6 N6 C6, .slice A7 N7 C7] 24)).heap.size (w7.alloc (.cells #[.slice A0 N0 C0, .slice A1 N1 C1, .slice A2 N2 C2, .slice A3 N3 C3, .slice A4 N4 C4, .slice A5 N5 C5, .slice A6 N6 C6, .slice A7 N7 C7] 24)) (w8.alloc (.cells #[.slice none 0 0, .slice none 0 0, .slice none 0 0, .slice none 0 0, .slice none 0 0, .slice none 0 0, .slice none 0 0, .slice none 0 0] 24))) := D8.out.alloc D8.out.size _
      have HC9 : Hid (Below w7.heap.size w7 (w8.alloc (.cells #[.slice none 0 0, .slice none 0 0, .slice none 0 0, .slice none 0 0, .slice none 0 0, .slice none 0 0, .slice none 0 0, .slice none 0 0] 24))) := CC7.out.trans (HD9.out.mono CC7.out.size)
      have HB9 : Hid (Below w1.heap.size w1 (w8.alloc (.cells #[.slice none 0 0, .slice none 0 0, .slice none 0 0, .slice none 0 0, .slice none 0 0, .slice none 0 0, .slice none 0 0, .slice none 0 0] 24))) := B7.out.trans (HC9.out.mono B7.out.size)
      obtain ⟨w9, hw9⟩ : ∃ w9, w9 = (w8.alloc (.cells #[.slice none 0 0, .slice none 0 0, .slice none 0 0, .slice none 0 0, .slice none 0 0, .slice none 0 0, .slice none 0 0, .slice none 0 0] 24)) := ⟨_, rfl⟩
      rw [← hw9] at HD9 HC9 HB9
      have HS : Hid (∀ W, Below w9.heap.size w9 W → ((W.cell? ⟨w7.heap.size, 0, none⟩ = some (.slice A0 N0 C0) ∧ W.cell? ⟨w7.heap.size, 1, none⟩ = some (.slice A1 N1 C1) ∧ W.cell? ⟨w7.heap.size, 2, none⟩ = some (.slice A2 N2 C2) ∧ W.cell? ⟨w7.heap.size, 3, none⟩ = some (.slice A3 N3 C3) ∧ W.cell? ⟨w7.heap.size, 4, none⟩ = some (.slice A4 N4 C4) ∧ W.cell? ⟨w7.heap.size, 5, none⟩ = some (.slice A5 N5 C5) ∧ W.cell? ⟨w7.heap.size, 6, none⟩ = some (.slice A6 N6 C6) ∧ W.cell? ⟨w7.heap.size, 7, none⟩ = some (.slice A7 N7 C7)) ∧ (W.cell? ⟨w.heap.size, 0, none⟩ = some (.slice a0 n0 c0) ∧ W.cell? ⟨w.heap.size, 1, none⟩ = some (.slice a1 n1 c1) ∧ W.cell? ⟨w.heap.size, 2, none⟩ = some (.slice a2 n2 c2) ∧ W.cell? ⟨w.heap.size, 3, none⟩ = some (.slice a3 n3 c3) ∧ W.cell? ⟨w.heap.size, 4, none⟩ = some (.slice a4 n4 c4) ∧ W.cell? ⟨w.heap.size, 5, none⟩ = some (.slice a5 n5 c5) ∧ W.cell? ⟨w.heap.size, 6, none⟩ = some (.slice a6 n6 c6) ∧ W.cell? ⟨w.heap.size, 7, none⟩ = some (.slice a7 n7 c7)) ∧ (W.cell? ⟨w.heap.size + 1, 0, none⟩ = some (.slice b0 m0 d0) ∧ W.cell? ⟨w.heap.size + 1, 1, none⟩ = some (.slice b1 m1 d1) ∧ W.cell? ⟨w.heap.size + 1, 2, none⟩ = some (.slice b2 m2 d2) ∧ W.cell? ⟨w.heap.size + 1, 3, none⟩ = some (.slice b3 m3 d3) ∧ W.cell? ⟨w.heap.size + 1, 4, none⟩ = some (.slice b4 m4 d4) ∧ W.cell? ⟨w.heap.size + 1, 5, none⟩ = some (.slice b5 m5 d5) ∧ W.cell? ⟨w.heap.size + 1, 6, none⟩ = some (.slice b6 m6 d6) ∧ W.cell? ⟨w.heap.size + 1, 7, none⟩ = some (.slice b7 m7 d7)))) := fun W hb => ⟨row8 (((HD9.out.trans (hb.mono HD9.out.size)).block _ (by rw [World.size_alloc]; omega)).trans (heap_alloc_new w7 _)), row8 (HBx.out W (HB9.out.trans (hb.mono HB9.out.size))).1, row8 (HBx.out W (HB9.out.trans (hb.mono HB9.out.size))).2⟩
      have HTu : ∀ W, Below w9.heap.size w9 W → (∀ k < 8, TextsAt W (u7 k) ((p k).map bs)) ∧ (∀ k < 8, TextsAt W (u k) ((p k).map bs)) ∧ ∀ k < 8, TextsAt W (v k) ((q k).map bs) := fun W hb => ⟨fun k hk => (HT7.out k hk).below (HC9.out.trans (hb.mono HC9.out.size)), HAt.out W (HB9.out.trans (hb.mono HB9.out.size))⟩
      have hSame : Same15 p p := fun _ _ => rfl
      have HS1 : Hid (∀ W, Below w9.heap.size w9 W → Calls Tryd.prog 16 #[.agg #[.slice A0 N0 C0, .slice A1 N1 C1, .slice A2 N2 C2, .slice A3 N3 C3, .slice A4 N4 C4, .slice A5 N5 C5, .slice A6 N6 C6, .slice A7 N7 C7], .agg #[.slice a0 n0 c0, .slice a1 n1 c1, .slice a2 n2 c2, .slice a3 n3 c3, .slice a4 n4 c4, .slice a5 n5 c5, .slice a6 n6 c6, .slice a7 n7 c7]] W fun e w' => e = .returned (.bool true) ∧ Below W.heap.size W w') := fun W hb => by
        rw [HX7.out, HXE.out]
        exact (same15_any (HTu W hb).1 (HTu W hb).2.1 HLe.out).mono (by rintro e w' ⟨zz, rfl, hz, hb'⟩; rw [hz.2 hSame]; exact ⟨rfl, hb'⟩)
      have HS2 : Hid (∀ W, Below w9.heap.size w9 W → Calls Tryd.prog 17 #[.agg #[.slice A0 N0 C0, .slice A1 N1 C1, .slice A2 N2 C2, .slice A3 N3 C3, .slice A4 N4 C4, .slice A5 N5 C5, .slice A6 N6 C6, .slice A7 N7 C7], .agg #[.slice a0 n0 c0, .slice a1 n1 c1, .slice a2 n2 c2, .slice a3 n3 c3, .slice a4 n4 c4, .slice a5 n5 c5, .slice a6 n6 c6, .slice a7 n7 c7]] W fun e w' => e = .returned (.bool true) ∧ Below W.heap.size W w') := fun W hb => by
        rw [HX7.out, HXE.out]
        exact (pfSame_any (HTu W hb).1 (HTu W hb).2.1 HLe.out).mono (by rintro e w' ⟨zz, rfl, hz, hb'⟩; rw [hz.2 hSame]; exact ⟨rfl, hb'⟩)
      obtain ⟨zB, hzB⟩ : ∃ zB : Bool, zB = true ↔ Same15 p q := by
        by_cases hh : Same15 p q
        · exact ⟨true, fun _ => hh, fun _ => rfl⟩
        · exact ⟨false, fun e => absurd e Bool.false_ne_true, fun e => absurd e hh⟩
      have HS3 : Hid (∀ W, Below w9.heap.size w9 W → Calls Tryd.prog 17 #[.agg #[.slice a0 n0 c0, .slice a1 n1 c1, .slice a2 n2 c2, .slice a3 n3 c3, .slice a4 n4 c4, .slice a5 n5 c5, .slice a6 n6 c6, .slice a7 n7 c7], .agg #[.slice b0 m0 d0, .slice b1 m1 d1, .slice b2 m2 d2, .slice b3 m3 d3, .slice b4 m4 d4, .slice b5 m5 d5, .slice b6 m6 d6, .slice b7 m7 d7]] W fun e w' => e = .returned (.bool zB) ∧ Below W.heap.size W w') := fun W hb => by
        rw [HXE.out, HYE.out]
        exact (pfSame_any (HTu W hb).2.1 (HTu W hb).2.2 HLe.out).mono (by rintro e w' ⟨zz, rfl, hz, hb'⟩; have : zz = zB := (by rw [Bool.eq_iff_iff, hz, hzB]); rw [this]; exact ⟨rfl, hb'⟩)
      have HS4 : Hid (∀ W, Below w9.heap.size w9 W → Calls Tryd.prog 16 #[.agg #[.slice a0 n0 c0, .slice a1 n1 c1, .slice a2 n2 c2, .slice a3 n3 c3, .slice a4 n4 c4, .slice a5 n5 c5, .slice a6 n6 c6, .slice a7 n7 c7], .agg #[.slice b0 m0 d0, .slice b1 m1 d1, .slice b2 m2 d2, .slice b3 m3 d3, .slice b4 m4 d4, .slice b5 m5 d5, .slice b6 m6 d6, .slice b7 m7 d7]] W fun e w' => e = .returned (.bool zB) ∧ Below W.heap.size W w') := fun W hb => by
        rw [HXE.out, HYE.out]
        exact (same15_any (HTu W hb).2.1 (HTu W hb).2.2 HLe.out).mono (by rintro e w' ⟨zz, rfl, hz, hb'⟩; have : zz = zB := (by rw [Bool.eq_iff_iff, hz, hzB]); rw [this]; exact ⟨rfl, hb'⟩)
      have HA9 : Hid (∀ W, Below w9.heap.size w9 W → Calls Tryd.prog 7 #[] W fun e w' => e = .returned (.bool true) ∧ Below W.heap.size W w') := fun W hb => HA.out W (HB9.out.trans (hb.mono HB9.out.size))
      have HLi9 : Hid (∀ W, Below w9.heap.size w9 W → Calls Tryd.prog 18 #[.int .i64 z] W fun e w' => e = .returned (.string (bs (wordZ z))) ∧ w' = W) := fun W hb => HLi.out W (HB9.out.trans (hb.mono HB9.out.size))
      have hR9 : Below w9.heap.size w9 w9.drew := (Below.refl _ _).drew
      have HR9 := Lib.hid hR9
      have s0 := HS.out _ hR9
      have qS : ((bs (wordZ z)).toList == (bs (wordZ z)).toList) = true := by simp
      have qZ : (zB == zB) = true := by simp
      have HFin : Hid (Below w.heap.size w w9) := HB1.out.trans (HB9.out.mono HB1.out.size)
      have HW9 := Lib.hid hw9
      clear hw9 hzB hSame HTu hR9 HD9 HC9 HB9 D8 CC7 B7 HX7 HT7 HOf HO7 HB6 HAt HLe HL2 HBx HA HLi HXE HYE HU HW HWw HR1 HB1
      generalize bs (wordZ z) = S at *
      go_wp2_with fail
      rw [← HW9.out]
      go_region_held3 (fun w' => ((w'.cell? ⟨w7.heap.size, 0, none⟩ = some (.slice A0 N0 C0) ∧ w'.cell? ⟨w7.heap.size, 1, none⟩ = some (.slice A1 N1 C1) ∧ w'.cell? ⟨w7.heap.size, 2, none⟩ = some (.slice A2 N2 C2) ∧ w'.cell? ⟨w7.heap.size, 3, none⟩ = some (.slice A3 N3 C3) ∧ w'.cell? ⟨w7.heap.size, 4, none⟩ = some (.slice A4 N4 C4) ∧ w'.cell? ⟨w7.heap.size, 5, none⟩ = some (.slice A5 N5 C5) ∧ w'.cell? ⟨w7.heap.size, 6, none⟩ = some (.slice A6 N6 C6) ∧ w'.cell? ⟨w7.heap.size, 7, none⟩ = some (.slice A7 N7 C7)) ∧ (w'.cell? ⟨w.heap.size, 0, none⟩ = some (.slice a0 n0 c0) ∧ w'.cell? ⟨w.heap.size, 1, none⟩ = some (.slice a1 n1 c1) ∧ w'.cell? ⟨w.heap.size, 2, none⟩ = some (.slice a2 n2 c2) ∧ w'.cell? ⟨w.heap.size, 3, none⟩ = some (.slice a3 n3 c3) ∧ w'.cell? ⟨w.heap.size, 4, none⟩ = some (.slice a4 n4 c4) ∧ w'.cell? ⟨w.heap.size, 5, none⟩ = some (.slice a5 n5 c5) ∧ w'.cell? ⟨w.heap.size, 6, none⟩ = some (.slice a6 n6 c6) ∧ w'.cell? ⟨w.heap.size, 7, none⟩ = some (.slice a7 n7 c7)) ∧ (w'.cell? ⟨w.heap.size + 1, 0, none⟩ = some (.slice b0 m0 d0) ∧ w'.cell? ⟨w.heap.size + 1, 1, none⟩ = some (.slice b1 m1 d1) ∧ w'.cell? ⟨w.heap.size + 1, 2, none⟩ = some (.slice b2 m2 d2) ∧ w'.cell? ⟨w.heap.size + 1, 3, none⟩ = some (.slice b3 m3 d3) ∧ w'.cell? ⟨w.heap.size + 1, 4, none⟩ = some (.slice b4 m4 d4) ∧ w'.cell? ⟨w.heap.size + 1, 5, none⟩ = some (.slice b5 m5 d5) ∧ w'.cell? ⟨w.heap.size + 1, 6, none⟩ = some (.slice b6 m6 d6) ∧ w'.cell? ⟨w.heap.size + 1, 7, none⟩ = some (.slice b7 m7 d7))))
        (first | with_reducible exact s0 | with_reducible exact s1 | with_reducible exact s2 | with_reducible exact s3 | with_reducible exact s4 | with_reducible exact s5 | with_reducible exact s6 | with_reducible exact s7 | go_keep)
        (first
          | (go_at_call 7; (with_reducible refine (HA9.out _ HR9.out).mono ?_); rintro e x1 ⟨rfl, g⟩; have E1 := Lib.hid (HR9.out.trans (g.mono HR9.out.size)); have s1 := HS.out _ E1.out; clear g)
          | (go_at_call 16; (with_reducible refine (HS1.out _ E1.out).mono ?_); rintro e x2 ⟨rfl, g⟩; have E2 := Lib.hid (E1.out.trans (g.mono E1.out.size)); have s2 := HS.out _ E2.out; clear g)
          | (go_at_call 17; (with_reducible refine (HS3.out _ E2.out).mono ?_); rintro e x3 ⟨rfl, g⟩; have E3 := Lib.hid (E2.out.trans (g.mono E2.out.size)); have s3 := HS.out _ E3.out; clear g)
          | (go_at_call 16; (with_reducible refine (HS4.out _ E3.out).mono ?_); rintro e x4 ⟨rfl, g⟩; have E4 := Lib.hid (E3.out.trans (g.mono E3.out.size)); have s4 := HS.out _ E4.out; clear g)
          | (go_at_call 17; (with_reducible refine (HS2.out _ E4.out).mono ?_); rintro e x5 ⟨rfl, g⟩; have E5 := Lib.hid (E4.out.trans (g.mono E4.out.size)); have s5 := HS.out _ E5.out; clear g)
          | (go_at_call 18; (with_reducible refine (HLi9.out _ E5.out).mono ?_); rintro e x6 ⟨rfl, hw⟩; have hw := hw.symm; subst hw)
          | (go_at_call 11; (with_reducible refine (HWo.out _).mono ?_); rintro e x7 ⟨rfl, g⟩; have E7 := Lib.hid (E5.out.trans (g.mono E5.out.size)); have s7 := HS.out _ E7.out; clear g))
      all_goals
        go_wp2_with fail
        go_ret
        exact ⟨rfl, HFin.out.trans (E7.out.mono HFin.out.size)⟩
end Go.Proofs.YtkigohenfaomkaaDoor
