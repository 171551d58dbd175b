/- Part 28 of what the statement wants. -/
import Derived.Test.YtgoinpibllomfaaDoorPk27
namespace Go.Proofs.YtgoinpibllomfaaDoor
open Go.RowKit

theorem row8 {W : World} {B : Nat} {t : TypeId} {fr : Nat × Nat} {a0 a1 a2 a3 a4 a5 a6 a7 : Option Addr} {n0 c0 n1 c1 n2 c2 n3 c3 n4 c4 n5 c5 n6 c6 n7 c7 : Nat} (h : W.heap[B]? = some (.cells #[.slice a0 n0 c0, .slice a1 n1 c1, .slice a2 n2 c2, .slice a3 n3 c3, .slice a4 n4 c4, .slice a5 n5 c5, .slice a6 n6 c6, .slice a7 n7 c7] t fr)) : W.cell? ⟨B, 0, none⟩ = some (.slice a0 n0 c0) ∧ W.cell? ⟨B, 1, none⟩ = some (.slice a1 n1 c1) ∧ W.cell? ⟨B, 2, none⟩ = some (.slice a2 n2 c2) ∧ W.cell? ⟨B, 3, none⟩ = some (.slice a3 n3 c3) ∧ W.cell? ⟨B, 4, none⟩ = some (.slice a4 n4 c4) ∧ W.cell? ⟨B, 5, none⟩ = some (.slice a5 n5 c5) ∧ W.cell? ⟨B, 6, none⟩ = some (.slice a6 n6 c6) ∧ W.cell? ⟨B, 7, none⟩ = some (.slice a7 n7 c7) := by
  refine ⟨?_, ?_, ?_, ?_, ?_, ?_, ?_, ?_⟩ <;> (rw [cell_of_row W B _ _ _ _ h]; rfl)
set_option maxHeartbeats 4000000 in
set_option maxRecDepth 100000 in
theorem same15_any {w : World} {u v : Nat → Value} {p q : Nat → List (List UInt8)} (h : ∀ k < 8, TextsAt w (u k) ((p k).map bs)) (h' : ∀ k < 8, TextsAt w (v k) ((q k).map bs)) (hl : ∀ k < 8, (p k).length ≤ maxLen) :
    Calls Tryd.prog 38 #[agg8 u, agg8 v] w fun e w' => ∃ z : Bool, e = .returned (.bool z) ∧ (z = true ↔ Same15 p q) ∧ Below w.heap.size w w' := by
  have hu := texts_sl h
  have hv := texts_sl h'
  have hpu := fun (W : World) (hb : Below w.heap.size w W) => r15Lists_any (w := W) fun k hk => (h k hk).below hb
  have hpv := fun (W : World) (hb : Below w.heap.size w W) => r15Lists_any (w := W) fun k hk => (h' k hk).below hb
  obtain ⟨a0, n0, c0, e0⟩ := hu 0 (by omega)
  obtain ⟨a1, n1, c1, e1⟩ := hu 1 (by omega)
  obtain ⟨a2, n2, c2, e2⟩ := hu 2 (by omega)
  obtain ⟨a3, n3, c3, e3⟩ := hu 3 (by omega)
  obtain ⟨a4, n4, c4, e4⟩ := hu 4 (by omega)
  obtain ⟨a5, n5, c5, e5⟩ := hu 5 (by omega)
  obtain ⟨a6, n6, c6, e6⟩ := hu 6 (by omega)
  obtain ⟨a7, n7, c7, e7⟩ := hu 7 (by omega)
  obtain ⟨b0, m0, d0, f0⟩ := hv 0 (by omega)
  obtain ⟨b1, m1, d1, f1⟩ := hv 1 (by omega)
  obtain ⟨b2, m2, d2, f2⟩ := hv 2 (by omega)
  obtain ⟨b3, m3, d3, f3⟩ := hv 3 (by omega)
  obtain ⟨b4, m4, d4, f4⟩ := hv 4 (by omega)
  obtain ⟨b5, m5, d5, f5⟩ := hv 5 (by omega)
  obtain ⟨b6, m6, d6, f6⟩ := hv 6 (by omega)
  obtain ⟨b7, m7, d7, f7⟩ := hv 7 (by omega)
  obtain ⟨E, hE⟩ : ∃ E, E = agg8 u := ⟨_, rfl⟩
  have hX : E = .agg #[.slice a0 n0 c0, .slice a1 n1 c1, .slice a2 n2 c2, .slice a3 n3 c3, .slice a4 n4 c4, .slice a5 n5 c5, .slice a6 n6 c6, .slice a7 n7 c7] := by rw [hE]; unfold agg8; rw [e0, e1, e2, e3, e4, e5, e6, e7]
  obtain ⟨G, hG⟩ : ∃ G, G = agg8 v := ⟨_, rfl⟩
  have hY : G = .agg #[.slice b0 m0 d0, .slice b1 m1 d1, .slice b2 m2 d2, .slice b3 m3 d3, .slice b4 m4 d4, .slice b5 m5 d5, .slice b6 m6 d6, .slice b7 m7 d7] := by rw [hG]; unfold agg8; rw [f0, f1, f2, f3, f4, f5, f6, f7]
  rw [← hE] at hpu ⊢
  rw [← hG] at hpv ⊢
  rw [hX] at hpu ⊢
  rw [hY] at hpv ⊢
  have HQ : Hid (∀ (k : Nat) (hk : k < 8) (W : World), Below w.heap.size w W → Calls Tryd.prog 15 #[u k, v k] W fun e w' => e = .returned (.bool (decide (p k = q k))) ∧ Below W.heap.size W w') := fun k hk W hb => by
    have := same_any ((h k hk).below hb) ((h' k hk).below hb) (by rw [List.length_map]; exact hl k hk)
    rw [decide_bs] at this
    exact this
  have HPu := Lib.hid hpu
  have HPv := Lib.hid hpv
  have HU := Lib.hid hu
  have HV := Lib.hid hv
  obtain ⟨w1, hw1⟩ : ∃ w1, w1 = (w.alloc (.cells #[.slice a0 n0 c0, .slice a1 n1 c1, .slice a2 n2 c2, .slice a3 n3 c3, .slice a4 n4 c4, .slice a5 n5 c5, .slice a6 n6 c6, .slice a7 n7 c7] 46)).alloc (.cells #[.slice b0 m0 d0, .slice b1 m1 d1, .slice b2 m2 d2, .slice b3 m3 d3, .slice b4 m4 d4, .slice b5 m5 d5, .slice b6 m6 d6, .slice b7 m7 d7] 46) := ⟨_, rfl⟩
  have hn1 : (w.alloc (.cells #[.slice a0 n0 c0, .slice a1 n1 c1, .slice a2 n2 c2, .slice a3 n3 c3, .slice a4 n4 c4, .slice a5 n5 c5, .slice a6 n6 c6, .slice a7 n7 c7] 46)).heap.size = w.heap.size + 1 := World.size_alloc _ _
  have hb1 : Below w.heap.size w w1 := by rw [hw1]; exact ((Below.refl _ _).alloc (Nat.le_refl _) _).alloc (by rw [hn1]; omega) _
  have hs1 : w1.heap.size = w.heap.size + 1 + 1 := by rw [hw1, World.size_alloc, hn1]
  have hr0 : w1.heap[w.heap.size]? = some (.cells #[.slice a0 n0 c0, .slice a1 n1 c1, .slice a2 n2 c2, .slice a3 n3 c3, .slice a4 n4 c4, .slice a5 n5 c5, .slice a6 n6 c6, .slice a7 n7 c7] 46 (0, 0)) := by
    rw [hw1]
    exact (((Below.refl _ (w.alloc (.cells #[.slice a0 n0 c0, .slice a1 n1 c1, .slice a2 n2 c2, .slice a3 n3 c3, .slice a4 n4 c4, .slice a5 n5 c5, .slice a6 n6 c6, .slice a7 n7 c7] 46))).alloc (Nat.le_refl _) (.cells #[.slice b0 m0 d0, .slice b1 m1 d1, .slice b2 m2 d2, .slice b3 m3 d3, .slice b4 m4 d4, .slice b5 m5 d5, .slice b6 m6 d6, .slice b7 m7 d7] 46)).block _ (by rw [hn1]; omega)).trans (heap_alloc_new w (.cells #[.slice a0 n0 c0, .slice a1 n1 c1, .slice a2 n2 c2, .slice a3 n3 c3, .slice a4 n4 c4, .slice a5 n5 c5, .slice a6 n6 c6, .slice a7 n7 c7] 46))
  have hr1 : w1.heap[w.heap.size + 1]? = some (.cells #[.slice b0 m0 d0, .slice b1 m1 d1, .slice b2 m2 d2, .slice b3 m3 d3, .slice b4 m4 d4, .slice b5 m5 d5, .slice b6 m6 d6, .slice b7 m7 d7] 46 (0, 0)) := by
    rw [hw1]
    have := heap_alloc_new (w.alloc (.cells #[.slice a0 n0 c0, .slice a1 n1 c1, .slice a2 n2 c2, .slice a3 n3 c3, .slice a4 n4 c4, .slice a5 n5 c5, .slice a6 n6 c6, .slice a7 n7 c7] 46)) (.cells #[.slice b0 m0 d0, .slice b1 m1 d1, .slice b2 m2 d2, .slice b3 m3 d3, .slice b4 m4 d4, .slice b5 m5 d5, .slice b6 m6 d6, .slice b7 m7 d7] 46)
    rwa [hn1] at this
  have HRw : Hid (∀ W, Below w1.heap.size w1 W → (W.cell? ⟨w.heap.size, 0, none⟩ = some (.slice a0 n0 c0) ∧ W.cell? ⟨w.heap.size, 1, none⟩ = some (.slice a1 n1 c1) ∧ W.cell? ⟨w.heap.size, 2, none⟩ = some (.slice a2 n2 c2) ∧ W.cell? ⟨w.heap.size, 3, none⟩ = some (.slice a3 n3 c3) ∧ W.cell? ⟨w.heap.size, 4, none⟩ = some (.slice a4 n4 c4) ∧ W.cell? ⟨w.heap.size, 5, none⟩ = some (.slice a5 n5 c5) ∧ W.cell? ⟨w.heap.size, 6, none⟩ = some (.slice a6 n6 c6) ∧ W.cell? ⟨w.heap.size, 7, none⟩ = some (.slice a7 n7 c7)) ∧ (W.cell? ⟨w.heap.size + 1, 0, none⟩ = some (.slice b0 m0 d0) ∧ W.cell? ⟨w.heap.size + 1, 1, none⟩ = some (.slice b1 m1 d1) ∧ W.cell? ⟨w.heap.size + 1, 2, none⟩ = some (.slice b2 m2 d2) ∧ W.cell? ⟨w.heap.size + 1, 3, none⟩ = some (.slice b3 m3 d3) ∧ W.cell? ⟨w.heap.size + 1, 4, none⟩ = some (.slice b4 m4 d4) ∧ W.cell? ⟨w.heap.size + 1, 5, none⟩ = some (.slice b5 m5 d5) ∧ W.cell? ⟨w.heap.size + 1, 6, none⟩ = some (.slice b6 m6 d6) ∧ W.cell? ⟨w.heap.size + 1, 7, none⟩ = some (.slice b7 m7 d7))) := fun W hb => ⟨row8 ((hb.block _ (by omega)).trans hr0), row8 ((hb.block _ (by omega)).trans hr1)⟩
  have hsz : (Tryd.prog.info? 46).map (·.size) = some (#[.slice a0 n0 c0, .slice a1 n1 c1, .slice a2 n2 c2, .slice a3 n3 c3, .slice a4 n4 c4, .slice a5 n5 c5, .slice a6 n6 c6, .slice a7 n7 c7] : Array Value).size := by kernel_rfl
  have hsz2 : (Tryd.prog.info? 46).map (·.size) = some (#[.slice b0 m0 d0, .slice b1 m1 d1, .slice b2 m2 d2, .slice b3 m3 d3, .slice b4 m4 d4, .slice b5 m5 d5, .slice b6 m6 d6, .slice b7 m7 d7] : Array Value).size := by kernel_rfl
  have HBd : Hid (Below w1.heap.size w1 w1.drew) := (Below.refl _ _).drew
  have x0 := HRw.out _ HBd.out
  have HB1 := Lib.hid hb1
  have HW := Lib.hid hw1
  clear hX hY hE hG hpu hpv h h' hl hu hv hb1 hr0 hr1 hw1 hs1 hn1 e0 e1 e2 e3 e4 e5 e6 e7 f0 f1 f2 f3 f4 f5 f6 f7
  go_enter Tryd.func38, Tryd.ntmps38
  go_wp2_with fail
  rw [← HW.out]
  go_region_held3 (fun w' => (w'.cell? ⟨w.heap.size, 0, none⟩ = some (.slice a0 n0 c0) ∧ w'.cell? ⟨w.heap.size, 1, none⟩ = some (.slice a1 n1 c1) ∧ w'.cell? ⟨w.heap.size, 2, none⟩ = some (.slice a2 n2 c2) ∧ w'.cell? ⟨w.heap.size, 3, none⟩ = some (.slice a3 n3 c3) ∧ w'.cell? ⟨w.heap.size, 4, none⟩ = some (.slice a4 n4 c4) ∧ w'.cell? ⟨w.heap.size, 5, none⟩ = some (.slice a5 n5 c5) ∧ w'.cell? ⟨w.heap.size, 6, none⟩ = some (.slice a6 n6 c6) ∧ w'.cell? ⟨w.heap.size, 7, none⟩ = some (.slice a7 n7 c7)) ∧ (w'.cell? ⟨w.heap.size + 1, 0, none⟩ = some (.slice b0 m0 d0) ∧ w'.cell? ⟨w.heap.size + 1, 1, none⟩ = some (.slice b1 m1 d1) ∧ w'.cell? ⟨w.heap.size + 1, 2, none⟩ = some (.slice b2 m2 d2) ∧ w'.cell? ⟨w.heap.size + 1, 3, none⟩ = some (.slice b3 m3 d3) ∧ w'.cell? ⟨w.heap.size + 1, 4, none⟩ = some (.slice b4 m4 d4) ∧ w'.cell? ⟨w.heap.size + 1, 5, none⟩ = some (.slice b5 m5 d5) ∧ w'.cell? ⟨w.heap.size + 1, 6, none⟩ = some (.slice b6 m6 d6) ∧ w'.cell? ⟨w.heap.size + 1, 7, none⟩ = some (.slice b7 m7 d7)))
    (first | with_reducible exact x0 | with_reducible exact y0 | with_reducible exact z0 | go_keep)
    (first
      | (go_at_call 53; (with_reducible refine (HPu.out _ (HB1.out.trans (HBd.out.mono HB1.out.size))).mono ?_); rintro e w2 ⟨bA, rfl, hA1, hA2, g2⟩; have B2 := Lib.hid (HBd.out.trans (g2.mono HBd.out.size)); have y0 := HRw.out _ B2.out; have HA1 := Lib.hid hA1; have HA2 := Lib.hid hA2; clear g2 hA1 hA2)
      | (go_at_call 53; (with_reducible refine (HPv.out _ (HB1.out.trans (B2.out.mono HB1.out.size))).mono ?_); rintro e w3 ⟨bB, rfl, hA1, hA2, g3⟩; have B3 := Lib.hid (B2.out.trans (g3.mono B2.out.size)); have z0 := HRw.out _ B3.out; have G3 := Lib.hid g3; have HC1 := Lib.hid hA1; have HC2 := Lib.hid hA2; clear g3 hA1 hA2))
  all_goals
    have HL1 : Hid (∀ W, Below w3.heap.size w3 W → ∀ k < 8, W.cell? ⟨bA, k, none⟩ = some (u k) ∧ W.cell? ⟨bB, k, none⟩ = some (v k)) := fun W hb k hk => ⟨(hb.cell (p := ⟨bA, k, none⟩) (Nat.lt_of_lt_of_le HA1.out G3.out.size)).trans ((G3.out.cell (p := ⟨bA, k, none⟩) HA1.out).trans (HA2.out k hk)), (hb.cell (p := ⟨bB, k, none⟩) HC1.out).trans (HC2.out k hk)⟩
    have HBw : Hid (Below w.heap.size w w3) := HB1.out.trans (B3.out.mono HB1.out.size)
    clear HPu HPv HRw HB1 HBd B2 B3 G3 HA1 HA2 HC1 HC2 x0 y0 z0
    go_wp2_with fail
    go_loopw [7] (fun i wr => ∃ k : Nat, k ≤ 8 ∧ i = .int .i64 k ∧ (∀ j < k, p j = q j) ∧ Below w3.heap.size w3 wr) (fun i _ => 9 - (intOf i).toNat)
    case atStart => exact ⟨0, Nat.zero_le _, rfl, fun j hj => absurd hj (by omega), Below.refl _ _⟩
    case round =>
      obtain ⟨k, hk, rfl, hall, hb⟩ := hrel
      have hbw := HBw.out.trans (hb.mono HBw.out.size)
      by_cases hlt : k < 8
      · obtain ⟨ak, nk, ck, ek⟩ := HU.out k hlt
        obtain ⟨bk, mk, dk, fk⟩ := HV.out k hlt
        obtain ⟨k1, k2⟩ := HL1.out wr.drew hb.drew k hlt
        have HQk := Lib.hid (HQ.out k hlt wr.drew hbw.drew)
        have hlk : ∀ W, Below wr.drew.heap.size wr.drew W → W.cell? ⟨bA, k, none⟩ = some (u k) ∧ W.cell? ⟨bB, k, none⟩ = some (v k) := fun W hW => HL1.out W (hb.drew.trans (hW.mono hb.drew.size)) k hlt
        rw [ek] at k1 HQk hlk
        rw [fk] at k2 HQk hlk
        have HLk := Lib.hid hlk
        have HNo : Hid (p k ≠ q k → ¬ Same15 p q) := fun h1 h2 => h1 (h2 k hlt)
        have HYes : Hid (p k = q k → ∀ j < k + 1, p j = q j) := fun h1 j hj => by
          rcases Nat.lt_or_eq_of_le (Nat.le_of_lt_succ hj) with h2 | rfl
          · exact hall j h2
          · exact h1
        have HBk := Lib.hid hb.drew
        have HBwk := Lib.hid hbw.drew
        clear hb hbw hall hlk ek fk HQ HU HV HL1 HBw
        by_cases hpq : p k = q k
        · rw [decide_eq_true hpq] at HQk
          have HY := Lib.hid (HYes.out hpq)
          clear hpq HYes HNo
          go_wp2_with fail
          go_region_held3 (fun w' => w'.cell? ⟨bA, k, none⟩ = some (.slice ak nk ck) ∧ w'.cell? ⟨bB, k, none⟩ = some (.slice bk mk dk))
            (first | with_reducible exact ⟨k1, k2⟩ | with_reducible exact ⟨z1, z2⟩ | go_keep)
            (first | (go_at_call 15; (with_reducible refine HQk.out.mono ?_); rintro e w4 ⟨rfl, g4⟩; have B4 := Lib.hid (HBk.out.trans (g4.mono HBk.out.size)); obtain ⟨z1, z2⟩ := HLk.out _ g4; clear g4))
          all_goals
            go_wp2_with fail
            go_roundw
            case rel => exact ⟨k + 1, by omega, by go_num, HY.out, B4.out⟩
            case measure => simp [intOf]; omega
        · rw [decide_eq_false hpq] at HQk
          have HN := Lib.hid (HNo.out hpq)
          clear hpq HYes HNo
          go_wp2_with fail
          go_region_held3 (fun w' => w'.cell? ⟨bA, k, none⟩ = some (.slice ak nk ck) ∧ w'.cell? ⟨bB, k, none⟩ = some (.slice bk mk dk))
            (first | with_reducible exact ⟨k1, k2⟩ | with_reducible exact ⟨z1, z2⟩ | go_keep)
            (first | (go_at_call 15; (with_reducible refine HQk.out.mono ?_); rintro e w4 ⟨rfl, g4⟩; have B4 := Lib.hid (HBwk.out.trans (g4.mono HBwk.out.size)); obtain ⟨z1, z2⟩ := HLk.out _ g4; clear g4))
          all_goals
            go_wp2_with fail
            go_ret
            exact ⟨_, rfl, ⟨fun h => absurd h Bool.false_ne_true, fun h => absurd h HN.out⟩, B4.out⟩
      · have hkl : k = 8 := by omega
        subst hkl
        have HAl := Lib.hid hall
        have HBwk := Lib.hid hbw
        clear hall hlt hb hbw HQ HU HV HL1 HBw
        go_wp2_with fail
        go_ret
        exact ⟨_, rfl, ⟨fun _ => HAl.out, fun _ => rfl⟩, HBwk.out⟩
end Go.Proofs.YtgoinpibllomfaaDoor

namespace Go.Proofs.YtgoinpibllomfaaDoor
open Go.RowKit

end Go.Proofs.YtgoinpibllomfaaDoor

namespace Go.Proofs.YtgoinpibllomfaaDoor
open Go.RowKit

end Go.Proofs.YtgoinpibllomfaaDoor
