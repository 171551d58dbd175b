/- Layer 15: Same, on both sides. -/
import Derived.Test.YtihkhcocfhbekaaPfR
import Derived.Test.YtihkhcocfhbekaaPfE
import Derived.Test.YtihkhcocfhbekaaNSm
import Derived.Deep.RegionHeld3
namespace Go.Proofs.Ytihkhcocfhbekaa
open Go.RowKit

theorem texts_sl {w : World} {u : Nat → Value} {p : Nat → List (List UInt8)} (h : ∀ k < 8, TextsAt w (u k) ((p k).map bs)) : ∀ k < 8, ∃ a n c, u k = .slice a n c := fun k hk => by
  obtain ⟨a, c, e, _⟩ := h k hk
  exact ⟨a, _, c, e⟩
theorem map_bs_inj {l m : List (List UInt8)} : l.map bs = m.map bs ↔ l = m :=
  ⟨fun h => by
    have e : ∀ l : List (List UInt8), (l.map bs).map (fun x => x.data.toList) = l := fun l => by
      rw [List.map_map]
      conv => rhs; rw [← List.map_id l]
      exact List.map_congr_left fun x _ => by simp [bs]
    rw [← e l, h, e m], fun h => by rw [h]⟩
theorem decide_bs (l m : List (List UInt8)) : decide (l.map bs = m.map bs) = decide (l = m) := by
  by_cases h : l = m
  · rw [decide_eq_true h, decide_eq_true (map_bs_inj.2 h)]
  · rw [decide_eq_false h, decide_eq_false (fun e => h (map_bs_inj.1 e))]
def Same15 (p q : Nat → List (List UInt8)) : Prop := ∀ k < 8, p k = q k

set_option maxHeartbeats 2000000 in
set_option maxRecDepth 100000 in
theorem pfSame_any {w : World} {u v : Nat → Value} {p q : Nat → List (List UInt8)} (h : ∀ k < 8, TextsAt w (u k) ((p k).map bs)) (h' : ∀ k < 8, TextsAt w (v k) ((q k).map bs)) (hl : ∀ k < 8, (p k).length ≤ maxLen) :
    Calls Try.prog 13 #[agg8 u, agg8 v] w fun e w' => ∃ z : Bool, e = .returned (.bool z) ∧ (z = true ↔ Same15 p q) ∧ Below w.heap.size w w' := by
  have hu := texts_sl h
  have hv := texts_sl h'
  obtain ⟨a0, n0, c0, e0⟩ := hu 0 (by omega)
  obtain ⟨a1, n1, c1, e1⟩ := hu 1 (by omega)
  obtain ⟨a2, n2, c2, e2⟩ := hu 2 (by omega)
  obtain ⟨a3, n3, c3, e3⟩ := hu 3 (by omega)
  obtain ⟨a4, n4, c4, e4⟩ := hu 4 (by omega)
  obtain ⟨a5, n5, c5, e5⟩ := hu 5 (by omega)
  obtain ⟨a6, n6, c6, e6⟩ := hu 6 (by omega)
  obtain ⟨a7, n7, c7, e7⟩ := hu 7 (by omega)
  obtain ⟨b0, m0, d0, f0⟩ := hv 0 (by omega)
  obtain ⟨b1, m1, d1, f1⟩ := hv 1 (by omega)
  obtain ⟨b2, m2, d2, f2⟩ := hv 2 (by omega)
  obtain ⟨b3, m3, d3, f3⟩ := hv 3 (by omega)
  obtain ⟨b4, m4, d4, f4⟩ := hv 4 (by omega)
  obtain ⟨b5, m5, d5, f5⟩ := hv 5 (by omega)
  obtain ⟨b6, m6, d6, f6⟩ := hv 6 (by omega)
  obtain ⟨b7, m7, d7, f7⟩ := hv 7 (by omega)
  have hpu := fun (W : World) => pfEight_any hu W
  have hpv := fun (W : World) => pfEight_any hv W
  have hi8 := index8 u
  obtain ⟨E, hE⟩ : ∃ E, E = agg8 u := ⟨_, rfl⟩
  have hX : E = .agg #[.slice a0 n0 c0, .slice a1 n1 c1, .slice a2 n2 c2, .slice a3 n3 c3, .slice a4 n4 c4, .slice a5 n5 c5, .slice a6 n6 c6, .slice a7 n7 c7] := by rw [hE]; unfold agg8; rw [e0, e1, e2, e3, e4, e5, e6, e7]
  obtain ⟨G, hG⟩ : ∃ G, G = agg8 v := ⟨_, rfl⟩
  have hY : G = .agg #[.slice b0 m0 d0, .slice b1 m1 d1, .slice b2 m2 d2, .slice b3 m3 d3, .slice b4 m4 d4, .slice b5 m5 d5, .slice b6 m6 d6, .slice b7 m7 d7] := by rw [hG]; unfold agg8; rw [f0, f1, f2, f3, f4, f5, f6, f7]
  rw [← hE] at hpu hi8 ⊢
  rw [← hG] at hpv ⊢
  have HPv : Hid (∀ W, Calls Try.prog 18 #[.agg #[.slice b0 m0 d0, .slice b1 m1 d1, .slice b2 m2 d2, .slice b3 m3 d3, .slice b4 m4 d4, .slice b5 m5 d5, .slice b6 m6 d6, .slice b7 m7 d7]] W fun e w' => e = .returned (.agg #[.slice b0 m0 d0, .slice b1 m1 d1, .slice b2 m2 d2, .slice b3 m3 d3, .slice b4 m4 d4, .slice b5 m5 d5, .slice b6 m6 d6, .slice b7 m7 d7]) ∧ Below W.heap.size W w') := fun W => by rw [← hY]; exact hpv W
  have HPu : Hid (∀ W, Calls Try.prog 18 #[.agg #[.slice a0 n0 c0, .slice a1 n1 c1, .slice a2 n2 c2, .slice a3 n3 c3, .slice a4 n4 c4, .slice a5 n5 c5, .slice a6 n6 c6, .slice a7 n7 c7]] W fun e w' => e = .returned E ∧ Below W.heap.size W w') := fun W => by
    have := hpu W
    rw [hX] at this ⊢
    exact this
  have HI := Lib.hid hi8
  have HQ : Hid (∀ (k : Nat) (hk : k < 8) (W : World), Below w.heap.size w W → Calls Try.prog 14 #[u k, v k] W fun e w' => e = .returned (.bool (decide (p k = q k))) ∧ Below W.heap.size W w') := fun k hk W hb => by
    have := eqStrs_any ((h k hk).below hb) ((h' k hk).below hb) (by rw [List.length_map]; exact hl k hk)
    rw [decide_bs] at this
    exact this
  have HU := Lib.hid hu
  have HV := Lib.hid hv
  have HVk : Hid (∀ k < 8, (#[.slice b0 m0 d0, .slice b1 m1 d1, .slice b2 m2 d2, .slice b3 m3 d3, .slice b4 m4 d4, .slice b5 m5 d5, .slice b6 m6 d6, .slice b7 m7 d7] : Array Value)[k]? = some (v k)) := fun k hk => by
    match k, hk with
    | 0, _ => rw [f0]; rfl
    | 1, _ => rw [f1]; rfl
    | 2, _ => rw [f2]; rfl
    | 3, _ => rw [f3]; rfl
    | 4, _ => rw [f4]; rfl
    | 5, _ => rw [f5]; rfl
    | 6, _ => rw [f6]; rfl
    | 7, _ => rw [f7]; rfl
    | k + 8, hk => exact absurd hk (by omega)
  have hbox : ∀ (X : Array Value) (t : TypeId) (W : World), Below w.heap.size w W → Below w.heap.size w (W.alloc (.cells X t)) := fun X t W hb => hb.alloc hb.size _
  have HBx := Lib.hid hbox
  have HB0 := Lib.hid (hbox #[.slice a0 n0 c0, .slice a1 n1 c1, .slice a2 n2 c2, .slice a3 n3 c3, .slice a4 n4 c4, .slice a5 n5 c5, .slice a6 n6 c6, .slice a7 n7 c7] 25 w (Below.refl _ _))
  have HB1 := Lib.hid (hbox #[.slice b0 m0 d0, .slice b1 m1 d1, .slice b2 m2 d2, .slice b3 m3 d3, .slice b4 m4 d4, .slice b5 m5 d5, .slice b6 m6 d6, .slice b7 m7 d7] 25 _ (hbox #[.slice a0 n0 c0, .slice a1 n1 c1, .slice a2 n2 c2, .slice a3 n3 c3, .slice a4 n4 c4, .slice a5 n5 c5, .slice a6 n6 c6, .slice a7 n7 c7] 25 w (Below.refl _ _)))
  have hn1 : (w.alloc (.cells #[.slice a0 n0 c0, .slice a1 n1 c1, .slice a2 n2 c2, .slice a3 n3 c3, .slice a4 n4 c4, .slice a5 n5 c5, .slice a6 n6 c6, .slice a7 n7 c7] 25)).heap.size = w.heap.size + 1 := World.size_alloc _ _
  have hboxA : ((w.alloc (.cells #[.slice a0 n0 c0, .slice a1 n1 c1, .slice a2 n2 c2, .slice a3 n3 c3, .slice a4 n4 c4, .slice a5 n5 c5, .slice a6 n6 c6, .slice a7 n7 c7] 25)).alloc (.cells #[.slice b0 m0 d0, .slice b1 m1 d1, .slice b2 m2 d2, .slice b3 m3 d3, .slice b4 m4 d4, .slice b5 m5 d5, .slice b6 m6 d6, .slice b7 m7 d7] 25)).heap[w.heap.size]? = some (.cells #[.slice a0 n0 c0, .slice a1 n1 c1, .slice a2 n2 c2, .slice a3 n3 c3, .slice a4 n4 c4, .slice a5 n5 c5, .slice a6 n6 c6, .slice a7 n7 c7] 25 (0, 0)) := by
    have h1 := heap_alloc_new w (.cells #[.slice a0 n0 c0, .slice a1 n1 c1, .slice a2 n2 c2, .slice a3 n3 c3, .slice a4 n4 c4, .slice a5 n5 c5, .slice a6 n6 c6, .slice a7 n7 c7] 25)
    exact (((Below.refl _ (w.alloc (.cells #[.slice a0 n0 c0, .slice a1 n1 c1, .slice a2 n2 c2, .slice a3 n3 c3, .slice a4 n4 c4, .slice a5 n5 c5, .slice a6 n6 c6, .slice a7 n7 c7] 25))).alloc (Nat.le_refl _) (.cells #[.slice b0 m0 d0, .slice b1 m1 d1, .slice b2 m2 d2, .slice b3 m3 d3, .slice b4 m4 d4, .slice b5 m5 d5, .slice b6 m6 d6, .slice b7 m7 d7] 25)).block _ (by rw [hn1]; omega)).trans h1
  have HRow : Hid (∀ W, Below ((w.alloc (.cells #[.slice a0 n0 c0, .slice a1 n1 c1, .slice a2 n2 c2, .slice a3 n3 c3, .slice a4 n4 c4, .slice a5 n5 c5, .slice a6 n6 c6, .slice a7 n7 c7] 25)).alloc (.cells #[.slice b0 m0 d0, .slice b1 m1 d1, .slice b2 m2 d2, .slice b3 m3 d3, .slice b4 m4 d4, .slice b5 m5 d5, .slice b6 m6 d6, .slice b7 m7 d7] 25)).heap.size ((w.alloc (.cells #[.slice a0 n0 c0, .slice a1 n1 c1, .slice a2 n2 c2, .slice a3 n3 c3, .slice a4 n4 c4, .slice a5 n5 c5, .slice a6 n6 c6, .slice a7 n7 c7] 25)).alloc (.cells #[.slice b0 m0 d0, .slice b1 m1 d1, .slice b2 m2 d2, .slice b3 m3 d3, .slice b4 m4 d4, .slice b5 m5 d5, .slice b6 m6 d6, .slice b7 m7 d7] 25)) W → W.heap[w.heap.size]? = some (.cells #[.slice a0 n0 c0, .slice a1 n1 c1, .slice a2 n2 c2, .slice a3 n3 c3, .slice a4 n4 c4, .slice a5 n5 c5, .slice a6 n6 c6, .slice a7 n7 c7] 25 (0, 0))) := fun W hb => (hb.block _ (by rw [World.size_alloc, hn1]; omega)).trans hboxA
  have hsz : (Try.prog.info? 25).map (·.size) = some (#[.slice a0 n0 c0, .slice a1 n1 c1, .slice a2 n2 c2, .slice a3 n3 c3, .slice a4 n4 c4, .slice a5 n5 c5, .slice a6 n6 c6, .slice a7 n7 c7] : Array Value).size := by kernel_rfl
  rw [hX, hY]
  clear hX hY hE hG hpu hpv hi8 h h' hl hu hv hbox hboxA hn1 e0 e1 e2 e3 e4 e5 e6 e7 f0 f1 f2 f3 f4 f5 f6 f7
  go_enter Try.func13, Try.ntmps13
  go_wp2_with (first
    | (go_at_call 18; (with_reducible refine (HPv.out _).mono ?_); rintro e w2 ⟨rfl, g2⟩; have B2 := Lib.hid g2; have B2w := Lib.hid (HB1.out.trans (g2.mono HB1.out.size)); clear g2)
    | (refine wpList_load_row rfl 25 _ rfl w.heap.size rfl 25 _ (0, 0) _ (HRow.out _ (B2.out.alloc (Nat.le_trans (Nat.le_refl _) B2.out.size) (.cells #[.slice b0 m0 d0, .slice b1 m1 d1, .slice b2 m2 d2, .slice b3 m3 d3, .slice b4 m4 d4, .slice b5 m5 d5, .slice b6 m6 d6, .slice b7 m7 d7] 45))) Try.underlying25 rfl hsz ?_)
    | (go_at_call 18; (with_reducible refine (HPu.out _).mono ?_); rintro e w3 ⟨rfl, g3⟩; have B3 := Lib.hid g3; clear g3))
  have HC2 : Hid (∀ W, Below (w2.alloc (.cells #[.slice b0 m0 d0, .slice b1 m1 d1, .slice b2 m2 d2, .slice b3 m3 d3, .slice b4 m4 d4, .slice b5 m5 d5, .slice b6 m6 d6, .slice b7 m7 d7] 45)).heap.size (w2.alloc (.cells #[.slice b0 m0 d0, .slice b1 m1 d1, .slice b2 m2 d2, .slice b3 m3 d3, .slice b4 m4 d4, .slice b5 m5 d5, .slice b6 m6 d6, .slice b7 m7 d7] 45)) W → ∀ k, k < 8 → W.cell? ⟨w2.heap.size, k, none⟩ = some (v k)) := fun W hb k hk => (hb.cell (p := ⟨w2.heap.size, k, none⟩) (by show w2.heap.size < _; rw [World.size_alloc]; omega)).trans (by rw [(Holds.new w2 45 #[.slice b0 m0 d0, .slice b1 m1 d1, .slice b2 m2 d2, .slice b3 m3 d3, .slice b4 m4 d4, .slice b5 m5 d5, .slice b6 m6 d6, .slice b7 m7 d7]).cell k]; exact HVk.out k hk)
  have HBw2 : Hid (Below w.heap.size w (w2.alloc (.cells #[.slice b0 m0 d0, .slice b1 m1 d1, .slice b2 m2 d2, .slice b3 m3 d3, .slice b4 m4 d4, .slice b5 m5 d5, .slice b6 m6 d6, .slice b7 m7 d7] 45))) := B2w.out.alloc B2w.out.size _
  clear HPv HPu HRow HVk HBx HB0 HB1 B2 B2w
  go_loopw [12] (fun i wr => ∃ k : Nat, k ≤ 8 ∧ i = .int .i64 k ∧ (∀ j < k, p j = q j) ∧ Below (w2.alloc (.cells #[.slice b0 m0 d0, .slice b1 m1 d1, .slice b2 m2 d2, .slice b3 m3 d3, .slice b4 m4 d4, .slice b5 m5 d5, .slice b6 m6 d6, .slice b7 m7 d7] 45)).heap.size (w2.alloc (.cells #[.slice b0 m0 d0, .slice b1 m1 d1, .slice b2 m2 d2, .slice b3 m3 d3, .slice b4 m4 d4, .slice b5 m5 d5, .slice b6 m6 d6, .slice b7 m7 d7] 45)) wr) (fun i _ => 9 - (intOf i).toNat)
  case atStart => exact ⟨0, Nat.zero_le _, rfl, fun j hj => absurd hj (by omega), B3.out⟩
  case round =>
    obtain ⟨k, hk, rfl, hall, hb⟩ := hrel
    have hbw := HBw2.out.trans (hb.mono HBw2.out.size)
    by_cases hlt : k < 8
    · obtain ⟨ak, nk, ck, ek⟩ := HU.out k hlt
      obtain ⟨bk, mk, dk, fk⟩ := HV.out k hlt
      have hi := HI.out k hlt
      have cc := HC2.out wr hb k hlt
      have HQk := Lib.hid (HQ.out k hlt wr hbw)
      rw [ek] at hi HQk
      rw [fk] at cc HQk
      have HNo : Hid (p k ≠ q k → ¬ Same15 p q) := fun h1 h2 => h1 (h2 k hlt)
      have HYes : Hid (p k = q k → ∀ j < k + 1, p j = q j) := fun h1 j hj => by
        rcases Nat.lt_or_eq_of_le (Nat.le_of_lt_succ hj) with h2 | rfl
        · exact hall j h2
        · exact h1
      have HBk := Lib.hid hb
      have HBwk := Lib.hid hbw
      clear hb hbw hall ek fk HI HQ HU HV HC2 HBw2 B3
      by_cases hpq : p k = q k
      · rw [decide_eq_true hpq] at HQk
        have HY := Lib.hid (HYes.out hpq)
        clear hpq HYes HNo
        go_wp2_with (go_at_call 14; (with_reducible refine HQk.out.mono ?_); rintro e w4 ⟨rfl, g4⟩)
        go_roundw
        case rel => exact ⟨k + 1, by omega, by go_num, HY.out, HBk.out.trans (g4.mono HBk.out.size)⟩
        case measure => simp [intOf]; omega
      · rw [decide_eq_false hpq] at HQk
        have HN := Lib.hid (HNo.out hpq)
        clear hpq HYes HNo
        go_wp2_with (go_at_call 14; (with_reducible refine HQk.out.mono ?_); rintro e w4 ⟨rfl, g4⟩)
        go_ret
        exact ⟨_, rfl, ⟨fun h => absurd h Bool.false_ne_true, fun h => absurd h HN.out⟩, HBwk.out.trans (g4.mono HBwk.out.size)⟩
    · have hkl : k = 8 := by omega
      subst hkl
      have HAl := Lib.hid hall
      have HBwk := Lib.hid hbw
      clear hall hlt hb hbw HI HQ HU HV HC2 HBw2 B3
      go_wp2_with fail
      go_ret
      exact ⟨_, rfl, ⟨fun _ => HAl.out, fun _ => rfl⟩, HBwk.out⟩
end Go.Proofs.Ytihkhcocfhbekaa
