/- Part 26 of what the statement wants. -/
import Derived.Test.YtgoinpibllomfaaDoorPk24
import Derived.Test.YtgoinpibllomfaaDoorPk25
namespace Go.Proofs.YtgoinpibllomfaaDoor
open Go.RowKit

/-- A list of texts whose row may be written. -/
def TextsO (w : World) (v : Value) (l : List ByteArray) : Prop := TextsAt w v l ∧ (l ≠ [] → ∀ b, v.ownBlock = some b → ∃ cur, Holds w b 9 cur)
theorem TextsO.below {w w' : World} {v : Value} {l : List ByteArray} (h : TextsO w v l) (hb : Below w.heap.size w w') : TextsO w' v l :=
  ⟨h.1.below hb, fun hne b hv => by
    obtain ⟨cur, hc⟩ := h.2 hne b hv
    exact ⟨cur, (hb.block _ hc.lt).trans hc⟩⟩
theorem texts_rowO {w w' : World} {S : Nat → Prop} {x : Value} {l : List ByteArray} (h : TextsO w x l) (m : Moves S w w') (hS : l ≠ [] → ∀ k, x.ownBlock = some k → ¬ S k) : TextsO w' x l :=
  ⟨texts_row h.1 m hS, fun hne b hv => by
    obtain ⟨cur, hc⟩ := h.2 hne b hv
    exact ⟨cur, hc.moves m (hS hne b hv)⟩⟩
theorem cloneS_newO {w : World} {v : Value} {l : List ByteArray} (h : TextsAt w v l) (hl : l.length ≤ 8796093022208) :
    Calls Tryd.prog 33 #[v] w fun e w' => ∃ v', e = .returned v' ∧ TextsO w' v' l ∧ (l ≠ [] → ∃ g, v'.ownBlock = some g ∧ w.heap.size ≤ g) ∧ Nil0 v' ∧ Below w.heap.size w w' := by
  by_cases hne : l = []
  · subst hne
    exact (cloneS_new h hl).mono fun e w' ⟨v', h1, h2, h3, h4, h5⟩ => ⟨v', h1, ⟨h2, fun h => absurd rfl h⟩, h3, h4, h5⟩
  · obtain ⟨ao, cap, rfl, hc⟩ := h
    obtain ⟨b, off, rfl, hb, hcell⟩ := hc hne
    refine (Tryd.slices_Clone_string b off l.length cap l w (Nat.le_refl _) (by omega) (fun j hj => hcell j _ (by rw [List.getD_eq_getElem?_getD, List.getElem?_eq_getElem hj]; rfl))).mono fun e w' ⟨v', he, ho, hnn, hb'⟩ => ?_
    rw [List.take_length] at ho
    have ht := TextsAt.ofRow ho (fun h => absurd h hne)
    have hw := OwnFrom.ofRow ho
    refine ⟨v', he, ⟨ht, fun _ b hv => (hw b hv).2⟩, fun _ => ?_, ?_, hb'⟩
    · rcases ho.2 with ⟨rfl, _⟩ | ⟨g, c, cur, rfl, hg, _⟩
      · exact absurd rfl hnn
      · exact ⟨g, rfl, hg⟩
    · rcases ho.2 with ⟨rfl, _⟩ | ⟨g, c, cur, rfl, hg, _⟩
      · exact absurd rfl hnn
      · exact fun n c e => by injection e with e1; cases e1
set_option maxHeartbeats 4000000 in
set_option maxRecDepth 100000 in
theorem pfOf_own {w : World} {u : Nat → Value} {p : Nat → List (List UInt8)} {b c : Nat} (hb : b < w.heap.size) (hc : ∀ k < 8, w.cell? ⟨b, k, none⟩ = some (u k) ∧ TextsAt w (u k) ((p k).map bs)) (hl : ∀ k < 8, (p k).length ≤ 1000) :
    Calls Tryd.prog 55 #[.slice (some ⟨b, 0, none⟩) 8 c] w fun e w' => ∃ u' : Nat → Value, e = .returned (.tuple #[agg8 u', .bool true]) ∧ (∀ k < 8, TextsO w' (u' k) ((p k).map bs)) ∧ (∀ k < 8, Nil0 (u' k)) ∧ (∀ k < 8, p k ≠ [] → ∀ g, (u' k).ownBlock = some g → w.heap.size < g) ∧ Below w.heap.size w w' := by
  have HCl : Hid (∀ (k : Nat) (hk : k < 8) (W : World), Below w.heap.size w W → w.heap.size < W.heap.size → Calls Tryd.prog 33 #[u k] W fun e w' => ∃ a n c, e = .returned (.slice a n c) ∧ TextsO w' (.slice a n c) ((p k).map bs) ∧ (((p k).map bs ≠ [] → ∀ g, (Value.slice a n c).ownBlock = some g → w.heap.size < g) ∧ Nil0 (.slice a n c)) ∧ Below W.heap.size W w') := fun k hk W hB hlt => (cloneS_newO ((hc k hk).2.below hB) (by rw [List.length_map]; have := hl k hk; omega)).mono (by
    rintro e w' ⟨v', rfl, h1, h2, h4, h3⟩
    obtain ⟨a, n, c, rfl⟩ := texts_some h1.1
    refine ⟨a, n, c, rfl, h1, ⟨fun hne g hg => ?_, h4⟩, h3⟩
    obtain ⟨g', k1, k2⟩ := h2 hne
    rw [k1] at hg
    have := Option.some.inj hg
    omega)
  have HK : Hid (∀ W, Below w.heap.size w W → W.cell? ⟨b, 0, none⟩ = some (u 0) ∧ W.cell? ⟨b, 1, none⟩ = some (u 1) ∧ W.cell? ⟨b, 2, none⟩ = some (u 2) ∧ W.cell? ⟨b, 3, none⟩ = some (u 3) ∧ W.cell? ⟨b, 4, none⟩ = some (u 4) ∧ W.cell? ⟨b, 5, none⟩ = some (u 5) ∧ W.cell? ⟨b, 6, none⟩ = some (u 6) ∧ W.cell? ⟨b, 7, none⟩ = some (u 7)) := fun W hB => ⟨(hB.cell (p := ⟨b, 0, none⟩) hb).trans (hc 0 (by omega)).1, (hB.cell (p := ⟨b, 1, none⟩) hb).trans (hc 1 (by omega)).1, (hB.cell (p := ⟨b, 2, none⟩) hb).trans (hc 2 (by omega)).1, (hB.cell (p := ⟨b, 3, none⟩) hb).trans (hc 3 (by omega)).1, (hB.cell (p := ⟨b, 4, none⟩) hb).trans (hc 4 (by omega)).1, (hB.cell (p := ⟨b, 5, none⟩) hb).trans (hc 5 (by omega)).1, (hB.cell (p := ⟨b, 6, none⟩) hb).trans (hc 6 (by omega)).1, (hB.cell (p := ⟨b, 7, none⟩) hb).trans (hc 7 (by omega)).1⟩
  have hsl := texts_sl (fun k hk => (hc k hk).2)
  obtain ⟨a0, n0, c0, e0⟩ := hsl 0 (by omega)
  obtain ⟨a1, n1, c1, e1⟩ := hsl 1 (by omega)
  obtain ⟨a2, n2, c2, e2⟩ := hsl 2 (by omega)
  obtain ⟨a3, n3, c3, e3⟩ := hsl 3 (by omega)
  obtain ⟨a4, n4, c4, e4⟩ := hsl 4 (by omega)
  obtain ⟨a5, n5, c5, e5⟩ := hsl 5 (by omega)
  obtain ⟨a6, n6, c6, e6⟩ := hsl 6 (by omega)
  obtain ⟨a7, n7, c7, e7⟩ := hsl 7 (by omega)
  rw [e0, e1, e2, e3, e4, e5, e6, e7] at HK
  have HC0 : Hid (∀ W, Below w.heap.size w W → w.heap.size < W.heap.size → Calls Tryd.prog 33 #[.slice a0 n0 c0] W fun e w' => ∃ a n c, e = .returned (.slice a n c) ∧ TextsO w' (.slice a n c) ((p 0).map bs) ∧ (((p 0).map bs ≠ [] → ∀ g, (Value.slice a n c).ownBlock = some g → w.heap.size < g) ∧ Nil0 (.slice a n c)) ∧ Below W.heap.size W w') := fun W hB hlt => by rw [← e0]; exact HCl.out 0 (by omega) W hB hlt
  have HC1 : Hid (∀ W, Below w.heap.size w W → w.heap.size < W.heap.size → Calls Tryd.prog 33 #[.slice a1 n1 c1] W fun e w' => ∃ a n c, e = .returned (.slice a n c) ∧ TextsO w' (.slice a n c) ((p 1).map bs) ∧ (((p 1).map bs ≠ [] → ∀ g, (Value.slice a n c).ownBlock = some g → w.heap.size < g) ∧ Nil0 (.slice a n c)) ∧ Below W.heap.size W w') := fun W hB hlt => by rw [← e1]; exact HCl.out 1 (by omega) W hB hlt
  have HC2 : Hid (∀ W, Below w.heap.size w W → w.heap.size < W.heap.size → Calls Tryd.prog 33 #[.slice a2 n2 c2] W fun e w' => ∃ a n c, e = .returned (.slice a n c) ∧ TextsO w' (.slice a n c) ((p 2).map bs) ∧ (((p 2).map bs ≠ [] → ∀ g, (Value.slice a n c).ownBlock = some g → w.heap.size < g) ∧ Nil0 (.slice a n c)) ∧ Below W.heap.size W w') := fun W hB hlt => by rw [← e2]; exact HCl.out 2 (by omega) W hB hlt
  have HC3 : Hid (∀ W, Below w.heap.size w W → w.heap.size < W.heap.size → Calls Tryd.prog 33 #[.slice a3 n3 c3] W fun e w' => ∃ a n c, e = .returned (.slice a n c) ∧ TextsO w' (.slice a n c) ((p 3).map bs) ∧ (((p 3).map bs ≠ [] → ∀ g, (Value.slice a n c).ownBlock = some g → w.heap.size < g) ∧ Nil0 (.slice a n c)) ∧ Below W.heap.size W w') := fun W hB hlt => by rw [← e3]; exact HCl.out 3 (by omega) W hB hlt
  have HC4 : Hid (∀ W, Below w.heap.size w W → w.heap.size < W.heap.size → Calls Tryd.prog 33 #[.slice a4 n4 c4] W fun e w' => ∃ a n c, e = .returned (.slice a n c) ∧ TextsO w' (.slice a n c) ((p 4).map bs) ∧ (((p 4).map bs ≠ [] → ∀ g, (Value.slice a n c).ownBlock = some g → w.heap.size < g) ∧ Nil0 (.slice a n c)) ∧ Below W.heap.size W w') := fun W hB hlt => by rw [← e4]; exact HCl.out 4 (by omega) W hB hlt
  have HC5 : Hid (∀ W, Below w.heap.size w W → w.heap.size < W.heap.size → Calls Tryd.prog 33 #[.slice a5 n5 c5] W fun e w' => ∃ a n c, e = .returned (.slice a n c) ∧ TextsO w' (.slice a n c) ((p 5).map bs) ∧ (((p 5).map bs ≠ [] → ∀ g, (Value.slice a n c).ownBlock = some g → w.heap.size < g) ∧ Nil0 (.slice a n c)) ∧ Below W.heap.size W w') := fun W hB hlt => by rw [← e5]; exact HCl.out 5 (by omega) W hB hlt
  have HC6 : Hid (∀ W, Below w.heap.size w W → w.heap.size < W.heap.size → Calls Tryd.prog 33 #[.slice a6 n6 c6] W fun e w' => ∃ a n c, e = .returned (.slice a n c) ∧ TextsO w' (.slice a n c) ((p 6).map bs) ∧ (((p 6).map bs ≠ [] → ∀ g, (Value.slice a n c).ownBlock = some g → w.heap.size < g) ∧ Nil0 (.slice a n c)) ∧ Below W.heap.size W w') := fun W hB hlt => by rw [← e6]; exact HCl.out 6 (by omega) W hB hlt
  have HC7 : Hid (∀ W, Below w.heap.size w W → w.heap.size < W.heap.size → Calls Tryd.prog 33 #[.slice a7 n7 c7] W fun e w' => ∃ a n c, e = .returned (.slice a n c) ∧ TextsO w' (.slice a n c) ((p 7).map bs) ∧ (((p 7).map bs ≠ [] → ∀ g, (Value.slice a n c).ownBlock = some g → w.heap.size < g) ∧ Nil0 (.slice a n c)) ∧ Below W.heap.size W w') := fun W hB hlt => by rw [← e7]; exact HCl.out 7 (by omega) W hB hlt
  have hbA : Below w.heap.size w (w.alloc (.cells #[.slice none 0 0, .slice none 0 0, .slice none 0 0, .slice none 0 0, .slice none 0 0, .slice none 0 0, .slice none 0 0, .slice none 0 0] 46)).drew := ((Below.refl _ _).alloc (Nat.le_refl _) _).drew
  have HBA := Lib.hid hbA
  have hltA : w.heap.size < (w.alloc (.cells #[.slice none 0 0, .slice none 0 0, .slice none 0 0, .slice none 0 0, .slice none 0 0, .slice none 0 0, .slice none 0 0, .slice none 0 0] 46)).drew.heap.size := by show w.heap.size < (w.alloc (.cells #[.slice none 0 0, .slice none 0 0, .slice none 0 0, .slice none 0 0, .slice none 0 0, .slice none 0 0, .slice none 0 0, .slice none 0 0] 46)).heap.size; rw [World.size_alloc]; omega
  have HBx : Hid (∀ W, Below (w.alloc (.cells #[.slice none 0 0, .slice none 0 0, .slice none 0 0, .slice none 0 0, .slice none 0 0, .slice none 0 0, .slice none 0 0, .slice none 0 0] 46)).drew.heap.size (w.alloc (.cells #[.slice none 0 0, .slice none 0 0, .slice none 0 0, .slice none 0 0, .slice none 0 0, .slice none 0 0, .slice none 0 0, .slice none 0 0] 46)).drew W → Holds W w.heap.size 46 #[.slice none 0 0, .slice none 0 0, .slice none 0 0, .slice none 0 0, .slice none 0 0, .slice none 0 0, .slice none 0 0, .slice none 0 0]) := fun W hB => (Holds.new w 46 #[.slice none 0 0, .slice none 0 0, .slice none 0 0, .slice none 0 0, .slice none 0 0, .slice none 0 0, .slice none 0 0, .slice none 0 0]).moves (S := nobody) ((Moves.refl nobody _).drew.trans (Moves.ofBelow hB) fun _ h => .inl h) (fun h => h)
  have HB0 : Hid (Below (w.alloc (.cells #[.slice none 0 0, .slice none 0 0, .slice none 0 0, .slice none 0 0, .slice none 0 0, .slice none 0 0, .slice none 0 0, .slice none 0 0] 46)).drew.heap.size (w.alloc (.cells #[.slice none 0 0, .slice none 0 0, .slice none 0 0, .slice none 0 0, .slice none 0 0, .slice none 0 0, .slice none 0 0, .slice none 0 0] 46)).drew (w.alloc (.cells #[.slice none 0 0, .slice none 0 0, .slice none 0 0, .slice none 0 0, .slice none 0 0, .slice none 0 0, .slice none 0 0, .slice none 0 0] 46)).drew) := Below.refl _ _
  have hx0 := HK.out _ hbA
  have hne : w.heap.size ≠ b := by omega
  clear hbA HCl hc hl hsl e0 e1 e2 e3 e4 e5 e6 e7
  go_enter Tryd.func55, Tryd.ntmps55
  go_wp2_with fail
  go_region_held3 (fun w' => w'.cell? ⟨b, 0, none⟩ = some (.slice a0 n0 c0) ∧ w'.cell? ⟨b, 1, none⟩ = some (.slice a1 n1 c1) ∧ w'.cell? ⟨b, 2, none⟩ = some (.slice a2 n2 c2) ∧ w'.cell? ⟨b, 3, none⟩ = some (.slice a3 n3 c3) ∧ w'.cell? ⟨b, 4, none⟩ = some (.slice a4 n4 c4) ∧ w'.cell? ⟨b, 5, none⟩ = some (.slice a5 n5 c5) ∧ w'.cell? ⟨b, 6, none⟩ = some (.slice a6 n6 c6) ∧ w'.cell? ⟨b, 7, none⟩ = some (.slice a7 n7 c7))
    (first | with_reducible exact hx0 | with_reducible exact z0 | with_reducible exact z1 | with_reducible exact z2 | with_reducible exact z3 | with_reducible exact z4 | with_reducible exact z5 | with_reducible exact z6 | with_reducible exact z7 | (refine ⟨?_, ?_, ?_, ?_, ?_, ?_, ?_, ?_⟩ <;> (repeat rw [World.cell?_setCell_far _ _ _ _ (show _ ≠ _ from hne)]) <;> first | exact z7.1 | exact z7.2.1 | exact z7.2.2.1 | exact z7.2.2.2.1 | exact z7.2.2.2.2.1 | exact z7.2.2.2.2.2.1 | exact z7.2.2.2.2.2.2.1 | exact z7.2.2.2.2.2.2.2) | go_keep)
    (first
    | (go_at_call 33; (with_reducible refine (HC0.out _ (HBA.out.trans (HB0.out.mono HBA.out.size)) (Nat.lt_of_lt_of_le hltA HB0.out.size)).mono ?_); rintro e w1 ⟨A0, N0, C0, rfl, t0, l0, g0⟩; have HL0 := Lib.hid l0; have HG0 := Lib.hid g0; have HB1 := Lib.hid (HB0.out.trans (g0.mono HB0.out.size)); have HT0 := Lib.hid t0; have z0 := HK.out _ (HBA.out.trans (HB1.out.mono HBA.out.size)); clear t0 g0 l0)
    | (go_at_call 33; (with_reducible refine (HC1.out _ (HBA.out.trans (HB1.out.mono HBA.out.size)) (Nat.lt_of_lt_of_le hltA HB1.out.size)).mono ?_); rintro e w2 ⟨A1, N1, C1, rfl, t1, l1, g1⟩; have HL1 := Lib.hid l1; have HG1 := Lib.hid g1; have HB2 := Lib.hid (HB1.out.trans (g1.mono HB1.out.size)); have HT1 := Lib.hid t1; have z1 := HK.out _ (HBA.out.trans (HB2.out.mono HBA.out.size)); clear t1 g1 l1)
    | (go_at_call 33; (with_reducible refine (HC2.out _ (HBA.out.trans (HB2.out.mono HBA.out.size)) (Nat.lt_of_lt_of_le hltA HB2.out.size)).mono ?_); rintro e w3 ⟨A2, N2, C2, rfl, t2, l2, g2⟩; have HL2 := Lib.hid l2; have HG2 := Lib.hid g2; have HB3 := Lib.hid (HB2.out.trans (g2.mono HB2.out.size)); have HT2 := Lib.hid t2; have z2 := HK.out _ (HBA.out.trans (HB3.out.mono HBA.out.size)); clear t2 g2 l2)
    | (go_at_call 33; (with_reducible refine (HC3.out _ (HBA.out.trans (HB3.out.mono HBA.out.size)) (Nat.lt_of_lt_of_le hltA HB3.out.size)).mono ?_); rintro e w4 ⟨A3, N3, C3, rfl, t3, l3, g3⟩; have HL3 := Lib.hid l3; have HG3 := Lib.hid g3; have HB4 := Lib.hid (HB3.out.trans (g3.mono HB3.out.size)); have HT3 := Lib.hid t3; have z3 := HK.out _ (HBA.out.trans (HB4.out.mono HBA.out.size)); clear t3 g3 l3)
    | (go_at_call 33; (with_reducible refine (HC4.out _ (HBA.out.trans (HB4.out.mono HBA.out.size)) (Nat.lt_of_lt_of_le hltA HB4.out.size)).mono ?_); rintro e w5 ⟨A4, N4, C4, rfl, t4, l4, g4⟩; have HL4 := Lib.hid l4; have HG4 := Lib.hid g4; have HB5 := Lib.hid (HB4.out.trans (g4.mono HB4.out.size)); have HT4 := Lib.hid t4; have z4 := HK.out _ (HBA.out.trans (HB5.out.mono HBA.out.size)); clear t4 g4 l4)
    | (go_at_call 33; (with_reducible refine (HC5.out _ (HBA.out.trans (HB5.out.mono HBA.out.size)) (Nat.lt_of_lt_of_le hltA HB5.out.size)).mono ?_); rintro e w6 ⟨A5, N5, C5, rfl, t5, l5, g5⟩; have HL5 := Lib.hid l5; have HG5 := Lib.hid g5; have HB6 := Lib.hid (HB5.out.trans (g5.mono HB5.out.size)); have HT5 := Lib.hid t5; have z5 := HK.out _ (HBA.out.trans (HB6.out.mono HBA.out.size)); clear t5 g5 l5)
    | (go_at_call 33; (with_reducible refine (HC6.out _ (HBA.out.trans (HB6.out.mono HBA.out.size)) (Nat.lt_of_lt_of_le hltA HB6.out.size)).mono ?_); rintro e w7 ⟨A6, N6, C6, rfl, t6, l6, g6⟩; have HL6 := Lib.hid l6; have HG6 := Lib.hid g6; have HB7 := Lib.hid (HB6.out.trans (g6.mono HB6.out.size)); have HT6 := Lib.hid t6; have z6 := HK.out _ (HBA.out.trans (HB7.out.mono HBA.out.size)); clear t6 g6 l6)
    | (go_at_call 33; (with_reducible refine (HC7.out _ (HBA.out.trans (HB7.out.mono HBA.out.size)) (Nat.lt_of_lt_of_le hltA HB7.out.size)).mono ?_); rintro e w8 ⟨A7, N7, C7, rfl, t7, l7, g7⟩; have HL7 := Lib.hid l7; have HG7 := Lib.hid g7; have HB8 := Lib.hid (HB7.out.trans (g7.mono HB7.out.size)); have HT7 := Lib.hid t7; have z7 := HK.out _ (HBA.out.trans (HB8.out.mono HBA.out.size)); clear t7 g7 l7; have q0 := HBx.out _ HB8.out; have y0 : w8.cell? ⟨w.heap.size, 0, none⟩ = some (.slice none 0 0) := q0.cell 0; have v0 : w8.frozen? ⟨w.heap.size, 0, none⟩ = false := q0.frozen 0; have y1 : w8.cell? ⟨w.heap.size, 1, none⟩ = some (.slice none 0 0) := q0.cell 1; have v1 : w8.frozen? ⟨w.heap.size, 1, none⟩ = false := q0.frozen 1; have y2 : w8.cell? ⟨w.heap.size, 2, none⟩ = some (.slice none 0 0) := q0.cell 2; have v2 : w8.frozen? ⟨w.heap.size, 2, none⟩ = false := q0.frozen 2; have y3 : w8.cell? ⟨w.heap.size, 3, none⟩ = some (.slice none 0 0) := q0.cell 3; have v3 : w8.frozen? ⟨w.heap.size, 3, none⟩ = false := q0.frozen 3; have y4 : w8.cell? ⟨w.heap.size, 4, none⟩ = some (.slice none 0 0) := q0.cell 4; have v4 : w8.frozen? ⟨w.heap.size, 4, none⟩ = false := q0.frozen 4; have y5 : w8.cell? ⟨w.heap.size, 5, none⟩ = some (.slice none 0 0) := q0.cell 5; have v5 : w8.frozen? ⟨w.heap.size, 5, none⟩ = false := q0.frozen 5; have y6 : w8.cell? ⟨w.heap.size, 6, none⟩ = some (.slice none 0 0) := q0.cell 6; have v6 : w8.frozen? ⟨w.heap.size, 6, none⟩ = false := q0.frozen 6; have y7 : w8.cell? ⟨w.heap.size, 7, none⟩ = some (.slice none 0 0) := q0.cell 7; have v7 : w8.frozen? ⟨w.heap.size, 7, none⟩ = false := q0.frozen 7; clear q0))
  all_goals
    have q0 := HBx.out _ HB8.out
    have m0 : Moves (fun i => i = w.heap.size) w8 w8 := Moves.refl _ _
    have q1 := q0.set 0 (.slice A0 N0 C0)
    have m1 := m0.setCell (p := ⟨w.heap.size, 0, none⟩) (.inl rfl) (.slice A0 N0 C0)
    have q2 := q1.set 1 (.slice A1 N1 C1)
    have m2 := m1.setCell (p := ⟨w.heap.size, 1, none⟩) (.inl rfl) (.slice A1 N1 C1)
    have q3 := q2.set 2 (.slice A2 N2 C2)
    have m3 := m2.setCell (p := ⟨w.heap.size, 2, none⟩) (.inl rfl) (.slice A2 N2 C2)
    have q4 := q3.set 3 (.slice A3 N3 C3)
    have m4 := m3.setCell (p := ⟨w.heap.size, 3, none⟩) (.inl rfl) (.slice A3 N3 C3)
    have q5 := q4.set 4 (.slice A4 N4 C4)
    have m5 := m4.setCell (p := ⟨w.heap.size, 4, none⟩) (.inl rfl) (.slice A4 N4 C4)
    have q6 := q5.set 5 (.slice A5 N5 C5)
    have m6 := m5.setCell (p := ⟨w.heap.size, 5, none⟩) (.inl rfl) (.slice A5 N5 C5)
    have q7 := q6.set 6 (.slice A6 N6 C6)
    have m7 := m6.setCell (p := ⟨w.heap.size, 6, none⟩) (.inl rfl) (.slice A6 N6 C6)
    have q8 := q7.set 7 (.slice A7 N7 C7)
    have m8 := m7.setCell (p := ⟨w.heap.size, 7, none⟩) (.inl rfl) (.slice A7 N7 C7)
    have HQ := Lib.hid q8
    have HM := Lib.hid m8
    clear q0 q1 q2 q3 q4 q5 q6 q7 q8 m0 m1 m2 m3 m4 m5 m6 m7 m8 hx0 z0 z1 z2 z3 z4 z5 z6 z7
    have HE0 := Lib.hid (texts_rowO ((((((((HT0.out).below HG1.out).below HG2.out).below HG3.out).below HG4.out).below HG5.out).below HG6.out).below HG7.out) HM.out (fun hne g hg => Nat.ne_of_gt (HL0.out.1 hne g hg)))
    have HE1 := Lib.hid (texts_rowO (((((((HT1.out).below HG2.out).below HG3.out).below HG4.out).below HG5.out).below HG6.out).below HG7.out) HM.out (fun hne g hg => Nat.ne_of_gt (HL1.out.1 hne g hg)))
    have HE2 := Lib.hid (texts_rowO ((((((HT2.out).below HG3.out).below HG4.out).below HG5.out).below HG6.out).below HG7.out) HM.out (fun hne g hg => Nat.ne_of_gt (HL2.out.1 hne g hg)))
    have HE3 := Lib.hid (texts_rowO (((((HT3.out).below HG4.out).below HG5.out).below HG6.out).below HG7.out) HM.out (fun hne g hg => Nat.ne_of_gt (HL3.out.1 hne g hg)))
    have HE4 := Lib.hid (texts_rowO ((((HT4.out).below HG5.out).below HG6.out).below HG7.out) HM.out (fun hne g hg => Nat.ne_of_gt (HL4.out.1 hne g hg)))
    have HE5 := Lib.hid (texts_rowO (((HT5.out).below HG6.out).below HG7.out) HM.out (fun hne g hg => Nat.ne_of_gt (HL5.out.1 hne g hg)))
    have HE6 := Lib.hid (texts_rowO ((HT6.out).below HG7.out) HM.out (fun hne g hg => Nat.ne_of_gt (HL6.out.1 hne g hg)))
    have HE7 := Lib.hid (texts_rowO (HT7.out) HM.out (fun hne g hg => Nat.ne_of_gt (HL7.out.1 hne g hg)))
    have HBf : Hid (Below w.heap.size w _) := (HBA.out.trans (HB8.out.mono HBA.out.size)).trans (HM.out.below (Nat.le_trans (Nat.le_of_lt hltA) HB8.out.size) fun i hi => Nat.le_of_eq hi.symm)
    go_wp2_with fail
    refine bodyPost_ret (pfResults (p := 2) (u := 3) rfl _ _ w.heap.size _ #[.slice A0 N0 C0, .slice A1 N1 C1, .slice A2 N2 C2, .slice A3 N3 C3, .slice A4 N4 C4, .slice A5 N5 C5, .slice A6 N6 C6, .slice A7 N7 C7] (0, 0) _ rfl (by exact HQ.out) Tryd.underlying46 rfl (by kernel_rfl)) rfl ⟨fun k => [.slice A0 N0 C0, .slice A1 N1 C1, .slice A2 N2 C2, .slice A3 N3 C3, .slice A4 N4 C4, .slice A5 N5 C5, .slice A6 N6 C6, .slice A7 N7 C7].getD k (.slice none 0 0), rfl, fun k hk => ?_, fun k hk => ?_, fun k hk hne => ?_, HBf.out⟩
    · match k, hk with
      | 0, _ => exact HE0.out
      | 1, _ => exact HE1.out
      | 2, _ => exact HE2.out
      | 3, _ => exact HE3.out
      | 4, _ => exact HE4.out
      | 5, _ => exact HE5.out
      | 6, _ => exact HE6.out
      | 7, _ => exact HE7.out
      | k + 8, h => exact absurd h (by omega)
    · match k, hk with
      | 0, _ => exact HL0.out.2
      | 1, _ => exact HL1.out.2
      | 2, _ => exact HL2.out.2
      | 3, _ => exact HL3.out.2
      | 4, _ => exact HL4.out.2
      | 5, _ => exact HL5.out.2
      | 6, _ => exact HL6.out.2
      | 7, _ => exact HL7.out.2
      | k + 8, h => exact absurd h (by omega)
    · have hne' : (p k).map bs ≠ [] := fun e => hne (List.map_eq_nil_iff.1 e)
      match k, hk, hne' with
      | 0, _, hne' => exact HL0.out.1 hne'
      | 1, _, hne' => exact HL1.out.1 hne'
      | 2, _, hne' => exact HL2.out.1 hne'
      | 3, _, hne' => exact HL3.out.1 hne'
      | 4, _, hne' => exact HL4.out.1 hne'
      | 5, _, hne' => exact HL5.out.1 hne'
      | 6, _, hne' => exact HL6.out.1 hne'
      | 7, _, hne' => exact HL7.out.1 hne'
      | k + 8, h, _ => exact absurd h (by omega)
end Go.Proofs.YtgoinpibllomfaaDoor
