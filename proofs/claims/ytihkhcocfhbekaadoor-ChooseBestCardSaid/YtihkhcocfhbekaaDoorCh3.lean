/- Layer 17: the document's Choose. -/
import Derived.Test.YtihkhcocfhbekaaDoorCh2
import Derived.Test.YtihkhcocfhbekaaDoorStrs
import Derived.Deep.RegionHeld3
import Derived.Deep.AppendLies
import Derived.LoopTactic
import Derived.Test.YtihkhcocfhbekaaDoorOwnM
namespace Go.Proofs.YtihkhcocfhbekaaDoor
open Go.RowKit

/-- The two lists of lists, boxed. -/
theorem two_boxes {w : World} {A B : Array Value} {t : TypeId} : ∀ W, Below ((w.alloc (.cells A t)).alloc (.cells B t)).heap.size ((w.alloc (.cells A t)).alloc (.cells B t)) W → Holds W w.heap.size t A ∧ Holds W (w.heap.size + 1) t B := fun W hb => by
  have h0 := (Holds.new w t A).moves ((Moves.refl nobody _).alloc (.cells B t)) (fun h => h)
  have h1 := Holds.new (w.alloc (.cells A t)) t B
  rw [World.size_alloc] at h1
  exact ⟨h0.moves (Moves.ofBelow (S := nobody) hb) (fun h => h), h1.moves (Moves.ofBelow (S := nobody) hb) (fun h => h)⟩
theorem two_below {w : World} {A B : Array Value} {t : TypeId} : Below w.heap.size w ((w.alloc (.cells A t)).alloc (.cells B t)) := ((Below.refl _ _).alloc (Nat.le_refl _) _).alloc (by rw [World.size_alloc]; omega) _
theorem list8_take (f : Nat → ByteArray) : ∀ k, k < 8 → (list8S f).take (k + 1) = (list8S f).take k ++ [f k]
  | 0, _ => rfl
  | 1, _ => rfl
  | 2, _ => rfl
  | 3, _ => rfl
  | 4, _ => rfl
  | 5, _ => rfl
  | 6, _ => rfl
  | 7, _ => rfl
  | k + 8, h => absurd h (by omega)

set_option maxHeartbeats 4000000 in
set_option maxRecDepth 100000 in
theorem r17Choose_any {w : World} {u v : Nat → Value} {p q : Nat → List (List UInt8)} (h : ∀ k < 8, TextsAt w (u k) ((p k).map bs)) (h' : ∀ k < 8, TextsAt w (v k) ((q k).map bs)) (hl : ∀ k < 8, (p k).length ≤ 1000) (hl' : ∀ k < 8, (q k).length ≤ 1000) :
    Calls Tryd.prog 13 #[agg8 u, agg8 v] w fun e w' => ∃ x, e = .returned (.tuple #[x, .int .i64 (badAt fun k => (chAt p q k).2)]) ∧ (badAt (fun k => (chAt p q k).2) = 8 → TextsAt w' x (list8S fun k => (chAt p q k).1)) ∧ Below w.heap.size w w' := by
  obtain ⟨i0, hi, hz0, hz1, hz2⟩ := info_parts infoStr
  have hu := texts_sl h
  have hv := texts_sl h'
  obtain ⟨a0, n0, c0, e0⟩ := hu 0 (by omega)
  obtain ⟨a1, n1, c1, e1⟩ := hu 1 (by omega)
  obtain ⟨a2, n2, c2, e2⟩ := hu 2 (by omega)
  obtain ⟨a3, n3, c3, e3⟩ := hu 3 (by omega)
  obtain ⟨a4, n4, c4, e4⟩ := hu 4 (by omega)
  obtain ⟨a5, n5, c5, e5⟩ := hu 5 (by omega)
  obtain ⟨a6, n6, c6, e6⟩ := hu 6 (by omega)
  obtain ⟨a7, n7, c7, e7⟩ := hu 7 (by omega)
  obtain ⟨b0, m0, d0, f0⟩ := hv 0 (by omega)
  obtain ⟨b1, m1, d1, f1⟩ := hv 1 (by omega)
  obtain ⟨b2, m2, d2, f2⟩ := hv 2 (by omega)
  obtain ⟨b3, m3, d3, f3⟩ := hv 3 (by omega)
  obtain ⟨b4, m4, d4, f4⟩ := hv 4 (by omega)
  obtain ⟨b5, m5, d5, f5⟩ := hv 5 (by omega)
  obtain ⟨b6, m6, d6, f6⟩ := hv 6 (by omega)
  obtain ⟨b7, m7, d7, f7⟩ := hv 7 (by omega)
  have hU : agg8 u = .agg #[.slice a0 n0 c0, .slice a1 n1 c1, .slice a2 n2 c2, .slice a3 n3 c3, .slice a4 n4 c4, .slice a5 n5 c5, .slice a6 n6 c6, .slice a7 n7 c7] := by unfold agg8; rw [e0, e1, e2, e3, e4, e5, e6, e7]
  have hV : agg8 v = .agg #[.slice b0 m0 d0, .slice b1 m1 d1, .slice b2 m2 d2, .slice b3 m3 d3, .slice b4 m4 d4, .slice b5 m5 d5, .slice b6 m6 d6, .slice b7 m7 d7] := by unfold agg8; rw [f0, f1, f2, f3, f4, f5, f6, f7]
  have HLp : Hid (∀ W, Below w.heap.size w W → Calls Tryd.prog 22 #[.agg #[.slice a0 n0 c0, .slice a1 n1 c1, .slice a2 n2 c2, .slice a3 n3 c3, .slice a4 n4 c4, .slice a5 n5 c5, .slice a6 n6 c6, .slice a7 n7 c7]] W fun e w' => ∃ b, e = .returned (.slice (some ⟨b, 0, none⟩) 8 8) ∧ b < w'.heap.size ∧ (∀ k < 8, w'.cell? ⟨b, k, none⟩ = some (u k)) ∧ Below W.heap.size W w') := fun W hb => by
    rw [← hU]
    exact r15Lists_any (p := p) fun k hk => (h k hk).below hb
  have HLq : Hid (∀ W, Below w.heap.size w W → Calls Tryd.prog 22 #[.agg #[.slice b0 m0 d0, .slice b1 m1 d1, .slice b2 m2 d2, .slice b3 m3 d3, .slice b4 m4 d4, .slice b5 m5 d5, .slice b6 m6 d6, .slice b7 m7 d7]] W fun e w' => ∃ b, e = .returned (.slice (some ⟨b, 0, none⟩) 8 8) ∧ b < w'.heap.size ∧ (∀ k < 8, w'.cell? ⟨b, k, none⟩ = some (v k)) ∧ Below W.heap.size W w') := fun W hb => by
    rw [← hV]
    exact r15Lists_any (p := q) fun k hk => (h' k hk).below hb
  have HRF : Hid (∀ (k : Nat), k < 8 → ∀ W : World, Below w.heap.size w W → Calls Tryd.prog 46 #[u k, v k] W fun e w' => e = .returned (.tuple #[.string (chAt p q k).1, .bool (chAt p q k).2]) ∧ w' = W) := fun k hk W hb => rFirst_any ((h k hk).below hb) ((h' k hk).below hb) (by rw [List.length_map]; have := hl k hk; unfold maxLen; omega) (by rw [List.length_map]; have := hl' k hk; unfold maxLen; omega)
  have HBX := Lib.hid (two_boxes (w := w) (A := #[.slice a0 n0 c0, .slice a1 n1 c1, .slice a2 n2 c2, .slice a3 n3 c3, .slice a4 n4 c4, .slice a5 n5 c5, .slice a6 n6 c6, .slice a7 n7 c7]) (B := #[.slice b0 m0 d0, .slice b1 m1 d1, .slice b2 m2 d2, .slice b3 m3 d3, .slice b4 m4 d4, .slice b5 m5 d5, .slice b6 m6 d6, .slice b7 m7 d7]) (t := 24))
  have HB0 := Lib.hid (two_below (w := w) (A := #[.slice a0 n0 c0, .slice a1 n1 c1, .slice a2 n2 c2, .slice a3 n3 c3, .slice a4 n4 c4, .slice a5 n5 c5, .slice a6 n6 c6, .slice a7 n7 c7]) (B := #[.slice b0 m0 d0, .slice b1 m1 d1, .slice b2 m2 d2, .slice b3 m3 d3, .slice b4 m4 d4, .slice b5 m5 d5, .slice b6 m6 d6, .slice b7 m7 d7]) (t := 24))
  obtain ⟨W0, hW0⟩ : ∃ W0, W0 = (w.alloc (.cells #[.slice a0 n0 c0, .slice a1 n1 c1, .slice a2 n2 c2, .slice a3 n3 c3, .slice a4 n4 c4, .slice a5 n5 c5, .slice a6 n6 c6, .slice a7 n7 c7] 24)).alloc (.cells #[.slice b0 m0 d0, .slice b1 m1 d1, .slice b2 m2 d2, .slice b3 m3 d3, .slice b4 m4 d4, .slice b5 m5 d5, .slice b6 m6 d6, .slice b7 m7 d7] 24) := ⟨_, rfl⟩
  rw [← hW0] at HBX HB0
  have HW0 := Lib.hid hW0.symm
  have BR : Hid (Below W0.heap.size W0 W0) := Below.refl _ _
  have hszP : (Tryd.prog.info? 24).map (·.size) = some (#[.slice a0 n0 c0, .slice a1 n1 c1, .slice a2 n2 c2, .slice a3 n3 c3, .slice a4 n4 c4, .slice a5 n5 c5, .slice a6 n6 c6, .slice a7 n7 c7] : Array Value).size := by kernel_rfl
  have hszQ : (Tryd.prog.info? 24).map (·.size) = some (#[.slice b0 m0 d0, .slice b1 m1 d1, .slice b2 m2 d2, .slice b3 m3 d3, .slice b4 m4 d4, .slice b5 m5 d5, .slice b6 m6 d6, .slice b7 m7 d7] : Array Value).size := by kernel_rfl
  have HFa : Hid (∀ j, j < 8 → (∀ k < j, (chAt p q k).2 = true) → (chAt p q j).2 = false → badAt (fun k => (chAt p q k).2) = j) := fun j hj h1 h2 => badAt_is hj h1 h2
  have HFn : Hid ((∀ k < 8, (chAt p q k).2 = true) → badAt (fun k => (chAt p q k).2) = 8) := badAt_none
  rw [hU, hV]
  clear hU hV e0 f0 e1 f1 e2 f2 e3 f3 e4 f4 e5 f5 e6 f6 e7 f7 hu hv h h' hW0 hl hl'
  go_enter Tryd.func13, Tryd.ntmps13
  go_wp2_with (first
    | (rw [HW0.out]; refine wpList_load_row rfl 24 _ rfl w.heap.size rfl 24 _ (0, 0) _ (HBX.out _ BR.out).1 Tryd.underlying24 rfl hszP ?_)
    | (go_at_call 22; (with_reducible refine (HLp.out _ (HB0.out.trans (BR.out.mono HB0.out.size))).mono ?_); rintro e w1 ⟨X1, rfl, hbl1, hcl1, g1⟩; have B1 := Lib.hid (BR.out.trans (g1.mono BR.out.size)); have HC1 := Lib.hid hcl1; have HL1 := Lib.hid hbl1; clear g1 hbl1 hcl1)
    | (refine wpList_load_row rfl 24 _ rfl (w.heap.size + 1) rfl 24 _ (0, 0) _ (HBX.out _ B1.out).2 Tryd.underlying24 rfl hszQ ?_)
    | (go_at_call 22; (with_reducible refine (HLq.out _ (HB0.out.trans (B1.out.mono HB0.out.size))).mono ?_); rintro e w2 ⟨X2, rfl, hbl2, hcl2, g2⟩; have G2 := Lib.hid g2; have B2 := Lib.hid (B1.out.trans (g2.mono B1.out.size)); have HC2 := Lib.hid hcl2; have HL2 := Lib.hid hbl2; clear g2 hbl2 hcl2)
    | fail)
  have HBw : Hid (Below w.heap.size w w2) := HB0.out.trans (B2.out.mono HB0.out.size)
  have HCl : Hid (∀ k, k < 8 → ∀ W, Below w2.heap.size w2 W → W.cell? ⟨X1, k, none⟩ = some (u k) ∧ W.cell? ⟨X2, k, none⟩ = some (v k)) := fun k hk W hb => by
    have hl1 : X1 < w2.heap.size := Nat.lt_of_lt_of_le HL1.out G2.out.size
    exact ⟨(hb.cell (p := ⟨X1, k, none⟩) hl1).trans ((G2.out.cell (p := ⟨X1, k, none⟩) HL1.out).trans (HC1.out k hk)), (hb.cell (p := ⟨X2, k, none⟩) HL2.out).trans (HC2.out k hk)⟩
  have HZ : Hid (w.heap.size ≤ w2.heap.size) := HBw.out.size
  have hT8 : (list8S fun k => (chAt p q k).1).length = 8 := rfl
  have HStep : Hid (∀ k, k < 8 → (list8S fun k => (chAt p q k).1).take (k + 1) = (list8S fun k => (chAt p q k).1).take k ++ [(chAt p q k).1]) := list8_take _
  clear HC1 HC2 HL1 HL2 G2 B1 B2 BR HBX HB0 HLp HLq hszP hszQ HW0
  go_loopw [8, 9] (fun l i wr => ∃ k : Nat, k ≤ 8 ∧ i = .int .i64 k ∧ (∀ j < k, (chAt p q j).2 = true) ∧ wr.ownsRow w2.heap.size 9 1 l k (strs ((list8S fun k => (chAt p q k).1).take k)) ∧ (k = 0 → l = .slice none 0 0) ∧ Below w2.heap.size w2 wr) (fun _ i _ => 9 - (intOf i).toNat)
  case atStart => exact ⟨0, Nat.zero_le _, rfl, fun j hj => absurd hj (by omega), World.ownsRow_nil _ _ _ _, fun _ => rfl, Below.refl _ _⟩
  case round =>
    obtain ⟨k, hk, rfl, hall, hrow, hnil, hbl⟩ := hrel
    by_cases hlt : k < 8
    · obtain ⟨x1, x2⟩ := HCl.out k hlt wr hbl
      obtain ⟨y1, y2⟩ := HCl.out k hlt wr.drew hbl.drew
      have HRf : Hid (∀ W, Below w2.heap.size w2 W → Calls Tryd.prog 46 #[u k, v k] W fun e w' => e = .returned (.tuple #[.string (chAt p q k).1, .bool (chAt p q k).2]) ∧ w' = W) := fun W hb => HRF.out k hlt W (HBw.out.trans (hb.mono HBw.out.size))
      have HRow := Lib.hid hrow
      have HNil := Lib.hid hnil
      have HBl := Lib.hid hbl
      have HB := Lib.hid (HFa.out k hlt hall)
      have hk0 : (0 : Int) ≤ (k : Int) := by omega
      have hk8 : (k : Int) < 8 := by omega
      have HSt := Lib.hid (HStep.out k hlt)
      have HYes : Hid ((chAt p q k).2 = true → ∀ j < k + 1, (chAt p q j).2 = true) := fun h1 j hj => by
        rcases Nat.lt_or_eq_of_le (Nat.le_of_lt_succ hj) with h2 | rfl
        · exact hall j h2
        · exact h1
      clear hall hrow hnil hbl HRF HFa HFn HStep hT8
      obtain ⟨X, hX⟩ : ∃ X, X = (chAt p q k).1 := ⟨_, rfl⟩
      obtain ⟨z, hz⟩ : ∃ z, z = (chAt p q k).2 := ⟨_, rfl⟩
      rw [← hX, ← hz] at HRf
      rw [← hX] at HSt
      rw [← hz] at HYes
      obtain ⟨Tk, hTk⟩ : ∃ Tk, Tk = (list8S fun k => (chAt p q k).1).take k := ⟨_, rfl⟩
      rw [← hTk] at HRow HSt
      obtain ⟨uk, huk⟩ : ∃ y, y = u k := ⟨_, rfl⟩
      obtain ⟨vk, hvk⟩ : ∃ y, y = v k := ⟨_, rfl⟩
      rw [← huk] at x1 y1 HRf
      rw [← hvk] at x2 y2 HRf
      cases z with
      | true =>
        have HAll := Lib.hid (HYes.out rfl)
        clear HYes HB hz hX hTk huk hvk
        go_wp2_with fail
        go_region_with (first
          | (go_at_call 46; (with_reducible refine (HRf.out _ HBl.out.drew).mono ?_); rintro e w3 ⟨rfl, rfl⟩)
          | fail)
        all_goals
          go_wp2_with (first
            | (at_builtin; refine wpList_append_own _ rfl _ _ 22 rfl w2.heap.size 9 i0 (.string ⟨#[]⟩) 1 16 Tryd.underlying22 hi hz0 hz1 hz2 rfl (by decide) _ _ _ rfl (owns_moves HRow.out ((Moves.refl nobody _).drew.alloc _) (fun _ _ h => h)) ⟨wr.drew.heap.size, 0, none⟩ 1 1 [.string X] rfl rfl (cell_one_new _ _ _) (str_one X) (by unfold maxLen; omega) (by omega) (by have := HBl.out.size; simp; omega) ?_; intro v' w4 hown' hgrow2 hnil2)
            | fail)
          go_roundw
          case rel =>
            refine ⟨k + 1, by omega, by go_num, HAll.out, ?_, fun e => by omega, ?_⟩
            · rw [HSt.out, strs_snoc]
              simpa using hown'
            · exact (HBl.out.drew.alloc HBl.out.drew.size _).grown hgrow2 (by have := HBl.out.size; simp; omega) (fun j hj => (HRow.out.lt j hj).1)
          case measure => simp [intOf]; omega
      | false =>
        have HJ := Lib.hid (HB.out hz.symm)
        clear HYes HB hz hX hTk huk hvk
        go_wp2_with fail
        go_region_with (first
          | (go_at_call 46; (with_reducible refine (HRf.out _ HBl.out.drew).mono ?_); rintro e w3 ⟨rfl, rfl⟩)
          | fail)
        all_goals
          go_wp2_with fail
          go_ret2
          exact ⟨_, by rw [HJ.out]; rfl, fun h => absurd (HJ.out.symm.trans h) (by omega), HBw.out.trans (HBl.out.drew.mono HBw.out.size)⟩
    · have hkl : k = 8 := by omega
      subst hkl
      have HJ := Lib.hid (HFn.out hall)
      have HT : Hid (TextsAt wr _ _) := TextsAt.ofRow (l := (list8S fun k => (chAt p q k).1).take 8) hrow (fun e => by simp [list8S] at e)
      have HBl := Lib.hid hbl
      clear hall hrow hnil hbl HRF HFa HFn HStep hT8 hlt hk
      go_wp2_with fail
      go_ret2
      exact ⟨_, by rw [HJ.out]; rfl, fun _ => HT.out, HBw.out.trans (HBl.out.mono HBw.out.size)⟩
end Go.Proofs.YtihkhcocfhbekaaDoor
