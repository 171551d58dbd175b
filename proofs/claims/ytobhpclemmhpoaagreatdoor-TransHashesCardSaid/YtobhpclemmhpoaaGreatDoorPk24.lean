/- Part 24 of what the statement wants. -/
import Derived.Test.YtobhpclemmhpoaaGreatDoorPk02
import Derived.Test.YtobhpclemmhpoaaGreatDoorPk23
namespace Go.Proofs.YtobhpclemmhpoaaGreatDoor
open Go.RowKit

/-- A row of texts of the call's own. -/
structure Sr (W1 : World) (L : List ByteArray) (v : Value) (W : World) : Prop where
  row : W.ownsRow W1.heap.size 9 1 v L.length (strs L)
  bel : Below W1.heap.size W1 W
theorem Sr.below {W1 W W' : World} {L : List ByteArray} {v : Value} (h : Sr W1 L v W) (hb : Below W.heap.size W W') : Sr W1 L v W' :=
  ⟨owns_moves h.row (Moves.ofBelow (S := nobody) hb) (fun _ _ h => h), h.bel.trans (hb.mono h.bel.size)⟩
theorem Sr.next {W1 W W2 : World} {L : List ByteArray} {v v2 : Value} {x : ByteArray} {o : Obj} (h : Sr W1 L v W) (hr : W2.ownsRow W1.heap.size 9 1 v2 (L.length + 1) (strs L ++ [.string x])) (hg : (W.alloc o).grownBy W2 v.ownBlock) : Sr W1 (L ++ [x]) v2 W2 := by
  refine ⟨by rw [strs_snoc, List.length_append]; exact hr, ?_⟩
  exact (h.bel.alloc h.bel.size o).grown hg (by have := h.bel.size; simp; omega) (fun j hj => (h.row.lt j hj).1)
set_option maxHeartbeats 8000000 in
set_option maxRecDepth 100000 in
theorem r20List_false (v0 v1 v2 v3 tk te tf tt gp gg : List UInt8) (hv : v0.length ≤ 10000 ∧ v1.length ≤ 10000 ∧ v2.length ≤ 10000 ∧ v3.length ≤ 10000) (ht : tk.length ≤ 131072 ∧ te.length ≤ 131072 ∧ tf.length ≤ 131072 ∧ tt.length ≤ 131072) (hp : gp.length ≤ 10000) (hg : gg.length ≤ 10000) (a0 a1 a2 : Nat) (h0 : a0 < 4294967296) (h1 : a1 < 4294967296) (h2 : a2 < 4294967296) (w : World) :
    Calls Tryz.prog 13 #[.agg #[.string (bs v0), .string (bs v1), .string (bs v2), .string (bs v3), .string (bs tk), .bool false, .int .i64 (a0 : Int), .int .i64 (a1 : Int), .int .i64 (a2 : Int), .string (bs gp), .string (bs gg), .string (bs te), .string (bs tf), .string (bs tt)]] w fun e w' => e = .returned (.string (bs (refListL (listL20 [v0, v1, v2, v3] tk false (askL a0 a1 a2 gp gg) te tf tt)))) ∧ Below w.heap.size w w' := by
  have HD0 := Lib.hid (refData_any v0 (by omega))
  have HD1 := Lib.hid (refData_any v1 (by omega))
  have HD2 := Lib.hid (refData_any v2 (by omega))
  have HD3 := Lib.hid (refData_any v3 (by omega))
  have HL : Hid (∀ (W : World) (v : Value), TextsAt W v ((listL20 [v0, v1, v2, v3] tk false (askL a0 a1 a2 gp gg) te tf tt).map bs) → Calls Tryz.prog 33 #[v] W fun e w' => e = .returned (.string (bs (refListL (listL20 [v0, v1, v2, v3] tk false (askL a0 a1 a2 gp gg) te tf tt)))) ∧ Below W.heap.size W w') := fun W v h => refList_any h (by simp [listL20, askL]) (fun t htm => by
    have dl : ∀ s : List UInt8, (refDataL s).length ≤ 131072 := fun s => by
      unfold refDataL fitsL
      split
      · simp
      · split
        · simp
        · omega
    simp only [listL20, List.mem_append] at htm
    rcases htm with ((hm | hm) | hm) | hm
    · obtain ⟨s, _, rfl⟩ := List.mem_map.1 hm
      have := dl s; omega
    · rw [List.mem_singleton.1 hm]; omega
    · simp at hm
    · simp only [List.mem_cons, List.not_mem_nil, or_false] at hm
      rcases hm with rfl | rfl | rfl <;> omega)
  simp only [listL20, askL, List.map_append, List.map_cons, List.map_nil, List.cons_append, List.nil_append, if_true, Bool.false_eq_true, if_false, List.append_nil] at HL
  simp only [listL20, askL, List.map_append, List.map_cons, List.map_nil, List.cons_append, List.nil_append, if_true, Bool.false_eq_true, if_false, List.append_nil]
  generalize bs (refListL _) = RES at *
  generalize bs (refDataL v0) = D0 at *
  generalize bs (refDataL v1) = D1 at *
  generalize bs (refDataL v2) = D2 at *
  generalize bs (refDataL v3) = D3 at *
  generalize bs v0 = V0 at *
  generalize bs v1 = V1 at *
  generalize bs v2 = V2 at *
  generalize bs v3 = V3 at *
  generalize bs tk = KK at *
  generalize bs te = EE at *
  generalize bs tf = FF at *
  generalize bs tt = TT at *
  generalize bs gp = GP at *
  generalize bs gg = GG at *
  obtain ⟨i0, hi, hz0, hz1, hz2⟩ := info_parts infoStr
  obtain ⟨W1, hW1⟩ : ∃ W1, Hid (W1 = w.alloc (.cells #[.string V0, .string V1, .string V2, .string V3, .string KK, .bool false, .int .i64 (a0 : Int), .int .i64 (a1 : Int), .int .i64 (a2 : Int), .string GP, .string GG, .string EE, .string FF, .string TT] 41)) := ⟨_, Lib.hid rfl⟩
  have b1 : Below w.heap.size w W1 := by rw [hW1.out]; exact (Below.refl _ _).alloc (Nat.le_refl _) _
  have hBx : Holds W1 w.heap.size 41 #[.string V0, .string V1, .string V2, .string V3, .string KK, .bool false, .int .i64 (a0 : Int), .int .i64 (a1 : Int), .int .i64 (a2 : Int), .string GP, .string GG, .string EE, .string FF, .string TT] := by rw [hW1.out]; exact Holds.new w _ _
  have HC : Hid (∀ W', Below W1.heap.size W1 W' → Holds W' w.heap.size 41 #[.string V0, .string V1, .string V2, .string V3, .string KK, .bool false, .int .i64 (a0 : Int), .int .i64 (a1 : Int), .int .i64 (a2 : Int), .string GP, .string GG, .string EE, .string FF, .string TT]) := fun W' hb => (Kept.ofBelow hb).hold _ _ _ (by decide) (by decide) hBx
  have HB1 := Lib.hid b1
  clear hv ht hp hg h0 h1 h2 b1 hBx
  go_enter Tryz.func13, Tryz.ntmps13
  go_wp2_with fail
  rw [← hW1.out]
  go_loopw [3, 4] (fun u i wr => ∃ k : Nat, k ≤ 4 ∧ i = .int .i64 (k : Int) ∧ Sr W1 (([D0, D1, D2, D3] : List ByteArray).take k) u wr ∧ (k = 0 → u = .slice none 0 0)) (fun _ i _ => 4 - (intOf i).toNat)
  case atStart => exact ⟨0, by omega, rfl, ⟨World.ownsRow_nil _ _ _ _, Below.refl _ _⟩, fun _ => rfl⟩
  case round =>
    obtain ⟨k, hk, rfl, hs, hnil⟩ := hrel
    have hc : k = 0 ∨ k = 1 ∨ k = 2 ∨ k = 3 ∨ k = 4 := by omega
    rcases hc with rfl | rfl | rfl | rfl | rfl
    · have y0 := (HC.out _ hs.bel).cell 0
      obtain ⟨ao, nn, cc, rfl⟩ := row_slice hs.row
      have zz := hs.bel.size
      clear hnil hk
      go_wp2_with (first
        | (go_at_call 30; (with_reducible refine (HD0.out _).mono ?_); rintro e w2 ⟨rfl, b2⟩; have s2 := hs.below b2; have z2 := s2.bel.size)
        | (at_builtin; refine wpList_append_own _ rfl _ _ 45 rfl W1.heap.size 9 i0 (.string ⟨#[]⟩) 1 16 Tryz.underlying45 hi hz0 hz1 hz2 rfl (by decide) _ _ _ rfl (s2.row.alloc _) ⟨w2.heap.size, 0, none⟩ 1 1 [.string D0] rfl rfl (cell_one_new _ _ _) (str_one D0) (by unfold maxLen; simp) (by simp) (by simp; omega) ?_; intro v9 w9 hr9 hg9 hn9; have s9 := s2.next hr9 hg9; have z9 := s9.bel.size)
        | go_in)
      go_roundw
      case rel => exact ⟨1, by omega, by go_num, s9, fun e => by omega⟩
      case measure => simp [intOf]
    · have y0 := (HC.out _ hs.bel).cell 1
      obtain ⟨ao, nn, cc, rfl⟩ := row_slice hs.row
      have zz := hs.bel.size
      clear hnil hk
      go_wp2_with (first
        | (go_at_call 30; (with_reducible refine (HD1.out _).mono ?_); rintro e w2 ⟨rfl, b2⟩; have s2 := hs.below b2; have z2 := s2.bel.size)
        | (at_builtin; refine wpList_append_own _ rfl _ _ 45 rfl W1.heap.size 9 i0 (.string ⟨#[]⟩) 1 16 Tryz.underlying45 hi hz0 hz1 hz2 rfl (by decide) _ _ _ rfl (s2.row.alloc _) ⟨w2.heap.size, 0, none⟩ 1 1 [.string D1] rfl rfl (cell_one_new _ _ _) (str_one D1) (by unfold maxLen; simp) (by simp) (by simp; omega) ?_; intro v9 w9 hr9 hg9 hn9; have s9 := s2.next hr9 hg9; have z9 := s9.bel.size)
        | go_in)
      go_roundw
      case rel => exact ⟨2, by omega, by go_num, s9, fun e => by omega⟩
      case measure => simp [intOf]
    · have y0 := (HC.out _ hs.bel).cell 2
      obtain ⟨ao, nn, cc, rfl⟩ := row_slice hs.row
      have zz := hs.bel.size
      clear hnil hk
      go_wp2_with (first
        | (go_at_call 30; (with_reducible refine (HD2.out _).mono ?_); rintro e w2 ⟨rfl, b2⟩; have s2 := hs.below b2; have z2 := s2.bel.size)
        | (at_builtin; refine wpList_append_own _ rfl _ _ 45 rfl W1.heap.size 9 i0 (.string ⟨#[]⟩) 1 16 Tryz.underlying45 hi hz0 hz1 hz2 rfl (by decide) _ _ _ rfl (s2.row.alloc _) ⟨w2.heap.size, 0, none⟩ 1 1 [.string D2] rfl rfl (cell_one_new _ _ _) (str_one D2) (by unfold maxLen; simp) (by simp) (by simp; omega) ?_; intro v9 w9 hr9 hg9 hn9; have s9 := s2.next hr9 hg9; have z9 := s9.bel.size)
        | go_in)
      go_roundw
      case rel => exact ⟨3, by omega, by go_num, s9, fun e => by omega⟩
      case measure => simp [intOf]
    · have y0 := (HC.out _ hs.bel).cell 3
      obtain ⟨ao, nn, cc, rfl⟩ := row_slice hs.row
      have zz := hs.bel.size
      clear hnil hk
      go_wp2_with (first
        | (go_at_call 30; (with_reducible refine (HD3.out _).mono ?_); rintro e w2 ⟨rfl, b2⟩; have s2 := hs.below b2; have z2 := s2.bel.size)
        | (at_builtin; refine wpList_append_own _ rfl _ _ 45 rfl W1.heap.size 9 i0 (.string ⟨#[]⟩) 1 16 Tryz.underlying45 hi hz0 hz1 hz2 rfl (by decide) _ _ _ rfl (s2.row.alloc _) ⟨w2.heap.size, 0, none⟩ 1 1 [.string D3] rfl rfl (cell_one_new _ _ _) (str_one D3) (by unfold maxLen; simp) (by simp) (by simp; omega) ?_; intro v9 w9 hr9 hg9 hn9; have s9 := s2.next hr9 hg9; have z9 := s9.bel.size)
        | go_in)
      go_roundw
      case rel => exact ⟨4, by omega, by go_num, s9, fun e => by omega⟩
      case measure => simp [intOf]
    · have hB := HC.out _ hs.bel
      have y4 := hB.cell 4
      obtain ⟨ao, nn, cc, rfl⟩ := row_slice hs.row
      have zz := hs.bel.size
      clear hnil hk
      go_upto_region 8 with (first
        | (at_builtin; refine wpList_append_own _ rfl _ _ 45 rfl W1.heap.size 9 i0 (.string ⟨#[]⟩) 1 16 Tryz.underlying45 hi hz0 hz1 hz2 rfl (by decide) _ _ _ rfl (hs.row.alloc _) ⟨wr.heap.size, 0, none⟩ 1 1 [.string KK] rfl rfl (cell_one_new _ _ _) (str_one KK) (by unfold maxLen; simp) (by simp) (by simp; omega) ?_; intro v9 w9 hr9 hg9 hn9; have s9 := hs.next hr9 hg9; have z9 := s9.bel.size)
        | go_in)
      obtain ⟨ao9, nn9, cc9, rfl⟩ := row_slice s9.row
      have hB9 := HC.out _ s9.bel
      have y5 := hB9.cell 5
      clear y4 hB
      go_loopw [3, 5] (fun u i wr => u = .slice ao9 nn9 cc9 ∧ i = .int .i64 0 ∧ wr = w9) (fun _ _ _ => 0)
      case atStart => exact ⟨rfl, rfl, rfl⟩
      case round =>
        obtain ⟨rfl, rfl, hw⟩ := hrel
        have hw := hw.symm
        subst hw
        have y11 := hB9.cell 11
        go_upto_region 15 with (first
          | (at_builtin; refine wpList_append_own _ rfl _ _ 45 rfl W1.heap.size 9 i0 (.string ⟨#[]⟩) 1 16 Tryz.underlying45 hi hz0 hz1 hz2 rfl (by decide) _ _ _ rfl (s9.row.alloc _) ⟨w9.heap.size, 0, none⟩ 1 1 [.string EE] rfl rfl (cell_one_new _ _ _) (str_one EE) (by unfold maxLen; simp) (by simp) (by simp; omega) ?_; intro v10 w10 hr10 hg10 hn10; have s10 := s9.next hr10 hg10; have z10 := s10.bel.size)
          | go_in)
        obtain ⟨ao10, nn10, cc10, rfl⟩ := row_slice s10.row
        have y12 := (HC.out _ s10.bel).cell 12
        go_upto_region 16 with (first
          | (at_builtin; refine wpList_append_own _ rfl _ _ 45 rfl W1.heap.size 9 i0 (.string ⟨#[]⟩) 1 16 Tryz.underlying45 hi hz0 hz1 hz2 rfl (by decide) _ _ _ rfl (s10.row.alloc _) ⟨w10.heap.size, 0, none⟩ 1 1 [.string FF] rfl rfl (cell_one_new _ _ _) (str_one FF) (by unfold maxLen; simp) (by simp) (by simp; omega) ?_; intro v11 w11 hr11 hg11 hn11; have s11 := s10.next hr11 hg11; have z11 := s11.bel.size)
          | go_in)
        obtain ⟨ao11, nn11, cc11, rfl⟩ := row_slice s11.row
        have y13 := (HC.out _ s11.bel).cell 13
        go_upto_region 17 with (first
          | (at_builtin; refine wpList_append_own _ rfl _ _ 45 rfl W1.heap.size 9 i0 (.string ⟨#[]⟩) 1 16 Tryz.underlying45 hi hz0 hz1 hz2 rfl (by decide) _ _ _ rfl (s11.row.alloc _) ⟨w11.heap.size, 0, none⟩ 1 1 [.string TT] rfl rfl (cell_one_new _ _ _) (str_one TT) (by unfold maxLen; simp) (by simp) (by simp; omega) ?_; intro v12 w12 hr12 hg12 hn12; have s12 := s11.next hr12 hg12; have z12 := s12.bel.size)
          | go_in)
        obtain ⟨ao12, nn12, cc12, rfl⟩ := row_slice s12.row
        have HLL := Lib.hid (HL.out _ _ (TextsAt.ofRow s12.row (by simp)))
        have S12 := Lib.hid s12.bel
        go_wp2_with (go_at_call 33; (with_reducible refine HLL.out.mono ?_); rintro e w13 ⟨rfl, b13⟩)
        go_ret
        exact ⟨rfl, HB1.out.trans ((S12.out.trans (b13.mono S12.out.size)).mono HB1.out.size)⟩
set_option maxHeartbeats 8000000 in
set_option maxRecDepth 100000 in
theorem r20List_true (v0 v1 v2 v3 tk te tf tt gp gg : List UInt8) (hv : v0.length ≤ 10000 ∧ v1.length ≤ 10000 ∧ v2.length ≤ 10000 ∧ v3.length ≤ 10000) (ht : tk.length ≤ 131072 ∧ te.length ≤ 131072 ∧ tf.length ≤ 131072 ∧ tt.length ≤ 131072) (hp : gp.length ≤ 10000) (hg : gg.length ≤ 10000) (a0 a1 a2 : Nat) (h0 : a0 < 4294967296) (h1 : a1 < 4294967296) (h2 : a2 < 4294967296) (w : World) :
    Calls Tryz.prog 13 #[.agg #[.string (bs v0), .string (bs v1), .string (bs v2), .string (bs v3), .string (bs tk), .bool true, .int .i64 (a0 : Int), .int .i64 (a1 : Int), .int .i64 (a2 : Int), .string (bs gp), .string (bs gg), .string (bs te), .string (bs tf), .string (bs tt)]] w fun e w' => e = .returned (.string (bs (refListL (listL20 [v0, v1, v2, v3] tk true (askL a0 a1 a2 gp gg) te tf tt)))) ∧ Below w.heap.size w w' := by
  have HD0 := Lib.hid (refData_any v0 (by omega))
  have HD1 := Lib.hid (refData_any v1 (by omega))
  have HD2 := Lib.hid (refData_any v2 (by omega))
  have HD3 := Lib.hid (refData_any v3 (by omega))
  have HU0 := Lib.hid (refU32_any a0 h0)
  have HE0 := Lib.hid (refData_any (pack4 a0) (by simp [pack4]))
  have HU1 := Lib.hid (refU32_any a1 h1)
  have HE1 := Lib.hid (refData_any (pack4 a1) (by simp [pack4]))
  have HU2 := Lib.hid (refU32_any a2 h2)
  have HE2 := Lib.hid (refData_any (pack4 a2) (by simp [pack4]))
  have hwp := wholeL_le gp
  have hwg := wholeL_le gg
  have hcp : (cnt (wholeL gp)).length ≤ 1000000 := by
    simp only [cnt, List.length_append]
    have : (pack4 (wholeL gp).length).length = 4 := rfl
    omega
  have hcg : (cnt (wholeL gg)).length ≤ 1000000 := by
    simp only [cnt, List.length_append]
    have : (pack4 (wholeL gg).length).length = 4 := rfl
    omega
  have HWp := Lib.hid (qW_any gp (by omega))
  have HWg := Lib.hid (qW_any gg (by omega))
  have HDp := Lib.hid (refData_any (cnt (wholeL gp)) hcp)
  have HDg := Lib.hid (refData_any (cnt (wholeL gg)) hcg)
  have HL : Hid (∀ (W : World) (v : Value), TextsAt W v ((listL20 [v0, v1, v2, v3] tk true (askL a0 a1 a2 gp gg) te tf tt).map bs) → Calls Tryz.prog 33 #[v] W fun e w' => e = .returned (.string (bs (refListL (listL20 [v0, v1, v2, v3] tk true (askL a0 a1 a2 gp gg) te tf tt)))) ∧ Below W.heap.size W w') := fun W v h => refList_any h (by simp [listL20, askL]) (fun t htm => by
    have dl : ∀ s : List UInt8, (refDataL s).length ≤ 131072 := fun s => by
      unfold refDataL fitsL
      split
      · simp
      · split
        · simp
        · omega
    simp only [listL20, List.mem_append] at htm
    rcases htm with ((hm | hm) | hm) | hm
    · obtain ⟨s, _, rfl⟩ := List.mem_map.1 hm
      have := dl s; omega
    · rw [List.mem_singleton.1 hm]; omega
    · rw [if_pos trivial] at hm
      obtain ⟨s, _, rfl⟩ := List.mem_map.1 hm
      have := dl s; omega
    · simp only [List.mem_cons, List.not_mem_nil, or_false] at hm
      rcases hm with rfl | rfl | rfl <;> omega)
  simp only [listL20, askL, List.map_append, List.map_cons, List.map_nil, List.cons_append, List.nil_append, if_true, Bool.false_eq_true, if_false, List.append_nil] at HL
  simp only [listL20, askL, List.map_append, List.map_cons, List.map_nil, List.cons_append, List.nil_append, if_true, Bool.false_eq_true, if_false, List.append_nil]
  generalize bs (refListL _) = RES at *
  generalize bs (refDataL v0) = D0 at *
  generalize bs (refDataL v1) = D1 at *
  generalize bs (refDataL v2) = D2 at *
  generalize bs (refDataL v3) = D3 at *
  generalize bs (refDataL (pack4 a0)) = U0 at *
  generalize bs (pack4 a0) = N0 at *
  generalize bs (refDataL (pack4 a1)) = U1 at *
  generalize bs (pack4 a1) = N1 at *
  generalize bs (refDataL (pack4 a2)) = U2 at *
  generalize bs (pack4 a2) = N2 at *
  generalize bs (refDataL (cnt (wholeL gp))) = Q0 at *
  generalize bs (refDataL (cnt (wholeL gg))) = Q1 at *
  generalize bs (cnt (wholeL gp)) = X0 at *
  generalize bs (cnt (wholeL gg)) = X1 at *
  generalize bs v0 = V0 at *
  generalize bs v1 = V1 at *
  generalize bs v2 = V2 at *
  generalize bs v3 = V3 at *
  generalize bs tk = KK at *
  generalize bs te = EE at *
  generalize bs tf = FF at *
  generalize bs tt = TT at *
  generalize bs gp = GP at *
  generalize bs gg = GG at *
  obtain ⟨i0, hi, hz0, hz1, hz2⟩ := info_parts infoStr
  obtain ⟨W1, hW1⟩ : ∃ W1, Hid (W1 = w.alloc (.cells #[.string V0, .string V1, .string V2, .string V3, .string KK, .bool true, .int .i64 (a0 : Int), .int .i64 (a1 : Int), .int .i64 (a2 : Int), .string GP, .string GG, .string EE, .string FF, .string TT] 41)) := ⟨_, Lib.hid rfl⟩
  have b1 : Below w.heap.size w W1 := by rw [hW1.out]; exact (Below.refl _ _).alloc (Nat.le_refl _) _
  have hBx : Holds W1 w.heap.size 41 #[.string V0, .string V1, .string V2, .string V3, .string KK, .bool true, .int .i64 (a0 : Int), .int .i64 (a1 : Int), .int .i64 (a2 : Int), .string GP, .string GG, .string EE, .string FF, .string TT] := by rw [hW1.out]; exact Holds.new w _ _
  have HC : Hid (∀ W', Below W1.heap.size W1 W' → Holds W' w.heap.size 41 #[.string V0, .string V1, .string V2, .string V3, .string KK, .bool true, .int .i64 (a0 : Int), .int .i64 (a1 : Int), .int .i64 (a2 : Int), .string GP, .string GG, .string EE, .string FF, .string TT]) := fun W' hb => (Kept.ofBelow hb).hold _ _ _ (by decide) (by decide) hBx
  have HB1 := Lib.hid b1
  clear hv ht hp hg h0 h1 h2 b1 hBx hwp hwg hcp hcg
  go_enter Tryz.func13, Tryz.ntmps13
  go_wp2_with fail
  rw [← hW1.out]
  go_loopw [3, 4] (fun u i wr => ∃ k : Nat, k ≤ 4 ∧ i = .int .i64 (k : Int) ∧ Sr W1 (([D0, D1, D2, D3] : List ByteArray).take k) u wr ∧ (k = 0 → u = .slice none 0 0)) (fun _ i _ => 4 - (intOf i).toNat)
  case atStart => exact ⟨0, by omega, rfl, ⟨World.ownsRow_nil _ _ _ _, Below.refl _ _⟩, fun _ => rfl⟩
  case round =>
    obtain ⟨k, hk, rfl, hs, hnil⟩ := hrel
    have hc : k = 0 ∨ k = 1 ∨ k = 2 ∨ k = 3 ∨ k = 4 := by omega
    rcases hc with rfl | rfl | rfl | rfl | rfl
    · have y0 := (HC.out _ hs.bel).cell 0
      obtain ⟨ao, nn, cc, rfl⟩ := row_slice hs.row
      have zz := hs.bel.size
      clear hnil hk
      go_wp2_with (first
        | (go_at_call 30; (with_reducible refine (HD0.out _).mono ?_); rintro e w2 ⟨rfl, b2⟩; have s2 := hs.below b2; have z2 := s2.bel.size)
        | (at_builtin; refine wpList_append_own _ rfl _ _ 45 rfl W1.heap.size 9 i0 (.string ⟨#[]⟩) 1 16 Tryz.underlying45 hi hz0 hz1 hz2 rfl (by decide) _ _ _ rfl (s2.row.alloc _) ⟨w2.heap.size, 0, none⟩ 1 1 [.string D0] rfl rfl (cell_one_new _ _ _) (str_one D0) (by unfold maxLen; simp) (by simp) (by simp; omega) ?_; intro v9 w9 hr9 hg9 hn9; have s9 := s2.next hr9 hg9; have z9 := s9.bel.size)
        | go_in)
      go_roundw
      case rel => exact ⟨1, by omega, by go_num, s9, fun e => by omega⟩
      case measure => simp [intOf]
    · have y0 := (HC.out _ hs.bel).cell 1
      obtain ⟨ao, nn, cc, rfl⟩ := row_slice hs.row
      have zz := hs.bel.size
      clear hnil hk
      go_wp2_with (first
        | (go_at_call 30; (with_reducible refine (HD1.out _).mono ?_); rintro e w2 ⟨rfl, b2⟩; have s2 := hs.below b2; have z2 := s2.bel.size)
        | (at_builtin; refine wpList_append_own _ rfl _ _ 45 rfl W1.heap.size 9 i0 (.string ⟨#[]⟩) 1 16 Tryz.underlying45 hi hz0 hz1 hz2 rfl (by decide) _ _ _ rfl (s2.row.alloc _) ⟨w2.heap.size, 0, none⟩ 1 1 [.string D1] rfl rfl (cell_one_new _ _ _) (str_one D1) (by unfold maxLen; simp) (by simp) (by simp; omega) ?_; intro v9 w9 hr9 hg9 hn9; have s9 := s2.next hr9 hg9; have z9 := s9.bel.size)
        | go_in)
      go_roundw
      case rel => exact ⟨2, by omega, by go_num, s9, fun e => by omega⟩
      case measure => simp [intOf]
    · have y0 := (HC.out _ hs.bel).cell 2
      obtain ⟨ao, nn, cc, rfl⟩ := row_slice hs.row
      have zz := hs.bel.size
      clear hnil hk
      go_wp2_with (first
        | (go_at_call 30; (with_reducible refine (HD2.out _).mono ?_); rintro e w2 ⟨rfl, b2⟩; have s2 := hs.below b2; have z2 := s2.bel.size)
        | (at_builtin; refine wpList_append_own _ rfl _ _ 45 rfl W1.heap.size 9 i0 (.string ⟨#[]⟩) 1 16 Tryz.underlying45 hi hz0 hz1 hz2 rfl (by decide) _ _ _ rfl (s2.row.alloc _) ⟨w2.heap.size, 0, none⟩ 1 1 [.string D2] rfl rfl (cell_one_new _ _ _) (str_one D2) (by unfold maxLen; simp) (by simp) (by simp; omega) ?_; intro v9 w9 hr9 hg9 hn9; have s9 := s2.next hr9 hg9; have z9 := s9.bel.size)
        | go_in)
      go_roundw
      case rel => exact ⟨3, by omega, by go_num, s9, fun e => by omega⟩
      case measure => simp [intOf]
    · have y0 := (HC.out _ hs.bel).cell 3
      obtain ⟨ao, nn, cc, rfl⟩ := row_slice hs.row
      have zz := hs.bel.size
      clear hnil hk
      go_wp2_with (first
        | (go_at_call 30; (with_reducible refine (HD3.out _).mono ?_); rintro e w2 ⟨rfl, b2⟩; have s2 := hs.below b2; have z2 := s2.bel.size)
        | (at_builtin; refine wpList_append_own _ rfl _ _ 45 rfl W1.heap.size 9 i0 (.string ⟨#[]⟩) 1 16 Tryz.underlying45 hi hz0 hz1 hz2 rfl (by decide) _ _ _ rfl (s2.row.alloc _) ⟨w2.heap.size, 0, none⟩ 1 1 [.string D3] rfl rfl (cell_one_new _ _ _) (str_one D3) (by unfold maxLen; simp) (by simp) (by simp; omega) ?_; intro v9 w9 hr9 hg9 hn9; have s9 := s2.next hr9 hg9; have z9 := s9.bel.size)
        | go_in)
      go_roundw
      case rel => exact ⟨4, by omega, by go_num, s9, fun e => by omega⟩
      case measure => simp [intOf]
    · have hB := HC.out _ hs.bel
      have y4 := hB.cell 4
      obtain ⟨ao, nn, cc, rfl⟩ := row_slice hs.row
      have zz := hs.bel.size
      clear hnil hk
      go_upto_region 8 with (first
        | (at_builtin; refine wpList_append_own _ rfl _ _ 45 rfl W1.heap.size 9 i0 (.string ⟨#[]⟩) 1 16 Tryz.underlying45 hi hz0 hz1 hz2 rfl (by decide) _ _ _ rfl (hs.row.alloc _) ⟨wr.heap.size, 0, none⟩ 1 1 [.string KK] rfl rfl (cell_one_new _ _ _) (str_one KK) (by unfold maxLen; simp) (by simp) (by simp; omega) ?_; intro v9 w9 hr9 hg9 hn9; have s9 := hs.next hr9 hg9; have z9 := s9.bel.size)
        | go_in)
      obtain ⟨ao9, nn9, cc9, rfl⟩ := row_slice s9.row
      have S9 := Lib.hid s9
      clear s9 hr9 hg9 hn9 z9 y4 hB
      go_loopw [3, 5] (fun u i wr => ∃ k : Nat, k ≤ 3 ∧ i = .int .i64 (k : Int) ∧ Sr W1 ([D0, D1, D2, D3, KK] ++ ([U0, U1, U2] : List ByteArray).take k) u wr) (fun _ i _ => 3 - (intOf i).toNat)
      case atStart => exact ⟨0, by omega, rfl, S9.out⟩
      case round =>
        obtain ⟨k, hk, rfl, hs9⟩ := hrel
        have hc : k = 0 ∨ k = 1 ∨ k = 2 ∨ k = 3 := by omega
        rcases hc with rfl | rfl | rfl | rfl
        · have hB9 := HC.out _ hs9.bel
          have y5 := hB9.cell 5
          have y6 := hB9.cell 6
          obtain ⟨ao, nn, cc, rfl⟩ := row_slice hs9.row
          have zz := hs9.bel.size
          clear hk hB9
          go_wp2_with (first
            | (go_at_call 31; (with_reducible refine (HU0.out _).mono ?_); rintro e w2 ⟨rfl, b2⟩; have s2 := hs9.below b2; have z2 := s2.bel.size)
            | (go_at_call 30; (with_reducible refine (HE0.out _).mono ?_); rintro e w3 ⟨rfl, b3⟩; have s3 := s2.below b3; have z3 := s3.bel.size)
            | (at_builtin; refine wpList_append_own _ rfl _ _ 45 rfl W1.heap.size 9 i0 (.string ⟨#[]⟩) 1 16 Tryz.underlying45 hi hz0 hz1 hz2 rfl (by decide) _ _ _ rfl (s3.row.alloc _) ⟨w3.heap.size, 0, none⟩ 1 1 [.string U0] rfl rfl (cell_one_new _ _ _) (str_one U0) (by unfold maxLen; simp) (by simp) (by simp; omega) ?_; intro v4 w4 hr4 hg4 hn4; have s4 := s3.next hr4 hg4; have z4 := s4.bel.size)
            | go_in)
          go_roundw
          case rel => exact ⟨1, by omega, by go_num, s4⟩
          case measure => simp [intOf]
        · have hB9 := HC.out _ hs9.bel
          have y5 := hB9.cell 5
          have y6 := hB9.cell 7
          obtain ⟨ao, nn, cc, rfl⟩ := row_slice hs9.row
          have zz := hs9.bel.size
          clear hk hB9
          go_wp2_with (first
            | (go_at_call 31; (with_reducible refine (HU1.out _).mono ?_); rintro e w2 ⟨rfl, b2⟩; have s2 := hs9.below b2; have z2 := s2.bel.size)
            | (go_at_call 30; (with_reducible refine (HE1.out _).mono ?_); rintro e w3 ⟨rfl, b3⟩; have s3 := s2.below b3; have z3 := s3.bel.size)
            | (at_builtin; refine wpList_append_own _ rfl _ _ 45 rfl W1.heap.size 9 i0 (.string ⟨#[]⟩) 1 16 Tryz.underlying45 hi hz0 hz1 hz2 rfl (by decide) _ _ _ rfl (s3.row.alloc _) ⟨w3.heap.size, 0, none⟩ 1 1 [.string U1] rfl rfl (cell_one_new _ _ _) (str_one U1) (by unfold maxLen; simp) (by simp) (by simp; omega) ?_; intro v4 w4 hr4 hg4 hn4; have s4 := s3.next hr4 hg4; have z4 := s4.bel.size)
            | go_in)
          go_roundw
          case rel => exact ⟨2, by omega, by go_num, s4⟩
          case measure => simp [intOf]
        · have hB9 := HC.out _ hs9.bel
          have y5 := hB9.cell 5
          have y6 := hB9.cell 8
          obtain ⟨ao, nn, cc, rfl⟩ := row_slice hs9.row
          have zz := hs9.bel.size
          clear hk hB9
          go_wp2_with (first
            | (go_at_call 31; (with_reducible refine (HU2.out _).mono ?_); rintro e w2 ⟨rfl, b2⟩; have s2 := hs9.below b2; have z2 := s2.bel.size)
            | (go_at_call 30; (with_reducible refine (HE2.out _).mono ?_); rintro e w3 ⟨rfl, b3⟩; have s3 := s2.below b3; have z3 := s3.bel.size)
            | (at_builtin; refine wpList_append_own _ rfl _ _ 45 rfl W1.heap.size 9 i0 (.string ⟨#[]⟩) 1 16 Tryz.underlying45 hi hz0 hz1 hz2 rfl (by decide) _ _ _ rfl (s3.row.alloc _) ⟨w3.heap.size, 0, none⟩ 1 1 [.string U2] rfl rfl (cell_one_new _ _ _) (str_one U2) (by unfold maxLen; simp) (by simp) (by simp; omega) ?_; intro v4 w4 hr4 hg4 hn4; have s4 := s3.next hr4 hg4; have z4 := s4.bel.size)
            | go_in)
          go_roundw
          case rel => exact ⟨3, by omega, by go_num, s4⟩
          case measure => simp [intOf]
        · have hB9 := HC.out _ hs9.bel
          have y5 := hB9.cell 5
          have y9 := hB9.cell 9
          obtain ⟨ao, nn, cc, rfl⟩ := row_slice hs9.row
          have zz := hs9.bel.size
          clear hk hB9
          go_upto_region 13 with (first
            | (go_at_call 32; (with_reducible refine (HWp.out _).mono ?_); rintro e w2 ⟨rfl, b2⟩; have s2 := hs9.below b2; have z2 := s2.bel.size)
            | (go_at_call 30; (with_reducible refine (HDp.out _).mono ?_); rintro e w3 ⟨rfl, b3⟩; have s3 := s2.below b3; have z3 := s3.bel.size)
            | (at_builtin; refine wpList_append_own _ rfl _ _ 45 rfl W1.heap.size 9 i0 (.string ⟨#[]⟩) 1 16 Tryz.underlying45 hi hz0 hz1 hz2 rfl (by decide) _ _ _ rfl (s3.row.alloc _) ⟨w3.heap.size, 0, none⟩ 1 1 [.string Q0] rfl rfl (cell_one_new _ _ _) (str_one Q0) (by unfold maxLen; simp) (by simp) (by simp; omega) ?_; intro v4 w4 hr4 hg4 hn4; have s4 := s3.next hr4 hg4; have z4 := s4.bel.size)
            | go_in)
          obtain ⟨ao4, nn4, cc4, rfl⟩ := row_slice s4.row
          have y10 := (HC.out _ s4.bel).cell 10
          clear s2 s3 y9
          go_upto_region 14 with (first
            | (go_at_call 32; (with_reducible refine (HWg.out _).mono ?_); rintro e w5 ⟨rfl, b5⟩; have s5 := s4.below b5; have z5 := s5.bel.size)
            | (go_at_call 30; (with_reducible refine (HDg.out _).mono ?_); rintro e w6 ⟨rfl, b6⟩; have s6 := s5.below b6; have z6 := s6.bel.size)
            | (at_builtin; refine wpList_append_own _ rfl _ _ 45 rfl W1.heap.size 9 i0 (.string ⟨#[]⟩) 1 16 Tryz.underlying45 hi hz0 hz1 hz2 rfl (by decide) _ _ _ rfl (s6.row.alloc _) ⟨w6.heap.size, 0, none⟩ 1 1 [.string Q1] rfl rfl (cell_one_new _ _ _) (str_one Q1) (by unfold maxLen; simp) (by simp) (by simp; omega) ?_; intro v9 w9 hr9 hg9 hn9; have s9 := s6.next hr9 hg9; have z9 := s9.bel.size)
            | go_in)
          obtain ⟨ao9, nn9, cc9, rfl⟩ := row_slice s9.row
          have hB9 := HC.out _ s9.bel
          clear s4 s5 s6 y10
          have y11 := hB9.cell 11
          go_upto_region 15 with (first
            | (at_builtin; refine wpList_append_own _ rfl _ _ 45 rfl W1.heap.size 9 i0 (.string ⟨#[]⟩) 1 16 Tryz.underlying45 hi hz0 hz1 hz2 rfl (by decide) _ _ _ rfl (s9.row.alloc _) ⟨w9.heap.size, 0, none⟩ 1 1 [.string EE] rfl rfl (cell_one_new _ _ _) (str_one EE) (by unfold maxLen; simp) (by simp) (by simp; omega) ?_; intro v10 w10 hr10 hg10 hn10; have s10 := s9.next hr10 hg10; have z10 := s10.bel.size)
            | go_in)
          obtain ⟨ao10, nn10, cc10, rfl⟩ := row_slice s10.row
          have y12 := (HC.out _ s10.bel).cell 12
          go_upto_region 16 with (first
            | (at_builtin; refine wpList_append_own _ rfl _ _ 45 rfl W1.heap.size 9 i0 (.string ⟨#[]⟩) 1 16 Tryz.underlying45 hi hz0 hz1 hz2 rfl (by decide) _ _ _ rfl (s10.row.alloc _) ⟨w10.heap.size, 0, none⟩ 1 1 [.string FF] rfl rfl (cell_one_new _ _ _) (str_one FF) (by unfold maxLen; simp) (by simp) (by simp; omega) ?_; intro v11 w11 hr11 hg11 hn11; have s11 := s10.next hr11 hg11; have z11 := s11.bel.size)
            | go_in)
          obtain ⟨ao11, nn11, cc11, rfl⟩ := row_slice s11.row
          have y13 := (HC.out _ s11.bel).cell 13
          go_upto_region 17 with (first
            | (at_builtin; refine wpList_append_own _ rfl _ _ 45 rfl W1.heap.size 9 i0 (.string ⟨#[]⟩) 1 16 Tryz.underlying45 hi hz0 hz1 hz2 rfl (by decide) _ _ _ rfl (s11.row.alloc _) ⟨w11.heap.size, 0, none⟩ 1 1 [.string TT] rfl rfl (cell_one_new _ _ _) (str_one TT) (by unfold maxLen; simp) (by simp) (by simp; omega) ?_; intro v12 w12 hr12 hg12 hn12; have s12 := s11.next hr12 hg12; have z12 := s12.bel.size)
            | go_in)
          obtain ⟨ao12, nn12, cc12, rfl⟩ := row_slice s12.row
          have HLL := Lib.hid (HL.out _ _ (TextsAt.ofRow s12.row (by simp)))
          have S12 := Lib.hid s12.bel
          go_wp2_with (go_at_call 33; (with_reducible refine HLL.out.mono ?_); rintro e w13 ⟨rfl, b13⟩)
          go_ret
          exact ⟨rfl, HB1.out.trans ((S12.out.trans (b13.mono S12.out.size)).mono HB1.out.size)⟩
end Go.Proofs.YtobhpclemmhpoaaGreatDoor
