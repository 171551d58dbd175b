/- Part 36 of what the statement wants. -/
import Derived.Deep.Slices
import Derived.Test.YtgoinpibllomfaaDoorPk22
import Derived.Test.YtgoinpibllomfaaDoorPk34
import Derived.Test.YtgoinpibllomfaaDoorPk35
namespace Go.Proofs.YtgoinpibllomfaaDoor
open Go.RowKit Go.WideShapes Go.ChangeShapes Go.Deep
section
variable {H : Type} {enc : TypeId × Value → H} {w : World} {base : Nat}
set_option maxRecDepth 100000 in
theorem cellsBool25 : Tryd.prog.cellsOf 4 = 1 := by kernel_rfl
set_option maxRecDepth 100000 in
theorem cellsStrs25 : Tryd.prog.cellsOf 23 = 1 := by kernel_rfl
set_option maxRecDepth 100000 in
theorem cellsInts25 : Tryd.prog.cellsOf 47 = 1 := by kernel_rfl
set_option maxRecDepth 100000 in
theorem cells_u32_20 : Tryd.prog.cellsOf 48 = 1 := by kernel_rfl
set_option maxRecDepth 100000 in
theorem cellsU32s3_25 : Tryd.prog.cellsOf 49 = 3 := by kernel_rfl
set_option maxRecDepth 100000 in
theorem cellsConf25 : Tryd.prog.cellsOf 51 = 23 := by kernel_rfl
set_option maxRecDepth 100000 in
theorem ids_cell25 {c : Value} {fuel : Nat} {d : DataW H} {p : List MemPlace} (hf : DataW.trod enc Tryd.prog w base (fun _ => true) true fuel 47 [c] = some (d, p)) :
    ∃ l : List Int, IdsAt w c l ∧ l.length ≤ maxLen := by
  rcases open_slice Tryd.underlying47 hf with ⟨h1, _⟩ | ⟨a, len, cap, m, k, D, Pl, h1, hb, hl, hc, hm, hx, hi⟩
  · simp only [List.cons.injEq, and_true] at h1
    rw [h1]
    exact ⟨[], ⟨none, 0, rfl, fun h => absurd rfl h⟩, by simp⟩
  · simp only [List.cons.injEq, and_true] at h1
    have hmc : m = cap := by simpa using hm
    have each : ∀ i, i < len → ∃ q : Int, w.cell? (a.add i) = some (.int .i64 q) := by
      intro i hil
      obtain ⟨cs', hcs, ht⟩ := hi i (by omega)
      rw [cellsInt24] at hcs
      obtain ⟨hb2, hlen, hat⟩ := World.cells?_some hcs
      match cs', hlen with
      | [c0], _ =>
        obtain ⟨z0, e0, _, _⟩ := DataW.trod_int Tryd.underlying3 ht
        simp at e0
        subst e0
        have a0 := hat 0 (by omega)
        simp only [Go.Deep.add_add, Nat.add_zero, Nat.mul_one] at a0
        exact ⟨z0, by simpa using a0⟩
    rcases Nat.eq_zero_or_pos len with h0 | h0
    · subst h0
      rw [h1]
      exact ⟨[], ⟨some a, cap, rfl, fun h => absurd rfl h⟩, by simp⟩
    · obtain ⟨q, hq⟩ := choose_lt each
      obtain ⟨b, off, spot⟩ := a
      have hspot : spot = none := by simpa [Addr.add] using World.cell?_spot (hq 0 h0)
      subst hspot
      have hblk := World.block_lt_of_cell? w _ (hq 0 h0)
      simp only [Addr.add_lit] at hq hblk
      refine ⟨(List.range len).map q, ⟨some ⟨b, off, none⟩, cap, by rw [h1]; simp, fun _ => ⟨b, off, rfl, hblk, fun k pr hk => ?_⟩⟩, by simp; omega⟩
      rw [List.getElem?_map] at hk
      by_cases hkl : k < len
      · rw [List.getElem?_range hkl] at hk
        simp at hk
        subst hk
        exact hq k hkl
      · rw [List.getElem?_eq_none (by simpa using hkl)] at hk
        simp at hk
set_option maxRecDepth 100000 in
theorem u32s3_25 {held : Bool} {m : Nat} {c0 c1 c2 : Value} {d : DataW H × List MemPlace} (h : DataW.trod enc Tryd.prog w base (fun _ => true) held m 49 [c0, c1, c2] = some d) : ∃ (z0 z1 z2 : Nat), z0 < 4294967296 ∧ z1 < 4294967296 ∧ z2 < 4294967296 ∧ c0 = .int .u32 (z0 : Int) ∧ c1 = .int .u32 (z1 : Int) ∧ c2 = .int .u32 (z2 : Int) := by
  obtain ⟨xs, m', _, _, hlen, hxl, hxs⟩ := DataW.trod_array Tryd.underlying49 h
  have t0 := hxs 0 (by omega)
  have t1 := hxs 1 (by omega)
  have t2 := hxs 2 (by omega)
  simp only [cells_u32_20] at t0 t1 t2
  match xs, hxl with
  | [y0, y1, y2], _ =>
    simp at t0 t1 t2
    obtain ⟨w0, e0, _, g0⟩ := DataW.trod_int Tryd.underlying48 t0
    obtain ⟨w1, e1, _, g1⟩ := DataW.trod_int Tryd.underlying48 t1
    obtain ⟨w2, e2, _, g2⟩ := DataW.trod_int Tryd.underlying48 t2
    simp at e0 e1 e2
    have b0 := bounds_u32 g0
    obtain ⟨z0, rfl⟩ : ∃ n : Nat, w0 = n := ⟨w0.toNat, by omega⟩
    have b1 := bounds_u32 g1
    obtain ⟨z1, rfl⟩ : ∃ n : Nat, w1 = n := ⟨w1.toNat, by omega⟩
    have b2 := bounds_u32 g2
    obtain ⟨z2, rfl⟩ : ∃ n : Nat, w2 = n := ⟨w2.toNat, by omega⟩
    subst e0 e1 e2
    exact ⟨z0, z1, z2, by omega, by omega, by omega, rfl, rfl, rfl⟩
set_option maxRecDepth 100000 in
theorem prefs_cell25 {m : Nat} {c0 c1 c2 c3 c4 c5 c6 c7 : Value} {d : DataW H × List MemPlace} (h : DataW.trod enc Tryd.prog w base (fun _ => true) true m 46 [c0, c1, c2, c3, c4, c5, c6, c7] = some d) : ∃ (l0 l1 l2 l3 l4 l5 l6 l7 : List (List UInt8)), (TextsAt w c0 (l0.map bs) ∧ l0.length ≤ maxLen ∧ (∀ x ∈ l0, x.length ≤ maxLen) ∧ Room15 c0) ∧ (TextsAt w c1 (l1.map bs) ∧ l1.length ≤ maxLen ∧ (∀ x ∈ l1, x.length ≤ maxLen) ∧ Room15 c1) ∧ (TextsAt w c2 (l2.map bs) ∧ l2.length ≤ maxLen ∧ (∀ x ∈ l2, x.length ≤ maxLen) ∧ Room15 c2) ∧ (TextsAt w c3 (l3.map bs) ∧ l3.length ≤ maxLen ∧ (∀ x ∈ l3, x.length ≤ maxLen) ∧ Room15 c3) ∧ (TextsAt w c4 (l4.map bs) ∧ l4.length ≤ maxLen ∧ (∀ x ∈ l4, x.length ≤ maxLen) ∧ Room15 c4) ∧ (TextsAt w c5 (l5.map bs) ∧ l5.length ≤ maxLen ∧ (∀ x ∈ l5, x.length ≤ maxLen) ∧ Room15 c5) ∧ (TextsAt w c6 (l6.map bs) ∧ l6.length ≤ maxLen ∧ (∀ x ∈ l6, x.length ≤ maxLen) ∧ Room15 c6) ∧ (TextsAt w c7 (l7.map bs) ∧ l7.length ≤ maxLen ∧ (∀ x ∈ l7, x.length ≤ maxLen) ∧ Room15 c7) := by
  obtain ⟨xs, m', _, hxe, hlen, hxl, hxs⟩ := DataW.trod_struct Tryd.underlying46 h
  have t0 : DataW.trod enc Tryd.prog w base (fun _ => true) true m' 23 ((([c0, c1, c2, c3, c4, c5, c6, c7] : List Value).drop 0).take (Tryd.prog.cellsOf 23)) = xs[0]? := hxs 0 _ rfl
  have t1 : DataW.trod enc Tryd.prog w base (fun _ => true) true m' 23 ((([c0, c1, c2, c3, c4, c5, c6, c7] : List Value).drop 1).take (Tryd.prog.cellsOf 23)) = xs[1]? := hxs 1 _ rfl
  have t2 : DataW.trod enc Tryd.prog w base (fun _ => true) true m' 23 ((([c0, c1, c2, c3, c4, c5, c6, c7] : List Value).drop 2).take (Tryd.prog.cellsOf 23)) = xs[2]? := hxs 2 _ rfl
  have t3 : DataW.trod enc Tryd.prog w base (fun _ => true) true m' 23 ((([c0, c1, c2, c3, c4, c5, c6, c7] : List Value).drop 3).take (Tryd.prog.cellsOf 23)) = xs[3]? := hxs 3 _ rfl
  have t4 : DataW.trod enc Tryd.prog w base (fun _ => true) true m' 23 ((([c0, c1, c2, c3, c4, c5, c6, c7] : List Value).drop 4).take (Tryd.prog.cellsOf 23)) = xs[4]? := hxs 4 _ rfl
  have t5 : DataW.trod enc Tryd.prog w base (fun _ => true) true m' 23 ((([c0, c1, c2, c3, c4, c5, c6, c7] : List Value).drop 5).take (Tryd.prog.cellsOf 23)) = xs[5]? := hxs 5 _ rfl
  have t6 : DataW.trod enc Tryd.prog w base (fun _ => true) true m' 23 ((([c0, c1, c2, c3, c4, c5, c6, c7] : List Value).drop 6).take (Tryd.prog.cellsOf 23)) = xs[6]? := hxs 6 _ rfl
  have t7 : DataW.trod enc Tryd.prog w base (fun _ => true) true m' 23 ((([c0, c1, c2, c3, c4, c5, c6, c7] : List Value).drop 7).take (Tryd.prog.cellsOf 23)) = xs[7]? := hxs 7 _ rfl
  rw [cellsStrs25] at t0 t1 t2 t3 t4 t5 t6 t7
  match xs, hxl with
  | [y0, y1, y2, y3, y4, y5, y6, y7], _ =>
    simp at t0 t1 t2 t3 t4 t5 t6 t7
    obtain ⟨l0, s0⟩ := texts_cell2 t0
    obtain ⟨l1, s1⟩ := texts_cell2 t1
    obtain ⟨l2, s2⟩ := texts_cell2 t2
    obtain ⟨l3, s3⟩ := texts_cell2 t3
    obtain ⟨l4, s4⟩ := texts_cell2 t4
    obtain ⟨l5, s5⟩ := texts_cell2 t5
    obtain ⟨l6, s6⟩ := texts_cell2 t6
    obtain ⟨l7, s7⟩ := texts_cell2 t7
    exact ⟨l0, l1, l2, l3, l4, l5, l6, l7, s0, s1, s2, s3, s4, s5, s6, s7⟩
set_option maxHeartbeats 2000000 in
set_option maxRecDepth 100000 in
theorem open_conf {v : Value} {d : DataW H} {p : List MemPlace} {b0 : Nat} (hv : Value.okWide Tryd.prog w .any b0 51 v) (h : DataW.Trod enc Tryd.prog w base (fun _ => true) true 51 v d p) :
    ∃ (c : CfV) (d : CfL), v = .agg c.row ∧ CfAt w c d ∧ Eight w c.u d.p ∧ CfBig d ∧ Room15 (.slice c.aa c.na c.ca) ∧ (c.w0 < 4294967296 ∧ c.w1 < 4294967296 ∧ c.w2 < 4294967296) := by
  obtain ⟨cs, rfl, hcs⟩ := okWide_struct Tryd.underlying51 hv
  obtain ⟨fuel, hf⟩ := h
  obtain ⟨xs, m', _, hxe, hlen, hxl, hxs⟩ := DataW.trod_struct Tryd.underlying51 hf
  rw [cellsConf25] at hlen
  obtain ⟨l⟩ := cs
  simp only [Value.cells] at hlen hxs
  match l, hlen with
  | [c0, c1, c2, c3, c4, c5, c6, c7, c8, c9, c10, c11, c12, c13, c14, c15, c16, c17, c18, c19, c20, c21, c22], _ =>
    have t0 : DataW.trod enc Tryd.prog w base _ _ m' 4 ((([c0, c1, c2, c3, c4, c5, c6, c7, c8, c9, c10, c11, c12, c13, c14, c15, c16, c17, c18, c19, c20, c21, c22] : List Value).drop 0).take (Tryd.prog.cellsOf 4)) = xs[0]? := hxs 0 _ rfl
    have t1 : DataW.trod enc Tryd.prog w base _ _ m' 9 ((([c0, c1, c2, c3, c4, c5, c6, c7, c8, c9, c10, c11, c12, c13, c14, c15, c16, c17, c18, c19, c20, c21, c22] : List Value).drop 1).take (Tryd.prog.cellsOf 9)) = xs[1]? := hxs 1 _ rfl
    have t2 : DataW.trod enc Tryd.prog w base _ _ m' 9 ((([c0, c1, c2, c3, c4, c5, c6, c7, c8, c9, c10, c11, c12, c13, c14, c15, c16, c17, c18, c19, c20, c21, c22] : List Value).drop 2).take (Tryd.prog.cellsOf 9)) = xs[2]? := hxs 2 _ rfl
    have t3 : DataW.trod enc Tryd.prog w base _ _ m' 46 ((([c0, c1, c2, c3, c4, c5, c6, c7, c8, c9, c10, c11, c12, c13, c14, c15, c16, c17, c18, c19, c20, c21, c22] : List Value).drop 3).take (Tryd.prog.cellsOf 46)) = xs[3]? := hxs 3 _ rfl
    have t4 : DataW.trod enc Tryd.prog w base _ _ m' 23 ((([c0, c1, c2, c3, c4, c5, c6, c7, c8, c9, c10, c11, c12, c13, c14, c15, c16, c17, c18, c19, c20, c21, c22] : List Value).drop 11).take (Tryd.prog.cellsOf 23)) = xs[4]? := hxs 4 _ rfl
    have t5 : DataW.trod enc Tryd.prog w base _ _ m' 3 ((([c0, c1, c2, c3, c4, c5, c6, c7, c8, c9, c10, c11, c12, c13, c14, c15, c16, c17, c18, c19, c20, c21, c22] : List Value).drop 12).take (Tryd.prog.cellsOf 3)) = xs[5]? := hxs 5 _ rfl
    have t6 : DataW.trod enc Tryd.prog w base _ _ m' 22 ((([c0, c1, c2, c3, c4, c5, c6, c7, c8, c9, c10, c11, c12, c13, c14, c15, c16, c17, c18, c19, c20, c21, c22] : List Value).drop 13).take (Tryd.prog.cellsOf 22)) = xs[6]? := hxs 6 _ rfl
    have t7 : DataW.trod enc Tryd.prog w base _ _ m' 3 ((([c0, c1, c2, c3, c4, c5, c6, c7, c8, c9, c10, c11, c12, c13, c14, c15, c16, c17, c18, c19, c20, c21, c22] : List Value).drop 14).take (Tryd.prog.cellsOf 3)) = xs[7]? := hxs 7 _ rfl
    have t8 : DataW.trod enc Tryd.prog w base _ _ m' 3 ((([c0, c1, c2, c3, c4, c5, c6, c7, c8, c9, c10, c11, c12, c13, c14, c15, c16, c17, c18, c19, c20, c21, c22] : List Value).drop 15).take (Tryd.prog.cellsOf 3)) = xs[8]? := hxs 8 _ rfl
    have t9 : DataW.trod enc Tryd.prog w base _ _ m' 9 ((([c0, c1, c2, c3, c4, c5, c6, c7, c8, c9, c10, c11, c12, c13, c14, c15, c16, c17, c18, c19, c20, c21, c22] : List Value).drop 16).take (Tryd.prog.cellsOf 9)) = xs[9]? := hxs 9 _ rfl
    have t10 : DataW.trod enc Tryd.prog w base _ _ m' 47 ((([c0, c1, c2, c3, c4, c5, c6, c7, c8, c9, c10, c11, c12, c13, c14, c15, c16, c17, c18, c19, c20, c21, c22] : List Value).drop 17).take (Tryd.prog.cellsOf 47)) = xs[10]? := hxs 10 _ rfl
    have t11 : DataW.trod enc Tryd.prog w base _ _ m' 4 ((([c0, c1, c2, c3, c4, c5, c6, c7, c8, c9, c10, c11, c12, c13, c14, c15, c16, c17, c18, c19, c20, c21, c22] : List Value).drop 18).take (Tryd.prog.cellsOf 4)) = xs[11]? := hxs 11 _ rfl
    have t12 : DataW.trod enc Tryd.prog w base _ _ m' 4 ((([c0, c1, c2, c3, c4, c5, c6, c7, c8, c9, c10, c11, c12, c13, c14, c15, c16, c17, c18, c19, c20, c21, c22] : List Value).drop 19).take (Tryd.prog.cellsOf 4)) = xs[12]? := hxs 12 _ rfl
    have t13 : DataW.trod enc Tryd.prog w base _ _ m' 49 ((([c0, c1, c2, c3, c4, c5, c6, c7, c8, c9, c10, c11, c12, c13, c14, c15, c16, c17, c18, c19, c20, c21, c22] : List Value).drop 20).take (Tryd.prog.cellsOf 49)) = xs[13]? := hxs 13 _ rfl
    rw [cellsBool25] at t0
    rw [cellsStr24] at t1
    rw [cellsStr24] at t2
    rw [cellsPrefs15] at t3
    rw [cellsStrs25] at t4
    rw [cellsInt24] at t5
    rw [cellsGrants] at t6
    rw [cellsInt24] at t7
    rw [cellsInt24] at t8
    rw [cellsStr24] at t9
    rw [cellsInts25] at t10
    rw [cellsBool25] at t11
    rw [cellsBool25] at t12
    rw [cellsU32s3_25] at t13
    match xs, hxl with
    | [y0, y1, y2, y3, y4, y5, y6, y7, y8, y9, y10, y11, y12, y13], _ =>
      simp at t0 t1 t2 t3 t4 t5 t6 t7 t8 t9 t10 t11 t12 t13
      obtain ⟨sv, e0, _⟩ := DataW.trod_bool Tryd.underlying4 t0
      obtain ⟨so, e1, _, g1⟩ := DataW.trod_string Tryd.underlying9 t1
      obtain ⟨co, e2, _, g2⟩ := DataW.trod_string Tryd.underlying9 t2
      obtain ⟨l0, l1, l2, l3, l4, l5, l6, l7, s0, s1, s2, s3, s4, s5, s6, s7⟩ := prefs_cell25 t3
      obtain ⟨al, a1, a2, a3, a4⟩ := texts_cell2 t4
      obtain ⟨ow, e5, _, _⟩ := DataW.trod_int Tryd.underlying3 t5
      obtain ⟨gl, gg1, gg2, gg3⟩ := grants_cell t6
      obtain ⟨li, e7, _, _⟩ := DataW.trod_int Tryd.underlying3 t7
      obtain ⟨pe, e8, _, _⟩ := DataW.trod_int Tryd.underlying3 t8
      obtain ⟨us, e9, _, g9⟩ := DataW.trod_string Tryd.underlying9 t9
      obtain ⟨ks, k1, k2⟩ := ids_cell25 t10
      obtain ⟨ex, e11, _⟩ := DataW.trod_bool Tryd.underlying4 t11
      obtain ⟨gu, e12, _⟩ := DataW.trod_bool Tryd.underlying4 t12
      obtain ⟨w0, w1, w2, b0', b1', b2', r0, r1, r2⟩ := u32s3_25 t13
      simp at e0 e1 e2 e5 e7 e8 e9 e11 e12
      obtain ⟨A0, K0, f0, _⟩ := id s0.1
      obtain ⟨A1, K1, f1, _⟩ := id s1.1
      obtain ⟨A2, K2, f2, _⟩ := id s2.1
      obtain ⟨A3, K3, f3, _⟩ := id s3.1
      obtain ⟨A4, K4, f4, _⟩ := id s4.1
      obtain ⟨A5, K5, f5, _⟩ := id s5.1
      obtain ⟨A6, K6, f6, _⟩ := id s6.1
      obtain ⟨A7, K7, f7, _⟩ := id s7.1
      obtain ⟨AA, KA, fa, _⟩ := id a1
      obtain ⟨AG, KG, fg, _⟩ := id gg1
      obtain ⟨AK, KK, fk, _⟩ := id k1
      subst e0 e1 e2 e5 e7 e8 e9 e11 e12 r0 r1 r2 f0 f1 f2 f3 f4 f5 f6 f7 fa fg fk
      refine ⟨⟨sv, so, co, A0, _, K0, A1, _, K1, A2, _, K2, A3, _, K3, A4, _, K4, A5, _, K5, A6, _, K6, A7, _, K7, AA, _, KA, ow, AG, _, KG, li, pe, us, AK, _, KK, ex, gu, w0, w1, w2⟩, ⟨so.data.toList, co.data.toList, us.data.toList, pick8 l0 l1 l2 l3 l4 l5 l6 l7, al, gl, ks⟩, rfl, ⟨(bs_list so).symm, (bs_list co).symm, (bs_list us).symm, fun k hk => ?_, a1, gg1, k1⟩, ⟨fun k hk => ?_, fun k hk => ?_, fun k hk => ?_⟩, ⟨by rw [Array.length_toList]; exact g1, by rw [Array.length_toList]; exact g2, by rw [Array.length_toList]; exact g9, fun k hk => ?_, ⟨a2, a3⟩, ⟨gg2, gg3⟩, k2⟩, a4, ⟨b0', b1', b2'⟩⟩
      · match k, hk with
        | 0, _ => exact s0.1
        | 1, _ => exact s1.1
        | 2, _ => exact s2.1
        | 3, _ => exact s3.1
        | 4, _ => exact s4.1
        | 5, _ => exact s5.1
        | 6, _ => exact s6.1
        | 7, _ => exact s7.1
      · match k, hk with
        | 0, _ => exact s0.1
        | 1, _ => exact s1.1
        | 2, _ => exact s2.1
        | 3, _ => exact s3.1
        | 4, _ => exact s4.1
        | 5, _ => exact s5.1
        | 6, _ => exact s6.1
        | 7, _ => exact s7.1
      · match k, hk with
        | 0, _ => exact s0.2.2.2
        | 1, _ => exact s1.2.2.2
        | 2, _ => exact s2.2.2.2
        | 3, _ => exact s3.2.2.2
        | 4, _ => exact s4.2.2.2
        | 5, _ => exact s5.2.2.2
        | 6, _ => exact s6.2.2.2
        | 7, _ => exact s7.2.2.2
      · match k, hk with
        | 0, _ => exact s0.2.1
        | 1, _ => exact s1.2.1
        | 2, _ => exact s2.2.1
        | 3, _ => exact s3.2.1
        | 4, _ => exact s4.2.1
        | 5, _ => exact s5.2.1
        | 6, _ => exact s6.2.1
        | 7, _ => exact s7.2.1
      · match k, hk with
        | 0, _ => exact s0.2.2.1
        | 1, _ => exact s1.2.2.1
        | 2, _ => exact s2.2.2.1
        | 3, _ => exact s3.2.2.1
        | 4, _ => exact s4.2.2.1
        | 5, _ => exact s5.2.2.1
        | 6, _ => exact s6.2.2.1
        | 7, _ => exact s7.2.2.1
end
end Go.Proofs.YtgoinpibllomfaaDoor
