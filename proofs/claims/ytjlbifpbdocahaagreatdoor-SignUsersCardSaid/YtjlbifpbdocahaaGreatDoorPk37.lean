/- Part 37 of what the statement wants. -/
import Derived.OpenShut
import Derived.Deep.Slices
import Derived.Deep.Strs
import Derived.WideKeyArgs
import Derived.Test.YtjlbifpbdocahaaGreatDoorPk00
import Derived.Test.YtjlbifpbdocahaaGreatDoorPk23
import Derived.Test.YtjlbifpbdocahaaGreatDoorPk36
namespace Go.Proofs.YtjlbifpbdocahaaGreatDoor
open Go.RowKit Go.WideShapes Go.ChangeShapes Go.Deep

theorem okWide_arr22 {P : Program} {w : World} {r : Reach} {b0 : Nat} {t e : TypeId} {n : Nat} {v : Value} (ht : P.underlying t = some (.array n e)) (h : Value.okWide P w r b0 t v) : ∃ cs, v = .agg cs := by
  simp only [Value.okWide, ht] at h
  obtain ⟨cs, h1, _⟩ := h
  exact ⟨cs, h1⟩
set_option maxRecDepth 100000 in
theorem cells_int22 : Tryz.prog.cellsOf 3 = 1 := by kernel_rfl
set_option maxRecDepth 100000 in
theorem cells_str22 : Tryz.prog.cellsOf 9 = 1 := by kernel_rfl
end Go.Proofs.YtjlbifpbdocahaaGreatDoor

namespace Go.Proofs.YtjlbifpbdocahaaGreatDoor
open Go.RowKit Go.WideShapes Go.ChangeShapes Go.Deep

set_option maxHeartbeats 4000000 in
set_option maxRecDepth 100000 in
theorem SignUsers_long {w : World} (hg : TypeOfError w) {v : Value} {l : List MakeR} (hM : MakesAt w v l) (hlm : l.length ≤ maxLen) (hls : ∀ x ∈ l, x.s.length ≤ maxLen) (x0 x1 s0 s1 a0 a1 : Int) (U0 V0 G0 U1 V1 G1 : ByteArray) (f r0 r1 : Bool) (hf : fewP l 20 = f)
    (h0 : ∀ W, Calls Tryz.prog 7 #[.agg #[.int .i64 s0, .string U0, .string V0, .string G0, .int .i64 a0]] W fun e w' => e = .returned (.bool r0) ∧ Below W.heap.size W w') (h1 : ∀ W, Calls Tryz.prog 7 #[.agg #[.int .i64 s1, .string U1, .string V1, .string G1, .int .i64 a1]] W fun e w' => e = .returned (.bool r1) ∧ Below W.heap.size W w') (hr : (!f || !r0 || !r1) = true) :
    Calls Tryz.prog 3 #[v, .agg #[.int .i64 x0, .int .i64 x1], .agg #[.int .i64 s0, .string U0, .string V0, .string G0, .int .i64 a0, .int .i64 s1, .string U1, .string V1, .string G1, .int .i64 a1]] w fun e w' => e = .returned (.bool true) ∧ Below w.heap.size w w' := by
  have b0 : Below w.heap.size w ((w.alloc (.cells #[.int .i64 x0, .int .i64 x1] 23)).alloc (.cells #[.int .i64 s0, .string U0, .string V0, .string G0, .int .i64 a0, .int .i64 s1, .string U1, .string V1, .string G1, .int .i64 a1] 26)) := ((Below.refl _ _).alloc (Nat.le_refl _) _).alloc (by simp) _
  have hY : Holds ((w.alloc (.cells #[.int .i64 x0, .int .i64 x1] 23)).alloc (.cells #[.int .i64 s0, .string U0, .string V0, .string G0, .int .i64 a0, .int .i64 s1, .string U1, .string V1, .string G1, .int .i64 a1] 26)) (w.heap.size + 1) 26 #[.int .i64 s0, .string U0, .string V0, .string G0, .int .i64 a0, .int .i64 s1, .string U1, .string V1, .string G1, .int .i64 a1] := by
    have := Holds.new (w.alloc (.cells #[.int .i64 x0, .int .i64 x1] 23)) 26 #[.int .i64 s0, .string U0, .string V0, .string G0, .int .i64 a0, .int .i64 s1, .string U1, .string V1, .string G1, .int .i64 a1]
    rwa [World.size_alloc] at this
  obtain ⟨W0, hW0⟩ : ∃ W0, Hid (W0 = (w.alloc (.cells #[.int .i64 x0, .int .i64 x1] 23)).alloc (.cells #[.int .i64 s0, .string U0, .string V0, .string G0, .int .i64 a0, .int .i64 s1, .string U1, .string V1, .string G1, .int .i64 a1] 26)) := ⟨_, Lib.hid rfl⟩
  rw [← hW0.out] at b0 hY
  have hM0 := makes_below22 hM b0
  have HFw := few_any hM0 20 hls hlm
  rw [hf] at HFw
  have HFw := Lib.hid HFw
  have HF0 := Lib.hid h0
  have HF1 := Lib.hid h1
  have HAw : Hid (∀ W, Below W0.heap.size W0 W → Calls Tryz.prog 8 #[] W fun e w' => e = .returned (.bool true) ∧ Below W.heap.size W w') := fun W hb => awake22_any W (hg.later (b0.trans (hb.mono b0.size)))
  obtain ⟨ao0, cap0, rfl, _⟩ := id hM0
  have HC : Hid (∀ W, Below W0.heap.size W0 W → W.cell? ⟨w.heap.size + 1, 5, none⟩ = some (.int .i64 s1) ∧ W.cell? ⟨w.heap.size + 1, 6, none⟩ = some (.string U1) ∧ W.cell? ⟨w.heap.size + 1, 7, none⟩ = some (.string V1) ∧ W.cell? ⟨w.heap.size + 1, 8, none⟩ = some (.string G1) ∧ W.cell? ⟨w.heap.size + 1, 9, none⟩ = some (.int .i64 a1)) := fun W hb => by
    have h := (Kept.ofBelow hb).hold _ _ _ (by decide) (by decide) hY
    exact ⟨h.cell 5, h.cell 6, h.cell 7, h.cell 8, h.cell 9⟩
  have y0 := hY.cell 0
  have y1 := hY.cell 1
  have y2 := hY.cell 2
  have y3 := hY.cell 3
  have y4 := hY.cell 4
  have HB0 := Lib.hid b0
  have BR : Below W0.heap.size W0 W0 := Below.refl _ _
  clear hM hM0 hls hlm hg hY b0 hf h0 h1
  cases f with
  | false =>
    go_enter Tryz.func3, Tryz.ntmps3
    go_wp2_with (first
      | (go_at_call 6; rw [← hW0.out]; (with_reducible refine HFw.out.mono ?_); rintro e w' ⟨rfl, hw⟩; have hw := hw.symm; subst hw)
      | (go_at_call 7; (with_reducible refine (HF0.out _).mono ?_); rintro e w3 ⟨rfl, b3⟩; obtain ⟨c5, c6, c7, c8, c9⟩ := HC.out _ b3)
      | (go_at_call 7; (with_reducible refine (HF1.out _).mono ?_); rintro e w4 ⟨rfl, b4⟩; have B4 := b3.trans (b4.mono b3.size))
      | (go_at_call 8; (with_reducible refine (HAw.out _ BR).mono ?_); rintro e w1 ⟨rfl, b1⟩; have B1 := Below.trans BR (b1.mono BR.size)))
    go_ret
    exact ⟨rfl, HB0.out.trans (B1.mono HB0.out.size)⟩
  | true =>
  cases r0 with
  | false =>
    go_enter Tryz.func3, Tryz.ntmps3
    go_wp2_with (first
      | (go_at_call 6; rw [← hW0.out]; (with_reducible refine HFw.out.mono ?_); rintro e w' ⟨rfl, hw⟩; have hw := hw.symm; subst hw)
      | (go_at_call 7; (with_reducible refine (HF0.out _).mono ?_); rintro e w3 ⟨rfl, b3⟩; obtain ⟨c5, c6, c7, c8, c9⟩ := HC.out _ b3)
      | (go_at_call 7; (with_reducible refine (HF1.out _).mono ?_); rintro e w4 ⟨rfl, b4⟩; have B4 := b3.trans (b4.mono b3.size))
      | (go_at_call 8; (with_reducible refine (HAw.out _ b3).mono ?_); rintro e w1 ⟨rfl, b1⟩; have B1 := Below.trans b3 (b1.mono b3.size)))
    go_ret
    exact ⟨rfl, HB0.out.trans (B1.mono HB0.out.size)⟩
  | true =>
  cases r1 with
  | false =>
    go_enter Tryz.func3, Tryz.ntmps3
    go_wp2_with (first
      | (go_at_call 6; rw [← hW0.out]; (with_reducible refine HFw.out.mono ?_); rintro e w' ⟨rfl, hw⟩; have hw := hw.symm; subst hw)
      | (go_at_call 7; (with_reducible refine (HF0.out _).mono ?_); rintro e w3 ⟨rfl, b3⟩; obtain ⟨c5, c6, c7, c8, c9⟩ := HC.out _ b3)
      | (go_at_call 7; (with_reducible refine (HF1.out _).mono ?_); rintro e w4 ⟨rfl, b4⟩; have B4 := b3.trans (b4.mono b3.size))
      | (go_at_call 8; (with_reducible refine (HAw.out _ B4).mono ?_); rintro e w1 ⟨rfl, b1⟩; have B1 := Below.trans B4 (b1.mono B4.size)))
    go_ret
    exact ⟨rfl, HB0.out.trans (B1.mono HB0.out.size)⟩
  | true => simp at hr
theorem SignUsers_any {w : World} (hg : TypeOfError w) {v : Value} {l : List MakeR} (hM : MakesAt w v l) (hlm : l.length ≤ maxLen) (hls : ∀ x ∈ l, x.s.length ≤ maxLen) (x0 x1 s0 s1 a0 a1 : Int) (U0 V0 G0 U1 V1 G1 : ByteArray) (m0 : U0.size ≤ maxLen) (m1 : V0.size ≤ maxLen) (m2 : G0.size ≤ maxLen) (m3 : U1.size ≤ maxLen) (m4 : V1.size ≤ maxLen) (m5 : G1.size ≤ maxLen) :
    Calls Tryz.prog 3 #[v, .agg #[.int .i64 x0, .int .i64 x1], .agg #[.int .i64 s0, .string U0, .string V0, .string G0, .int .i64 a0, .int .i64 s1, .string U1, .string V1, .string G1, .int .i64 a1]] w fun e w' => e = .returned (.bool true) ∧ Below w.heap.size w w' := by
  by_cases h : fewP l 20 = true ∧ (U0.size ≤ 100 ∧ V0.size ≤ 100 ∧ G0.size ≤ 100) ∧ (U1.size ≤ 100 ∧ V1.size ≤ 100 ∧ G1.size ≤ 100)
  · obtain ⟨h1, ⟨h2, h3, h4⟩, h5, h6, h7⟩ := h
    obtain ⟨h8, h9⟩ := of_decide_eq_true h1
    have := SignUsers_small hg hM (by omega) h9 x0 x1 s0 s1 a0 a1 U0.data.toList V0.data.toList G0.data.toList U1.data.toList V1.data.toList G1.data.toList (by rw [Array.length_toList]; exact h2) (by rw [Array.length_toList]; exact h3) (by rw [Array.length_toList]; exact h4) (by rw [Array.length_toList]; exact h5) (by rw [Array.length_toList]; exact h6) (by rw [Array.length_toList]; exact h7)
    rwa [bs_list, bs_list, bs_list, bs_list, bs_list, bs_list] at this
  · refine SignUsers_long hg hM hlm hls x0 x1 s0 s1 a0 a1 U0 V0 G0 U1 V1 G1 _ _ _ rfl (fun W => few22_any s0 a0 U0 V0 G0 _ _ _ rfl rfl rfl m0 m1 m2 W) (fun W => few22_any s1 a1 U1 V1 G1 _ _ _ rfl rfl rfl m3 m4 m5 W) ?_
    rw [← Bool.not_eq_false]
    intro hn
    simp only [Bool.or_eq_false_iff, Bool.not_eq_false', Bool.and_eq_true, decide_eq_true_eq] at hn
    obtain ⟨⟨k1, ⟨k2, k3⟩, k4⟩, ⟨k5, k6⟩, k7⟩ := hn
    exact h ⟨k1, ⟨by omega, by omega, by omega⟩, by omega, by omega, by omega⟩
section
variable {H : Type} {enc : TypeId × Value → H} {w : World} {base : Nat}
set_option maxRecDepth 100000 in
theorem cells_ask22 : Tryz.prog.cellsOf 25 = 5 := by kernel_rfl
set_option maxRecDepth 100000 in
theorem cells_ask2 : Tryz.prog.cellsOf 26 = 10 := by kernel_rfl
set_option maxRecDepth 100000 in
theorem cells_pair22 : Tryz.prog.cellsOf 23 = 2 := by kernel_rfl
set_option maxRecDepth 100000 in
theorem one_ask {held : Bool} {m : Nat} {c0 c1 c2 c3 c4 : Value} {d : DataW H × List MemPlace} (h : DataW.trod enc Tryz.prog w base (fun _ => true) held m 25 [c0, c1, c2, c3, c4] = some d) : ∃ (s a : Int) (U V G : ByteArray), U.size ≤ maxLen ∧ V.size ≤ maxLen ∧ G.size ≤ maxLen ∧ c0 = .int .i64 s ∧ c1 = .string U ∧ c2 = .string V ∧ c3 = .string G ∧ c4 = .int .i64 a := by
  obtain ⟨xs, m', _, hxe, hlen, hxl, hxs⟩ := DataW.trod_struct Tryz.underlying25 h
  have t0 : DataW.trod enc Tryz.prog w base (fun _ => true) held m' 3 ((([c0, c1, c2, c3, c4] : List Value).drop 0).take (Tryz.prog.cellsOf 3)) = xs[0]? := hxs 0 _ rfl
  have t1 : DataW.trod enc Tryz.prog w base (fun _ => true) held m' 9 ((([c0, c1, c2, c3, c4] : List Value).drop 1).take (Tryz.prog.cellsOf 9)) = xs[1]? := hxs 1 _ rfl
  have t2 : DataW.trod enc Tryz.prog w base (fun _ => true) held m' 9 ((([c0, c1, c2, c3, c4] : List Value).drop 2).take (Tryz.prog.cellsOf 9)) = xs[2]? := hxs 2 _ rfl
  have t3 : DataW.trod enc Tryz.prog w base (fun _ => true) held m' 9 ((([c0, c1, c2, c3, c4] : List Value).drop 3).take (Tryz.prog.cellsOf 9)) = xs[3]? := hxs 3 _ rfl
  have t4 : DataW.trod enc Tryz.prog w base (fun _ => true) held m' 3 ((([c0, c1, c2, c3, c4] : List Value).drop 4).take (Tryz.prog.cellsOf 3)) = xs[4]? := hxs 4 _ rfl
  rw [cells_int22] at t0 t4
  rw [cells_str22] at t1 t2 t3
  match xs, hxl with
  | [y0, y1, y2, y3, y4], _ =>
    simp at t0 t1 t2 t3 t4
    obtain ⟨z0, e0, _, _⟩ := DataW.trod_int Tryz.underlying3 t0
    obtain ⟨z1, e1, _, q1⟩ := DataW.trod_string Tryz.underlying9 t1
    obtain ⟨z2, e2, _, q2⟩ := DataW.trod_string Tryz.underlying9 t2
    obtain ⟨z3, e3, _, q3⟩ := DataW.trod_string Tryz.underlying9 t3
    obtain ⟨z4, e4, _, _⟩ := DataW.trod_int Tryz.underlying3 t4
    simp at e0 e1 e2 e3 e4
    subst e0 e1 e2 e3 e4
    exact ⟨z0, z4, z1, z2, z3, q1, q2, q3, rfl, rfl, rfl, rfl, rfl⟩
set_option maxRecDepth 100000 in
theorem open_ask2 {v : Value} {d : DataW H} {p : List MemPlace} (h : DataW.Trod enc Tryz.prog w base (fun _ => true) true 26 v d p) (hv : ∃ cs, v = .agg cs) : ∃ (s0 s1 a0 a1 : Int) (U0 V0 G0 U1 V1 G1 : ByteArray), (U0.size ≤ maxLen ∧ V0.size ≤ maxLen ∧ G0.size ≤ maxLen) ∧ (U1.size ≤ maxLen ∧ V1.size ≤ maxLen ∧ G1.size ≤ maxLen) ∧ v = .agg #[.int .i64 s0, .string U0, .string V0, .string G0, .int .i64 a0, .int .i64 s1, .string U1, .string V1, .string G1, .int .i64 a1] := by
  obtain ⟨cs, rfl⟩ := hv
  obtain ⟨fuel, hf⟩ := h
  obtain ⟨xs, m', _, _, hlen, hxl, hxs⟩ := DataW.trod_array Tryz.underlying26 hf
  rw [cells_ask2] at hlen
  obtain ⟨l⟩ := cs
  simp only [Value.cells] at hlen hxs
  match l, hlen with
  | [c0, c1, c2, c3, c4, c5, c6, c7, c8, c9], _ =>
    have t0 := hxs 0 (by omega)
    have t1 := hxs 1 (by omega)
    simp only [cells_ask22] at t0 t1
    match xs, hxl with
    | [y0, y1], _ =>
      simp at t0 t1
      obtain ⟨s0, a0, U0, V0, G0, q0, q1, q2, rfl, rfl, rfl, rfl, rfl⟩ := one_ask t0
      obtain ⟨s1, a1, U1, V1, G1, q3, q4, q5, rfl, rfl, rfl, rfl, rfl⟩ := one_ask t1
      exact ⟨s0, s1, a0, a1, U0, V0, G0, U1, V1, G1, ⟨q0, q1, q2⟩, ⟨q3, q4, q5⟩, rfl⟩
set_option maxRecDepth 100000 in
theorem open_pair22 {v : Value} {d : DataW H} {p : List MemPlace} (h : DataW.Trod enc Tryz.prog w base (fun _ => true) true 23 v d p) (hv : ∃ cs, v = .agg cs) : ∃ z0 z1 : Int, v = .agg #[.int .i64 z0, .int .i64 z1] := by
  obtain ⟨cs, rfl⟩ := hv
  obtain ⟨fuel, hf⟩ := h
  obtain ⟨xs, m', _, _, hlen, hxl, hxs⟩ := DataW.trod_array Tryz.underlying23 hf
  rw [cells_pair22] at hlen
  obtain ⟨l⟩ := cs
  simp only [Value.cells] at hlen hxs
  match l, hlen with
  | [c0, c1], _ =>
    have t0 := hxs 0 (by omega)
    have t1 := hxs 1 (by omega)
    simp only [cells_int22] at t0 t1
    match xs, hxl with
    | [y0, y1], _ =>
      simp at t0 t1
      obtain ⟨z0, e0, _, _⟩ := DataW.trod_int Tryz.underlying3 t0
      obtain ⟨z1, e1, _, _⟩ := DataW.trod_int Tryz.underlying3 t1
      simp at e0 e1
      subst e0 e1
      exact ⟨z0, z1, rfl⟩
end
end Go.Proofs.YtjlbifpbdocahaaGreatDoor

namespace Go.Proofs.YtjlbifpbdocahaaGreatDoor
open Go.RowKit Go.WideShapes Go.ChangeShapes Go.Deep
section
variable {H : Type} {enc : TypeId × Value → H} {w : World} {base : Nat} {spare : Nat → Bool} {held : Bool}
set_option maxRecDepth 100000 in
theorem cellsInt1 : Tryz.prog.cellsOf 3 = 1 := by kernel_rfl
set_option maxRecDepth 100000 in
theorem cellsMake : Tryz.prog.cellsOf 74 = 5 := by kernel_rfl
set_option maxRecDepth 100000 in
theorem cellsStrM : Tryz.prog.cellsOf 9 = 1 := by kernel_rfl

set_option maxRecDepth 100000 in
theorem open_makes {v : Value} {d : DataW H} {p : List MemPlace} {b0 : Nat} (hv : Value.okWide Tryz.prog w .any b0 22 v) (h : DataW.Trod enc Tryz.prog w base (fun _ => true) true 22 v d p) :
    ∃ l : List MakeR, MakesAt w v l ∧ l.length ≤ maxLen ∧ ∀ x ∈ l, x.s.length ≤ maxLen := by
  obtain ⟨ao, n, c, rfl⟩ := okWide_slice Tryz.underlying22 hv
  obtain ⟨fuel, hf⟩ := h
  rcases open_slice Tryz.underlying22 (by simpa [Value.cells] using hf) with ⟨h1, _⟩ | ⟨a, len, cap, m, k, D, Pl, h1, hb, hl, hc, hm, hx, hi⟩
  · simp only [List.cons.injEq, and_true] at h1
    rw [h1]
    exact ⟨[], ⟨none, 0, rfl, fun h => absurd rfl h⟩, by simp, by simp⟩
  · simp only [List.cons.injEq, and_true] at h1
    have hmc : m = cap := by simpa using hm
    have each : ∀ i, i < len → ∃ q : MakeR, (w.cell? (a.add (i * 5)) = some (.int .i64 q.kind) ∧ w.cell? (a.add (i * 5 + 1)) = some (.int .i64 q.a) ∧ w.cell? (a.add (i * 5 + 2)) = some (.int .i64 q.b) ∧ w.cell? (a.add (i * 5 + 3)) = some (.int .i64 q.c) ∧ w.cell? (a.add (i * 5 + 4)) = some (.string (bs q.s))) ∧ q.s.length ≤ maxLen := by
      intro i hil
      obtain ⟨cs', hcs, ht⟩ := hi i (by omega)
      rw [cellsMake] at hcs
      obtain ⟨hb2, hlen, hat⟩ := World.cells?_some hcs
      obtain ⟨xs, m', _, _, _, hxl, hxs⟩ := DataW.trod_struct Tryz.underlying74 ht
      match cs', hlen with
      | [c0, c1, c2, c3, c4], _ =>
        have t0 : DataW.trod enc Tryz.prog w base _ _ m' 3 ((([c0, c1, c2, c3, c4] : List Value).drop 0).take (Tryz.prog.cellsOf 3)) = xs[0]? := hxs 0 _ rfl
        have t1 : DataW.trod enc Tryz.prog w base _ _ m' 3 ((([c0, c1, c2, c3, c4] : List Value).drop 1).take (Tryz.prog.cellsOf 3)) = xs[1]? := hxs 1 _ rfl
        have t2 : DataW.trod enc Tryz.prog w base _ _ m' 3 ((([c0, c1, c2, c3, c4] : List Value).drop 2).take (Tryz.prog.cellsOf 3)) = xs[2]? := hxs 2 _ rfl
        have t3 : DataW.trod enc Tryz.prog w base _ _ m' 3 ((([c0, c1, c2, c3, c4] : List Value).drop 3).take (Tryz.prog.cellsOf 3)) = xs[3]? := hxs 3 _ rfl
        have t4 : DataW.trod enc Tryz.prog w base _ _ m' 9 ((([c0, c1, c2, c3, c4] : List Value).drop 4).take (Tryz.prog.cellsOf 9)) = xs[4]? := hxs 4 _ rfl
        simp only [cellsInt1, cellsStrM] at t0 t1 t2 t3 t4
        match xs, hxl with
        | [y0, y1, y2, y3, y4], _ =>
          simp at t0 t1 t2 t3 t4
          obtain ⟨z0, e0, _, _⟩ := DataW.trod_int Tryz.underlying3 t0
          obtain ⟨z1, e1, _, _⟩ := DataW.trod_int Tryz.underlying3 t1
          obtain ⟨z2, e2, _, _⟩ := DataW.trod_int Tryz.underlying3 t2
          obtain ⟨z3, e3, _, _⟩ := DataW.trod_int Tryz.underlying3 t3
          obtain ⟨z4, e4, _, hz⟩ := DataW.trod_string Tryz.underlying9 t4
          simp at e0 e1 e2 e3 e4
          subst e0 e1 e2 e3 e4
          have a0 := hat 0 (by omega)
          have a1 := hat 1 (by omega)
          have a2 := hat 2 (by omega)
          have a3 := hat 3 (by omega)
          have a4 := hat 4 (by omega)
          simp only [Go.Deep.add_add, Nat.add_zero] at a0 a1 a2 a3 a4
          exact ⟨⟨z0, z1, z2, z3, z4.data.toList⟩, ⟨by simpa using a0, by simpa using a1, by simpa using a2, by simpa using a3, by rw [bs_list]; simpa using a4⟩, by simpa using hz⟩
    rcases Nat.eq_zero_or_pos len with h0 | h0
    · subst h0
      rw [h1]
      exact ⟨[], ⟨some a, cap, rfl, fun h => absurd rfl h⟩, by simp, by simp⟩
    · haveI : Inhabited MakeR := ⟨⟨0, 0, 0, 0, []⟩⟩
      obtain ⟨q, hq⟩ := choose_lt each
      obtain ⟨b, off, spot⟩ := a
      have hspot : spot = none := by simpa [Addr.add] using World.cell?_spot (hq 0 h0).1.1
      subst hspot
      have hblk := World.block_lt_of_cell? w _ (hq 0 h0).1.1
      simp only [Addr.add_lit] at hq hblk
      refine ⟨(List.range len).map q, ⟨some ⟨b, off, none⟩, cap, by rw [h1]; simp, fun _ => ⟨b, off, rfl, hblk, fun k pr hk => ?_⟩⟩, by simp; omega, fun x hx => ?_⟩
      · rw [List.getElem?_map] at hk
        by_cases hkl : k < len
        · rw [List.getElem?_range hkl] at hk
          simp at hk
          subst hk
          have := (hq k hkl).1
          simp only [← Nat.add_assoc] at this
          exact this
        · rw [List.getElem?_eq_none (by simpa using hkl)] at hk
          simp at hk
      · obtain ⟨k, hk, rfl⟩ := List.mem_map.1 hx
        exact (hq k (by simpa using hk)).2
end
end Go.Proofs.YtjlbifpbdocahaaGreatDoor
