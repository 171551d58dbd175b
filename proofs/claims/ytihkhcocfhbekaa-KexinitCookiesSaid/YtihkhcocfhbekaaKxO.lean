/- Layer 16: two initializations among the arguments, opened. -/
import Derived.Test.YtihkhcocfhbekaaKxA
import Derived.Test.YtihkhcocfhbekaaPfOa
import Derived.ChangeArms
namespace Go.Proofs.Ytihkhcocfhbekaa
open Go.RowKit Go.WideShapes Go.ChangeShapes Go.Deep
section
variable {H : Type} {enc : TypeId × Value → H} {w : World} {base : Nat}
set_option maxRecDepth 100000 in
theorem cellsInt16 : Try.prog.cellsOf 3 = 1 := by kernel_rfl
set_option maxRecDepth 100000 in
theorem cellsBool16 : Try.prog.cellsOf 4 = 1 := by kernel_rfl
set_option maxRecDepth 100000 in
theorem cellsPair16 : Try.prog.cellsOf 22 = 2 := by kernel_rfl
set_option maxRecDepth 100000 in
theorem cellsLangs16 : Try.prog.cellsOf 26 = 2 := by kernel_rfl
set_option maxRecDepth 100000 in
theorem cellsInit16 : Try.prog.cellsOf 28 = 16 := by kernel_rfl
set_option maxRecDepth 100000 in
theorem cellsInits16 : Try.prog.cellsOf 29 = 32 := by kernel_rfl
theorem okWide_arr16 {P : Program} {r : Reach} {b0 : Nat} {t e : TypeId} {n : Nat} {v : Value} (ht : P.underlying t = some (.array n e)) (h : Value.okWide P w r b0 t v) : ∃ cs, v = .agg cs := by
  simp only [Value.okWide, ht] at h
  obtain ⟨cs, h1, _⟩ := h
  exact ⟨cs, h1⟩
set_option maxRecDepth 100000 in
theorem open_pair16 {v : Value} {d : DataW H} {p : List MemPlace} (h : DataW.Trod enc Try.prog w base (fun _ => true) true 22 v d p) (hv : ∃ cs, v = .agg cs) : ∃ x0 x1 : Int, x0 < 9223372036854775808 ∧ x1 < 9223372036854775808 ∧ v = .agg #[.int .i64 x0, .int .i64 x1] := by
  obtain ⟨cs, rfl⟩ := hv
  obtain ⟨fuel, hf⟩ := h
  obtain ⟨xs, m', _, _, hlen, hxl, hxs⟩ := DataW.trod_array Try.underlying22 hf
  rw [cellsPair16] at hlen
  obtain ⟨l⟩ := cs
  simp only [Value.cells] at hlen hxs
  match l, hlen with
  | [c0, c1], _ =>
    have t0 := hxs 0 (by omega)
    have t1 := hxs 1 (by omega)
    simp only [cellsInt16] at t0 t1
    match xs, hxl with
    | [y0, y1], _ =>
      simp at t0 t1
      obtain ⟨z0, e0, _, w0⟩ := DataW.trod_int Try.underlying3 t0
      obtain ⟨z1, e1, _, w1⟩ := DataW.trod_int Try.underlying3 t1
      simp at e0 e1
      subst e0 e1
      exact ⟨z0, z1, by have := bounds_i64 w0; omega, by have := bounds_i64 w1; omega, rfl⟩

def pick10 {α : Type} (u0 u1 u2 u3 u4 u5 u6 u7 u8 u9 : α) : Nat → α
  | 0 => u0 | 1 => u1 | 2 => u2 | 3 => u3 | 4 => u4 | 5 => u5 | 6 => u6 | 7 => u7 | 8 => u8 | _ => u9
set_option maxHeartbeats 1000000 in
set_option maxRecDepth 100000 in
theorem init_cells {cs : List Value} {fuel : Nat} {x : DataW H × List MemPlace} (hf : DataW.trod enc Try.prog w base (fun _ => true) true fuel 28 cs = some x) :
    ∃ (C : ByteArray) (u : Nat → Value) (p : Nat → List (List UInt8)) (b1 b2 b3 b4 b5 : Bool), cs = [.string C, u 0, u 1, u 2, u 3, u 4, u 5, u 6, u 7, u 8, u 9, .bool b1, .bool b2, .bool b3, .bool b4, .bool b5] ∧ Ten w u p := by
  obtain ⟨xs, m', _, hxe, hlen, hxl, hxs⟩ := DataW.trod_struct Try.underlying28 hf
  rw [cellsInit16] at hlen
  match cs, hlen with
  | [C0, c0, c1, c2, c3, c4, c5, c6, c7, c8, c9, d1, d2, d3, d4, d5], _ =>
    have t0 : DataW.trod enc Try.prog w base _ _ m' 9 ((([C0, c0, c1, c2, c3, c4, c5, c6, c7, c8, c9, d1, d2, d3, d4, d5] : List Value).drop 0).take (Try.prog.cellsOf 9)) = xs[0]? := hxs 0 _ rfl
    have t1 : DataW.trod enc Try.prog w base _ _ m' 25 ((([C0, c0, c1, c2, c3, c4, c5, c6, c7, c8, c9, d1, d2, d3, d4, d5] : List Value).drop 1).take (Try.prog.cellsOf 25)) = xs[1]? := hxs 1 _ rfl
    have t2 : DataW.trod enc Try.prog w base _ _ m' 26 ((([C0, c0, c1, c2, c3, c4, c5, c6, c7, c8, c9, d1, d2, d3, d4, d5] : List Value).drop 9).take (Try.prog.cellsOf 26)) = xs[2]? := hxs 2 _ rfl
    have t3 : DataW.trod enc Try.prog w base _ _ m' 4 ((([C0, c0, c1, c2, c3, c4, c5, c6, c7, c8, c9, d1, d2, d3, d4, d5] : List Value).drop 11).take (Try.prog.cellsOf 4)) = xs[3]? := hxs 3 _ rfl
    have t4 : DataW.trod enc Try.prog w base _ _ m' 4 ((([C0, c0, c1, c2, c3, c4, c5, c6, c7, c8, c9, d1, d2, d3, d4, d5] : List Value).drop 12).take (Try.prog.cellsOf 4)) = xs[4]? := hxs 4 _ rfl
    have t5 : DataW.trod enc Try.prog w base _ _ m' 4 ((([C0, c0, c1, c2, c3, c4, c5, c6, c7, c8, c9, d1, d2, d3, d4, d5] : List Value).drop 13).take (Try.prog.cellsOf 4)) = xs[5]? := hxs 5 _ rfl
    have t6 : DataW.trod enc Try.prog w base _ _ m' 4 ((([C0, c0, c1, c2, c3, c4, c5, c6, c7, c8, c9, d1, d2, d3, d4, d5] : List Value).drop 14).take (Try.prog.cellsOf 4)) = xs[6]? := hxs 6 _ rfl
    have t7 : DataW.trod enc Try.prog w base _ _ m' 4 ((([C0, c0, c1, c2, c3, c4, c5, c6, c7, c8, c9, d1, d2, d3, d4, d5] : List Value).drop 15).take (Try.prog.cellsOf 4)) = xs[7]? := hxs 7 _ rfl
    simp only [cellsStr15, cellsPrefs15, cellsLangs16, cellsBool16] at t0 t1 t2 t3 t4 t5 t6 t7
    match xs, hxl with
    | [y0, y1, y2, y3, y4, y5, y6, y7], _ =>
      simp at t0 t1 t2 t3 t4 t5 t6 t7
      obtain ⟨z0, e0, _, _⟩ := DataW.trod_string Try.underlying9 t0
      obtain ⟨x0, g0, _⟩ := DataW.trod_bool Try.underlying4 t3
      obtain ⟨x1, g1, _⟩ := DataW.trod_bool Try.underlying4 t4
      obtain ⟨x2, g2, _⟩ := DataW.trod_bool Try.underlying4 t5
      obtain ⟨x3, g3, _⟩ := DataW.trod_bool Try.underlying4 t6
      obtain ⟨x4, g4, _⟩ := DataW.trod_bool Try.underlying4 t7
      simp at e0 g0 g1 g2 g3 g4
      subst e0 g0 g1 g2 g3 g4
      obtain ⟨xp, mp, _, _, _, hpl, hps⟩ := DataW.trod_struct Try.underlying25 t1
      obtain ⟨xq, mq, _, _, _, hql, hqs⟩ := DataW.trod_array Try.underlying26 t2
      have r0 : DataW.trod enc Try.prog w base _ _ mp 23 ((([c0, c1, c2, c3, c4, c5, c6, c7] : List Value).drop 0).take (Try.prog.cellsOf 23)) = xp[0]? := hps 0 _ rfl
      have r1 : DataW.trod enc Try.prog w base _ _ mp 23 ((([c0, c1, c2, c3, c4, c5, c6, c7] : List Value).drop 1).take (Try.prog.cellsOf 23)) = xp[1]? := hps 1 _ rfl
      have r2 : DataW.trod enc Try.prog w base _ _ mp 23 ((([c0, c1, c2, c3, c4, c5, c6, c7] : List Value).drop 2).take (Try.prog.cellsOf 23)) = xp[2]? := hps 2 _ rfl
      have r3 : DataW.trod enc Try.prog w base _ _ mp 23 ((([c0, c1, c2, c3, c4, c5, c6, c7] : List Value).drop 3).take (Try.prog.cellsOf 23)) = xp[3]? := hps 3 _ rfl
      have r4 : DataW.trod enc Try.prog w base _ _ mp 23 ((([c0, c1, c2, c3, c4, c5, c6, c7] : List Value).drop 4).take (Try.prog.cellsOf 23)) = xp[4]? := hps 4 _ rfl
      have r5 : DataW.trod enc Try.prog w base _ _ mp 23 ((([c0, c1, c2, c3, c4, c5, c6, c7] : List Value).drop 5).take (Try.prog.cellsOf 23)) = xp[5]? := hps 5 _ rfl
      have r6 : DataW.trod enc Try.prog w base _ _ mp 23 ((([c0, c1, c2, c3, c4, c5, c6, c7] : List Value).drop 6).take (Try.prog.cellsOf 23)) = xp[6]? := hps 6 _ rfl
      have r7 : DataW.trod enc Try.prog w base _ _ mp 23 ((([c0, c1, c2, c3, c4, c5, c6, c7] : List Value).drop 7).take (Try.prog.cellsOf 23)) = xp[7]? := hps 7 _ rfl
      have r8 := hqs 0 (by omega)
      have r9 := hqs 1 (by omega)
      simp only [cellsStrs15] at r0 r1 r2 r3 r4 r5 r6 r7 r8 r9
      match xp, hpl, xq, hql with
      | [y0, y1, y2, y3, y4, y5, y6, y7], _, [y8, y9], _ =>
        simp at r0 r1 r2 r3 r4 r5 r6 r7 r8 r9
        obtain ⟨l0, p0, q0, m0, s0⟩ := texts_cell2 r0
        obtain ⟨l1, p1, q1, m1, s1⟩ := texts_cell2 r1
        obtain ⟨l2, p2, q2, m2, s2⟩ := texts_cell2 r2
        obtain ⟨l3, p3, q3, m3, s3⟩ := texts_cell2 r3
        obtain ⟨l4, p4, q4, m4, s4⟩ := texts_cell2 r4
        obtain ⟨l5, p5, q5, m5, s5⟩ := texts_cell2 r5
        obtain ⟨l6, p6, q6, m6, s6⟩ := texts_cell2 r6
        obtain ⟨l7, p7, q7, m7, s7⟩ := texts_cell2 r7
        obtain ⟨l8, p8, q8, m8, s8⟩ := texts_cell2 r8
        obtain ⟨l9, p9, q9, m9, s9⟩ := texts_cell2 r9
        refine ⟨_, pick10 c0 c1 c2 c3 c4 c5 c6 c7 c8 c9, pick10 l0 l1 l2 l3 l4 l5 l6 l7 l8 l9, _, _, _, _, _, rfl, ⟨fun k hk => ?_, fun k hk => ?_, fun k hk => ?_, fun k hk => ?_⟩⟩
        · match k, hk with
          | 0, _ => exact p0
          | 1, _ => exact p1
          | 2, _ => exact p2
          | 3, _ => exact p3
          | 4, _ => exact p4
          | 5, _ => exact p5
          | 6, _ => exact p6
          | 7, _ => exact p7
          | 8, _ => exact p8
          | 9, _ => exact p9
          | k + 10, h => exact absurd h (by omega)
        · match k, hk with
          | 0, _ => exact s0
          | 1, _ => exact s1
          | 2, _ => exact s2
          | 3, _ => exact s3
          | 4, _ => exact s4
          | 5, _ => exact s5
          | 6, _ => exact s6
          | 7, _ => exact s7
          | 8, _ => exact s8
          | 9, _ => exact s9
          | k + 10, h => exact absurd h (by omega)
        · match k, hk with
          | 0, _ => exact q0
          | 1, _ => exact q1
          | 2, _ => exact q2
          | 3, _ => exact q3
          | 4, _ => exact q4
          | 5, _ => exact q5
          | 6, _ => exact q6
          | 7, _ => exact q7
          | 8, _ => exact q8
          | 9, _ => exact q9
          | k + 10, h => exact absurd h (by omega)
        · match k, hk with
          | 0, _ => exact m0
          | 1, _ => exact m1
          | 2, _ => exact m2
          | 3, _ => exact m3
          | 4, _ => exact m4
          | 5, _ => exact m5
          | 6, _ => exact m6
          | 7, _ => exact m7
          | 8, _ => exact m8
          | 9, _ => exact m9
          | k + 10, h => exact absurd h (by omega)
set_option maxHeartbeats 1000000 in
set_option maxRecDepth 100000 in
theorem open_inits {v : Value} {d : DataW H} {p : List MemPlace} (h : DataW.Trod enc Try.prog w base (fun _ => true) true 29 v d p) (hv : ∃ cs, v = .agg cs) :
    ∃ (C D : ByteArray) (u v' : Nat → Value) (p q : Nat → List (List UInt8)) (p1 p2 p3 p4 p5 q1 q2 q3 q4 q5 : Bool), v = .agg #[.string C, u 0, u 1, u 2, u 3, u 4, u 5, u 6, u 7, u 8, u 9, .bool p1, .bool p2, .bool p3, .bool p4, .bool p5, .string D, v' 0, v' 1, v' 2, v' 3, v' 4, v' 5, v' 6, v' 7, v' 8, v' 9, .bool q1, .bool q2, .bool q3, .bool q4, .bool q5] ∧ Ten w u p ∧ Ten w v' q := by
  obtain ⟨cs, rfl⟩ := hv
  obtain ⟨fuel, hf⟩ := h
  obtain ⟨xs, m', _, _, hlen, hxl, hxs⟩ := DataW.trod_array Try.underlying29 hf
  rw [cellsInits16] at hlen
  have t0 := hxs 0 (by omega)
  have t1 := hxs 1 (by omega)
  rw [cellsInit16] at t0 t1
  match xs, hxl with
  | [y0, y1], _ =>
    simp only [List.getElem?_cons_zero, List.getElem?_cons_succ, Nat.zero_mul, Nat.one_mul, List.drop_zero] at t0 t1
    obtain ⟨C, u, p, p1, p2, p3, p4, p5, e0, h0⟩ := init_cells t0
    obtain ⟨D, v', q, q1, q2, q3, q4, q5, e1, h1⟩ := init_cells t1
    refine ⟨C, D, u, v', p, q, p1, p2, p3, p4, p5, q1, q2, q3, q4, q5, ?_, h0, h1⟩
    obtain ⟨l⟩ := cs
    simp only [Value.cells] at hlen e0 e1
    have : l = l.take 16 ++ (l.drop 16).take 16 := by
      rw [show (l.drop 16).take 16 = l.drop 16 from List.take_of_length_le (by simp at hlen ⊢; omega), List.take_append_drop]
    rw [this, e0, e1]
    rfl
end
end Go.Proofs.Ytihkhcocfhbekaa
