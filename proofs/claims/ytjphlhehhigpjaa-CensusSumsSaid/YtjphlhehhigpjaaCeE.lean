/- Layer 37: a census equals itself, by the model. -/
import Derived.Test.YtjphlhehhigpjaaCe1
import Derived.Laws.StructEq
import Derived.KernelRfl
namespace Go.Proofs.Ytjphlhehhigpjaa
open Go.RowKit

theorem sizeI37 (w : World) : (sizeOf 3).run Try.prog w = .ok 1 w := by
  have h : (Try.prog.info? 3).map (·.size) = some 1 := by kernel_rfl
  cases hq : Try.prog.info? 3 with
  | none => simp [hq] at h
  | some i =>
    have : i.size = 1 := by simpa [hq] using h
    simp [sizeOf, typeInfo, hq, this]
section
variable {P : Program}
theorem eqFields_step37 {w : World} {d : Nat} {xs ys : Array Value} {f : Field} {fs : List Field} {a b : Value} {q : Bool} (hn : f.name ≠ "_") (hx : (part f.type xs f.offset).run P w = .ok a w) (hy : (part f.type ys f.offset).run P w = .ok b w)
    (he : (Op.equalIn d f.type a b).run P w = .ok true w) (hr : (Op.eqFields d xs ys fs).run P w = .ok q w) : (Op.eqFields d xs ys (f :: fs)).run P w = .ok q w := by
  unfold Op.eqFields
  rw [if_pos hn]
  simp only [Sem.run_bind, hx, hy, he, Result.andThen_ok]
  simpa using hr
end
theorem intEq37 (n : Nat) (x : Int) (w : World) : (Op.equalIn (n + 1) 3 (.int .i64 x) (.int .i64 x)).run Try.prog w = .ok true w := (run_equalIn_int w n 3 .i64 .i64 x x Try.underlying3).trans (by rw [beq_self_eq_true])
set_option maxHeartbeats 1000000 in
set_option maxRecDepth 100000 in
theorem arrEq37_8 (n : Nat) (c : Nat → Int) (w : World) : (Op.equalIn (n + 1 + 1) 25 (.agg #[.int .i64 (c 0), .int .i64 (c 1), .int .i64 (c 2), .int .i64 (c 3), .int .i64 (c 4), .int .i64 (c 5), .int .i64 (c 6), .int .i64 (c 7)]) (.agg #[.int .i64 (c 0), .int .i64 (c 1), .int .i64 (c 2), .int .i64 (c 3), .int .i64 (c 4), .int .i64 (c 5), .int .i64 (c 6), .int .i64 (c 7)])).run Try.prog w = .ok true w := by
  have p0 : (part 3 #[.int .i64 (c 0), .int .i64 (c 1), .int .i64 (c 2), .int .i64 (c 3), .int .i64 (c 4), .int .i64 (c 5), .int .i64 (c 6), .int .i64 (c 7)] (0 * 1)).run Try.prog w = .ok (.int .i64 (c 0)) w := by kernel_rfl
  have p1 : (part 3 #[.int .i64 (c 0), .int .i64 (c 1), .int .i64 (c 2), .int .i64 (c 3), .int .i64 (c 4), .int .i64 (c 5), .int .i64 (c 6), .int .i64 (c 7)] (1 * 1)).run Try.prog w = .ok (.int .i64 (c 1)) w := by kernel_rfl
  have q1 := p1
  simp only [Nat.mul_one] at q1
  have p2 : (part 3 #[.int .i64 (c 0), .int .i64 (c 1), .int .i64 (c 2), .int .i64 (c 3), .int .i64 (c 4), .int .i64 (c 5), .int .i64 (c 6), .int .i64 (c 7)] (2 * 1)).run Try.prog w = .ok (.int .i64 (c 2)) w := by kernel_rfl
  have q2 := p2
  simp only [Nat.mul_one] at q2
  have p3 : (part 3 #[.int .i64 (c 0), .int .i64 (c 1), .int .i64 (c 2), .int .i64 (c 3), .int .i64 (c 4), .int .i64 (c 5), .int .i64 (c 6), .int .i64 (c 7)] (3 * 1)).run Try.prog w = .ok (.int .i64 (c 3)) w := by kernel_rfl
  have q3 := p3
  simp only [Nat.mul_one] at q3
  have p4 : (part 3 #[.int .i64 (c 0), .int .i64 (c 1), .int .i64 (c 2), .int .i64 (c 3), .int .i64 (c 4), .int .i64 (c 5), .int .i64 (c 6), .int .i64 (c 7)] (4 * 1)).run Try.prog w = .ok (.int .i64 (c 4)) w := by kernel_rfl
  have q4 := p4
  simp only [Nat.mul_one] at q4
  have p5 : (part 3 #[.int .i64 (c 0), .int .i64 (c 1), .int .i64 (c 2), .int .i64 (c 3), .int .i64 (c 4), .int .i64 (c 5), .int .i64 (c 6), .int .i64 (c 7)] (5 * 1)).run Try.prog w = .ok (.int .i64 (c 5)) w := by kernel_rfl
  have q5 := p5
  simp only [Nat.mul_one] at q5
  have p6 : (part 3 #[.int .i64 (c 0), .int .i64 (c 1), .int .i64 (c 2), .int .i64 (c 3), .int .i64 (c 4), .int .i64 (c 5), .int .i64 (c 6), .int .i64 (c 7)] (6 * 1)).run Try.prog w = .ok (.int .i64 (c 6)) w := by kernel_rfl
  have q6 := p6
  simp only [Nat.mul_one] at q6
  have p7 : (part 3 #[.int .i64 (c 0), .int .i64 (c 1), .int .i64 (c 2), .int .i64 (c 3), .int .i64 (c 4), .int .i64 (c 5), .int .i64 (c 6), .int .i64 (c 7)] (7 * 1)).run Try.prog w = .ok (.int .i64 (c 7)) w := by kernel_rfl
  have q7 := p7
  simp only [Nat.mul_one] at q7
  have r : List.range' 0 8 1 = [0, 1, 2, 3, 4, 5, 6, 7] := rfl
  generalize (#[.int .i64 (c 0), .int .i64 (c 1), .int .i64 (c 2), .int .i64 (c 3), .int .i64 (c 4), .int .i64 (c 5), .int .i64 (c 6), .int .i64 (c 7)] : Array Value) = X at *
  unfold Op.equalIn
  simp only [Sem.run_bind, run_underlying Try.underlying25, Result.andThen_ok, sizeI37, Std.Legacy.Range.forIn_eq_forIn_range', Std.Legacy.Range.size, Nat.sub_zero, Nat.add_one_sub_one, Nat.div_one, r, List.forIn_cons, List.forIn_nil, intEq37, p0, p1, p2, p3, p4, p5, p6, p7]
  try simp [intEq37, p0, q1, q2, q3, q4, q5, q6, q7]
set_option maxHeartbeats 1000000 in
set_option maxRecDepth 100000 in
theorem arrEq37_16 (n : Nat) (c : Nat → Int) (w : World) : (Op.equalIn (n + 1 + 1) 26 (.agg #[.int .i64 (c 0), .int .i64 (c 1), .int .i64 (c 2), .int .i64 (c 3), .int .i64 (c 4), .int .i64 (c 5), .int .i64 (c 6), .int .i64 (c 7), .int .i64 (c 8), .int .i64 (c 9), .int .i64 (c 10), .int .i64 (c 11), .int .i64 (c 12), .int .i64 (c 13), .int .i64 (c 14), .int .i64 (c 15)]) (.agg #[.int .i64 (c 0), .int .i64 (c 1), .int .i64 (c 2), .int .i64 (c 3), .int .i64 (c 4), .int .i64 (c 5), .int .i64 (c 6), .int .i64 (c 7), .int .i64 (c 8), .int .i64 (c 9), .int .i64 (c 10), .int .i64 (c 11), .int .i64 (c 12), .int .i64 (c 13), .int .i64 (c 14), .int .i64 (c 15)])).run Try.prog w = .ok true w := by
  have p0 : (part 3 #[.int .i64 (c 0), .int .i64 (c 1), .int .i64 (c 2), .int .i64 (c 3), .int .i64 (c 4), .int .i64 (c 5), .int .i64 (c 6), .int .i64 (c 7), .int .i64 (c 8), .int .i64 (c 9), .int .i64 (c 10), .int .i64 (c 11), .int .i64 (c 12), .int .i64 (c 13), .int .i64 (c 14), .int .i64 (c 15)] (0 * 1)).run Try.prog w = .ok (.int .i64 (c 0)) w := by kernel_rfl
  have p1 : (part 3 #[.int .i64 (c 0), .int .i64 (c 1), .int .i64 (c 2), .int .i64 (c 3), .int .i64 (c 4), .int .i64 (c 5), .int .i64 (c 6), .int .i64 (c 7), .int .i64 (c 8), .int .i64 (c 9), .int .i64 (c 10), .int .i64 (c 11), .int .i64 (c 12), .int .i64 (c 13), .int .i64 (c 14), .int .i64 (c 15)] (1 * 1)).run Try.prog w = .ok (.int .i64 (c 1)) w := by kernel_rfl
  have q1 := p1
  simp only [Nat.mul_one] at q1
  have p2 : (part 3 #[.int .i64 (c 0), .int .i64 (c 1), .int .i64 (c 2), .int .i64 (c 3), .int .i64 (c 4), .int .i64 (c 5), .int .i64 (c 6), .int .i64 (c 7), .int .i64 (c 8), .int .i64 (c 9), .int .i64 (c 10), .int .i64 (c 11), .int .i64 (c 12), .int .i64 (c 13), .int .i64 (c 14), .int .i64 (c 15)] (2 * 1)).run Try.prog w = .ok (.int .i64 (c 2)) w := by kernel_rfl
  have q2 := p2
  simp only [Nat.mul_one] at q2
  have p3 : (part 3 #[.int .i64 (c 0), .int .i64 (c 1), .int .i64 (c 2), .int .i64 (c 3), .int .i64 (c 4), .int .i64 (c 5), .int .i64 (c 6), .int .i64 (c 7), .int .i64 (c 8), .int .i64 (c 9), .int .i64 (c 10), .int .i64 (c 11), .int .i64 (c 12), .int .i64 (c 13), .int .i64 (c 14), .int .i64 (c 15)] (3 * 1)).run Try.prog w = .ok (.int .i64 (c 3)) w := by kernel_rfl
  have q3 := p3
  simp only [Nat.mul_one] at q3
  have p4 : (part 3 #[.int .i64 (c 0), .int .i64 (c 1), .int .i64 (c 2), .int .i64 (c 3), .int .i64 (c 4), .int .i64 (c 5), .int .i64 (c 6), .int .i64 (c 7), .int .i64 (c 8), .int .i64 (c 9), .int .i64 (c 10), .int .i64 (c 11), .int .i64 (c 12), .int .i64 (c 13), .int .i64 (c 14), .int .i64 (c 15)] (4 * 1)).run Try.prog w = .ok (.int .i64 (c 4)) w := by kernel_rfl
  have q4 := p4
  simp only [Nat.mul_one] at q4
  have p5 : (part 3 #[.int .i64 (c 0), .int .i64 (c 1), .int .i64 (c 2), .int .i64 (c 3), .int .i64 (c 4), .int .i64 (c 5), .int .i64 (c 6), .int .i64 (c 7), .int .i64 (c 8), .int .i64 (c 9), .int .i64 (c 10), .int .i64 (c 11), .int .i64 (c 12), .int .i64 (c 13), .int .i64 (c 14), .int .i64 (c 15)] (5 * 1)).run Try.prog w = .ok (.int .i64 (c 5)) w := by kernel_rfl
  have q5 := p5
  simp only [Nat.mul_one] at q5
  have p6 : (part 3 #[.int .i64 (c 0), .int .i64 (c 1), .int .i64 (c 2), .int .i64 (c 3), .int .i64 (c 4), .int .i64 (c 5), .int .i64 (c 6), .int .i64 (c 7), .int .i64 (c 8), .int .i64 (c 9), .int .i64 (c 10), .int .i64 (c 11), .int .i64 (c 12), .int .i64 (c 13), .int .i64 (c 14), .int .i64 (c 15)] (6 * 1)).run Try.prog w = .ok (.int .i64 (c 6)) w := by kernel_rfl
  have q6 := p6
  simp only [Nat.mul_one] at q6
  have p7 : (part 3 #[.int .i64 (c 0), .int .i64 (c 1), .int .i64 (c 2), .int .i64 (c 3), .int .i64 (c 4), .int .i64 (c 5), .int .i64 (c 6), .int .i64 (c 7), .int .i64 (c 8), .int .i64 (c 9), .int .i64 (c 10), .int .i64 (c 11), .int .i64 (c 12), .int .i64 (c 13), .int .i64 (c 14), .int .i64 (c 15)] (7 * 1)).run Try.prog w = .ok (.int .i64 (c 7)) w := by kernel_rfl
  have q7 := p7
  simp only [Nat.mul_one] at q7
  have p8 : (part 3 #[.int .i64 (c 0), .int .i64 (c 1), .int .i64 (c 2), .int .i64 (c 3), .int .i64 (c 4), .int .i64 (c 5), .int .i64 (c 6), .int .i64 (c 7), .int .i64 (c 8), .int .i64 (c 9), .int .i64 (c 10), .int .i64 (c 11), .int .i64 (c 12), .int .i64 (c 13), .int .i64 (c 14), .int .i64 (c 15)] (8 * 1)).run Try.prog w = .ok (.int .i64 (c 8)) w := by kernel_rfl
  have q8 := p8
  simp only [Nat.mul_one] at q8
  have p9 : (part 3 #[.int .i64 (c 0), .int .i64 (c 1), .int .i64 (c 2), .int .i64 (c 3), .int .i64 (c 4), .int .i64 (c 5), .int .i64 (c 6), .int .i64 (c 7), .int .i64 (c 8), .int .i64 (c 9), .int .i64 (c 10), .int .i64 (c 11), .int .i64 (c 12), .int .i64 (c 13), .int .i64 (c 14), .int .i64 (c 15)] (9 * 1)).run Try.prog w = .ok (.int .i64 (c 9)) w := by kernel_rfl
  have q9 := p9
  simp only [Nat.mul_one] at q9
  have p10 : (part 3 #[.int .i64 (c 0), .int .i64 (c 1), .int .i64 (c 2), .int .i64 (c 3), .int .i64 (c 4), .int .i64 (c 5), .int .i64 (c 6), .int .i64 (c 7), .int .i64 (c 8), .int .i64 (c 9), .int .i64 (c 10), .int .i64 (c 11), .int .i64 (c 12), .int .i64 (c 13), .int .i64 (c 14), .int .i64 (c 15)] (10 * 1)).run Try.prog w = .ok (.int .i64 (c 10)) w := by kernel_rfl
  have q10 := p10
  simp only [Nat.mul_one] at q10
  have p11 : (part 3 #[.int .i64 (c 0), .int .i64 (c 1), .int .i64 (c 2), .int .i64 (c 3), .int .i64 (c 4), .int .i64 (c 5), .int .i64 (c 6), .int .i64 (c 7), .int .i64 (c 8), .int .i64 (c 9), .int .i64 (c 10), .int .i64 (c 11), .int .i64 (c 12), .int .i64 (c 13), .int .i64 (c 14), .int .i64 (c 15)] (11 * 1)).run Try.prog w = .ok (.int .i64 (c 11)) w := by kernel_rfl
  have q11 := p11
  simp only [Nat.mul_one] at q11
  have p12 : (part 3 #[.int .i64 (c 0), .int .i64 (c 1), .int .i64 (c 2), .int .i64 (c 3), .int .i64 (c 4), .int .i64 (c 5), .int .i64 (c 6), .int .i64 (c 7), .int .i64 (c 8), .int .i64 (c 9), .int .i64 (c 10), .int .i64 (c 11), .int .i64 (c 12), .int .i64 (c 13), .int .i64 (c 14), .int .i64 (c 15)] (12 * 1)).run Try.prog w = .ok (.int .i64 (c 12)) w := by kernel_rfl
  have q12 := p12
  simp only [Nat.mul_one] at q12
  have p13 : (part 3 #[.int .i64 (c 0), .int .i64 (c 1), .int .i64 (c 2), .int .i64 (c 3), .int .i64 (c 4), .int .i64 (c 5), .int .i64 (c 6), .int .i64 (c 7), .int .i64 (c 8), .int .i64 (c 9), .int .i64 (c 10), .int .i64 (c 11), .int .i64 (c 12), .int .i64 (c 13), .int .i64 (c 14), .int .i64 (c 15)] (13 * 1)).run Try.prog w = .ok (.int .i64 (c 13)) w := by kernel_rfl
  have q13 := p13
  simp only [Nat.mul_one] at q13
  have p14 : (part 3 #[.int .i64 (c 0), .int .i64 (c 1), .int .i64 (c 2), .int .i64 (c 3), .int .i64 (c 4), .int .i64 (c 5), .int .i64 (c 6), .int .i64 (c 7), .int .i64 (c 8), .int .i64 (c 9), .int .i64 (c 10), .int .i64 (c 11), .int .i64 (c 12), .int .i64 (c 13), .int .i64 (c 14), .int .i64 (c 15)] (14 * 1)).run Try.prog w = .ok (.int .i64 (c 14)) w := by kernel_rfl
  have q14 := p14
  simp only [Nat.mul_one] at q14
  have p15 : (part 3 #[.int .i64 (c 0), .int .i64 (c 1), .int .i64 (c 2), .int .i64 (c 3), .int .i64 (c 4), .int .i64 (c 5), .int .i64 (c 6), .int .i64 (c 7), .int .i64 (c 8), .int .i64 (c 9), .int .i64 (c 10), .int .i64 (c 11), .int .i64 (c 12), .int .i64 (c 13), .int .i64 (c 14), .int .i64 (c 15)] (15 * 1)).run Try.prog w = .ok (.int .i64 (c 15)) w := by kernel_rfl
  have q15 := p15
  simp only [Nat.mul_one] at q15
  have r : List.range' 0 16 1 = [0, 1, 2, 3, 4, 5, 6, 7, 8, 9, 10, 11, 12, 13, 14, 15] := rfl
  generalize (#[.int .i64 (c 0), .int .i64 (c 1), .int .i64 (c 2), .int .i64 (c 3), .int .i64 (c 4), .int .i64 (c 5), .int .i64 (c 6), .int .i64 (c 7), .int .i64 (c 8), .int .i64 (c 9), .int .i64 (c 10), .int .i64 (c 11), .int .i64 (c 12), .int .i64 (c 13), .int .i64 (c 14), .int .i64 (c 15)] : Array Value) = X at *
  unfold Op.equalIn
  simp only [Sem.run_bind, run_underlying Try.underlying26, Result.andThen_ok, sizeI37, Std.Legacy.Range.forIn_eq_forIn_range', Std.Legacy.Range.size, Nat.sub_zero, Nat.add_one_sub_one, Nat.div_one, r, List.forIn_cons, List.forIn_nil, intEq37, p0, p1, p2, p3, p4, p5, p6, p7, p8, p9, p10, p11, p12, p13, p14, p15]
  try simp [intEq37, p0, q1, q2, q3, q4, q5, q6, q7, q8, q9, q10, q11, q12, q13, q14, q15]
set_option maxHeartbeats 1000000 in
set_option maxRecDepth 100000 in
theorem arrEq37_4 (n : Nat) (c : Nat → Int) (w : World) : (Op.equalIn (n + 1 + 1) 27 (.agg #[.int .i64 (c 0), .int .i64 (c 1), .int .i64 (c 2), .int .i64 (c 3)]) (.agg #[.int .i64 (c 0), .int .i64 (c 1), .int .i64 (c 2), .int .i64 (c 3)])).run Try.prog w = .ok true w := by
  have p0 : (part 3 #[.int .i64 (c 0), .int .i64 (c 1), .int .i64 (c 2), .int .i64 (c 3)] (0 * 1)).run Try.prog w = .ok (.int .i64 (c 0)) w := by kernel_rfl
  have p1 : (part 3 #[.int .i64 (c 0), .int .i64 (c 1), .int .i64 (c 2), .int .i64 (c 3)] (1 * 1)).run Try.prog w = .ok (.int .i64 (c 1)) w := by kernel_rfl
  have q1 := p1
  simp only [Nat.mul_one] at q1
  have p2 : (part 3 #[.int .i64 (c 0), .int .i64 (c 1), .int .i64 (c 2), .int .i64 (c 3)] (2 * 1)).run Try.prog w = .ok (.int .i64 (c 2)) w := by kernel_rfl
  have q2 := p2
  simp only [Nat.mul_one] at q2
  have p3 : (part 3 #[.int .i64 (c 0), .int .i64 (c 1), .int .i64 (c 2), .int .i64 (c 3)] (3 * 1)).run Try.prog w = .ok (.int .i64 (c 3)) w := by kernel_rfl
  have q3 := p3
  simp only [Nat.mul_one] at q3
  have r : List.range' 0 4 1 = [0, 1, 2, 3] := rfl
  generalize (#[.int .i64 (c 0), .int .i64 (c 1), .int .i64 (c 2), .int .i64 (c 3)] : Array Value) = X at *
  unfold Op.equalIn
  simp only [Sem.run_bind, run_underlying Try.underlying27, Result.andThen_ok, sizeI37, Std.Legacy.Range.forIn_eq_forIn_range', Std.Legacy.Range.size, Nat.sub_zero, Nat.add_one_sub_one, Nat.div_one, r, List.forIn_cons, List.forIn_nil, intEq37, p0, p1, p2, p3]
  try simp [intEq37, p0, q1, q2, q3]
set_option maxHeartbeats 1000000 in
set_option maxRecDepth 100000 in
theorem censusEq37 (c : Nat → Int) (w : World) : (Op.equalIn 10000 29 (.agg (cenRow c)) (.agg (cenRow c))).run Try.prog w = .ok true w := by
  have hf : Try.prog.underlying 29 = some (.struct (Try.prog.fieldsOf 29)) := by kernel_rfl
  refine (run_equalIn_struct w 9999 29 _ _ hf (by kernel_rfl)).trans ?_
  refine eqFields_step37 (by decide) (by kernel_rfl : (part _ _ _).run _ w = .ok (.agg #[.int .i64 (c 0), .int .i64 (c 1), .int .i64 (c 2), .int .i64 (c 3), .int .i64 (c 4), .int .i64 (c 5), .int .i64 (c 6), .int .i64 (c 7)]) w) (by kernel_rfl : (part _ _ _).run _ w = .ok (.agg #[.int .i64 (c 0), .int .i64 (c 1), .int .i64 (c 2), .int .i64 (c 3), .int .i64 (c 4), .int .i64 (c 5), .int .i64 (c 6), .int .i64 (c 7)]) w) (arrEq37_8 9997 c w) ?_
  refine eqFields_step37 (by decide) (by kernel_rfl : (part _ _ _).run _ w = .ok (.agg #[.int .i64 (c 8), .int .i64 (c 9), .int .i64 (c 10), .int .i64 (c 11), .int .i64 (c 12), .int .i64 (c 13), .int .i64 (c 14), .int .i64 (c 15), .int .i64 (c 16), .int .i64 (c 17), .int .i64 (c 18), .int .i64 (c 19), .int .i64 (c 20), .int .i64 (c 21), .int .i64 (c 22), .int .i64 (c 23)]) w) (by kernel_rfl : (part _ _ _).run _ w = .ok (.agg #[.int .i64 (c 8), .int .i64 (c 9), .int .i64 (c 10), .int .i64 (c 11), .int .i64 (c 12), .int .i64 (c 13), .int .i64 (c 14), .int .i64 (c 15), .int .i64 (c 16), .int .i64 (c 17), .int .i64 (c 18), .int .i64 (c 19), .int .i64 (c 20), .int .i64 (c 21), .int .i64 (c 22), .int .i64 (c 23)]) w) (arrEq37_16 9997 (fun i => c (8 + i)) w) ?_
  refine eqFields_step37 (by decide) (by kernel_rfl : (part _ _ _).run _ w = .ok (.agg #[.int .i64 (c 24), .int .i64 (c 25), .int .i64 (c 26), .int .i64 (c 27)]) w) (by kernel_rfl : (part _ _ _).run _ w = .ok (.agg #[.int .i64 (c 24), .int .i64 (c 25), .int .i64 (c 26), .int .i64 (c 27)]) w) (arrEq37_4 9997 (fun i => c (24 + i)) w) ?_
  refine eqFields_step37 (by decide) (by kernel_rfl : (part _ _ _).run _ w = .ok (.int .i64 (c 28)) w) (by kernel_rfl : (part _ _ _).run _ w = .ok (.int .i64 (c 28)) w) (intEq37 9998 _ w) ?_
  refine eqFields_step37 (by decide) (by kernel_rfl : (part _ _ _).run _ w = .ok (.int .i64 (c 29)) w) (by kernel_rfl : (part _ _ _).run _ w = .ok (.int .i64 (c 29)) w) (intEq37 9998 _ w) ?_
  rfl
end Go.Proofs.Ytjphlhehhigpjaa
