/- Part 25 of what the statement wants. -/
import Derived.Laws.StructEq
import Derived.KernelRfl
import Derived.Test.YtpkkeeblgbdfdaaDoorPk01
namespace Go.Proofs.YtpkkeeblgbdfdaaDoor
open Go.RowKit

theorem sizeU31 (w : World) : (sizeOf 38).run Tryd.prog w = .ok 1 w := by
  have h : (Tryd.prog.info? 38).map (·.size) = some 1 := by kernel_rfl
  cases hq : Tryd.prog.info? 38 with
  | none => simp [hq] at h
  | some i =>
    have : i.size = 1 := by simpa [hq] using h
    simp [sizeOf, typeInfo, hq, this]
theorem threeEq31 (n : Nat) (a b c d e f : Int) (w : World) : (Op.equalIn (n + 1 + 1) 39 (.agg #[.int .u32 a, .int .u32 b, .int .u32 c]) (.agg #[.int .u32 d, .int .u32 e, .int .u32 f])).run Tryd.prog w = .ok ((a == d) && ((b == e) && (c == f))) w := by
  have e1 : ∀ (x y : Int) w, (Op.equalIn (n + 1) 38 (.int .u32 x) (.int .u32 y)).run Tryd.prog w = .ok (x == y) w := fun x y w => run_equalIn_int w n 38 .u32 .u32 x y Tryd.underlying38
  have r3 : List.range' 0 3 1 = [0, 1, 2] := rfl
  have px : ∀ (w : World) (k l m : Int), (part 38 #[.int .u32 k, .int .u32 l, .int .u32 m] (0 * 1)).run Tryd.prog w = .ok (.int .u32 k) w := fun w k l m => by
    simp [part, isAgg, run_underlying Tryd.underlying38]
  have py : ∀ (w : World) (k l m : Int), (part 38 #[.int .u32 k, .int .u32 l, .int .u32 m] (1 * 1)).run Tryd.prog w = .ok (.int .u32 l) w := fun w k l m => by
    simp [part, isAgg, run_underlying Tryd.underlying38]
  have pz : ∀ (w : World) (k l m : Int), (part 38 #[.int .u32 k, .int .u32 l, .int .u32 m] (2 * 1)).run Tryd.prog w = .ok (.int .u32 m) w := fun w k l m => by
    simp [part, isAgg, run_underlying Tryd.underlying38]
  unfold Op.equalIn
  simp only [Sem.run_bind, run_underlying Tryd.underlying39, Result.andThen_ok, sizeU31, Std.Legacy.Range.forIn_eq_forIn_range', Std.Legacy.Range.size, Nat.sub_zero, Nat.add_one_sub_one, Nat.div_one, r3, List.forIn_cons, List.forIn_nil, px, e1]
  have py1 := py
  have pz1 := pz
  simp only [Nat.mul_one] at py1 pz1
  cases h : (a == d)
  · simp
  · cases h' : (b == e)
    · simp [py1, e1, h']
    · cases h2 : (c == f)
      · simp [py1, pz1, e1, h', h2]
      · simp [py1, pz1, e1, h', h2]
section
variable {P : Program}
theorem eqFields_step {w : World} {d : Nat} {xs ys : Array Value} {f : Field} {fs : List Field} {a b : Value} {r q : Bool} (hn : f.name ≠ "_") (hx : (part f.type xs f.offset).run P w = .ok a w) (hy : (part f.type ys f.offset).run P w = .ok b w)
    (he : (Op.equalIn d f.type a b).run P w = .ok r w) (hr : (Op.eqFields d xs ys fs).run P w = .ok q w) : (Op.eqFields d xs ys (f :: fs)).run P w = .ok (r && q) w := by
  unfold Op.eqFields
  rw [if_pos hn]
  simp only [Sem.run_bind, hx, hy, he, Result.andThen_ok]
  cases r
  · simp
  · simpa using hr
theorem eqFields_nil {w : World} {d : Nat} {xs ys : Array Value} : (Op.eqFields d xs ys []).run P w = .ok true w := rfl
end
theorem bytes_eqL (a b : ByteArray) : (a.toList == b.toList) = decide (a = b) := by
  rw [ByteArray.toList_eq, ByteArray.toList_eq]
  by_cases h : a = b
  · subst h
    rw [decide_eq_true rfl, beq_iff_eq]
  · rw [decide_eq_false h, beq_eq_false_iff_ne]
    intro e
    obtain ⟨⟨x⟩⟩ := a
    obtain ⟨⟨y⟩⟩ := b
    have e2 : x = y := e
    subst e2
    exact h rfl
set_option maxHeartbeats 1000000 in
set_option maxRecDepth 100000 in
theorem choiceEq31 (n : Nat) (d e : DoV) (w : World) : (Op.equalIn (n + 2) 37 (.agg #[.string d.h0, .string d.h1, .string d.h2, .string d.h3, .string d.h4, .string d.h5, .string d.h6, .string d.h7]) (.agg #[.string e.h0, .string e.h1, .string e.h2, .string e.h3, .string e.h4, .string e.h5, .string e.h6, .string e.h7])).run Tryd.prog w = .ok ((d.h0.toList == e.h0.toList) && ((d.h1.toList == e.h1.toList) && ((d.h2.toList == e.h2.toList) && ((d.h3.toList == e.h3.toList) && ((d.h4.toList == e.h4.toList) && ((d.h5.toList == e.h5.toList) && ((d.h6.toList == e.h6.toList) && ((d.h7.toList == e.h7.toList) && true)))))))) w := by
  have hf : Tryd.prog.underlying 37 = some (.struct (Tryd.prog.fieldsOf 37)) := by kernel_rfl
  refine (run_equalIn_struct w (n + 1) 37 _ _ hf (by kernel_rfl)).trans ?_
  refine eqFields_step (by decide) (by kernel_rfl : (part _ _ _).run _ w = .ok (.string d.h0) w) (by kernel_rfl : (part _ _ _).run _ w = .ok (.string e.h0) w) (run_equalIn_string w (n) _ _ _ Tryd.underlying9) ?_
  refine eqFields_step (by decide) (by kernel_rfl : (part _ _ _).run _ w = .ok (.string d.h1) w) (by kernel_rfl : (part _ _ _).run _ w = .ok (.string e.h1) w) (run_equalIn_string w (n) _ _ _ Tryd.underlying9) ?_
  refine eqFields_step (by decide) (by kernel_rfl : (part _ _ _).run _ w = .ok (.string d.h2) w) (by kernel_rfl : (part _ _ _).run _ w = .ok (.string e.h2) w) (run_equalIn_string w (n) _ _ _ Tryd.underlying9) ?_
  refine eqFields_step (by decide) (by kernel_rfl : (part _ _ _).run _ w = .ok (.string d.h3) w) (by kernel_rfl : (part _ _ _).run _ w = .ok (.string e.h3) w) (run_equalIn_string w (n) _ _ _ Tryd.underlying9) ?_
  refine eqFields_step (by decide) (by kernel_rfl : (part _ _ _).run _ w = .ok (.string d.h4) w) (by kernel_rfl : (part _ _ _).run _ w = .ok (.string e.h4) w) (run_equalIn_string w (n) _ _ _ Tryd.underlying9) ?_
  refine eqFields_step (by decide) (by kernel_rfl : (part _ _ _).run _ w = .ok (.string d.h5) w) (by kernel_rfl : (part _ _ _).run _ w = .ok (.string e.h5) w) (run_equalIn_string w (n) _ _ _ Tryd.underlying9) ?_
  refine eqFields_step (by decide) (by kernel_rfl : (part _ _ _).run _ w = .ok (.string d.h6) w) (by kernel_rfl : (part _ _ _).run _ w = .ok (.string e.h6) w) (run_equalIn_string w (n) _ _ _ Tryd.underlying9) ?_
  refine eqFields_step (by decide) (by kernel_rfl : (part _ _ _).run _ w = .ok (.string d.h7) w) (by kernel_rfl : (part _ _ _).run _ w = .ok (.string e.h7) w) (run_equalIn_string w (n) _ _ _ Tryd.underlying9) ?_
  exact eqFields_nil
set_option maxHeartbeats 1000000 in
set_option maxRecDepth 100000 in
theorem groupEq31 (n : Nat) (d e : DoV) (w : World) : (Op.equalIn (n + 2) 41 (.agg #[.string d.gp, .string d.gg]) (.agg #[.string e.gp, .string e.gg])).run Tryd.prog w = .ok ((d.gp.toList == e.gp.toList) && ((d.gg.toList == e.gg.toList) && true)) w := by
  have hf : Tryd.prog.underlying 41 = some (.struct (Tryd.prog.fieldsOf 41)) := by kernel_rfl
  refine (run_equalIn_struct w (n + 1) 41 _ _ hf (by kernel_rfl)).trans ?_
  refine eqFields_step (by decide) (by kernel_rfl : (part _ _ _).run _ w = .ok (.string d.gp) w) (by kernel_rfl : (part _ _ _).run _ w = .ok (.string e.gp) w) (run_equalIn_string w (n) _ _ _ Tryd.underlying9) ?_
  refine eqFields_step (by decide) (by kernel_rfl : (part _ _ _).run _ w = .ok (.string d.gg) w) (by kernel_rfl : (part _ _ _).run _ w = .ok (.string e.gg) w) (run_equalIn_string w (n) _ _ _ Tryd.underlying9) ?_
  exact eqFields_nil
set_option maxHeartbeats 1000000 in
set_option maxRecDepth 100000 in
theorem doneEqB31 (n : Nat) (d e : DoV) (w : World) : (Op.equalIn (n + 3) 43 (.agg #[.string d.vc, .string d.vs, .string d.ic, .string d.iz, .string d.h0, .string d.h1, .string d.h2, .string d.h3, .string d.h4, .string d.h5, .string d.h6, .string d.h7, .int .i64 d.me, .int .u32 (d.w0 : Int), .int .u32 (d.w1 : Int), .int .u32 (d.w2 : Int), .string d.gp, .string d.gg, .int .i64 d.ky, .int .i64 d.ke, .int .i64 d.kf, .int .i64 d.kk, .int .i64 d.kh, .int .i64 d.ks, .int .i64 d.ku, .int .i64 d.kd]) (.agg #[.string e.vc, .string e.vs, .string e.ic, .string e.iz, .string e.h0, .string e.h1, .string e.h2, .string e.h3, .string e.h4, .string e.h5, .string e.h6, .string e.h7, .int .i64 e.me, .int .u32 (e.w0 : Int), .int .u32 (e.w1 : Int), .int .u32 (e.w2 : Int), .string e.gp, .string e.gg, .int .i64 e.ky, .int .i64 e.ke, .int .i64 e.kf, .int .i64 e.kk, .int .i64 e.kh, .int .i64 e.ks, .int .i64 e.ku, .int .i64 e.kd])).run Tryd.prog w = .ok ((d.vc.toList == e.vc.toList) && ((d.vs.toList == e.vs.toList) && ((d.ic.toList == e.ic.toList) && ((d.iz.toList == e.iz.toList) && (((d.h0.toList == e.h0.toList) && ((d.h1.toList == e.h1.toList) && ((d.h2.toList == e.h2.toList) && ((d.h3.toList == e.h3.toList) && ((d.h4.toList == e.h4.toList) && ((d.h5.toList == e.h5.toList) && ((d.h6.toList == e.h6.toList) && ((d.h7.toList == e.h7.toList) && true)))))))) && ((d.me == e.me) && ((((d.w0 : Int) == (e.w0 : Int)) && (((d.w1 : Int) == (e.w1 : Int)) && ((d.w2 : Int) == (e.w2 : Int)))) && (((d.gp.toList == e.gp.toList) && ((d.gg.toList == e.gg.toList) && true)) && ((d.ky == e.ky) && ((d.ke == e.ke) && ((d.kf == e.kf) && ((d.kk == e.kk) && ((d.kh == e.kh) && ((d.ks == e.ks) && ((d.ku == e.ku) && ((d.kd == e.kd) && true)))))))))))))))) w := by
  have hf : Tryd.prog.underlying 43 = some (.struct (Tryd.prog.fieldsOf 43)) := by kernel_rfl
  refine (run_equalIn_struct w (n + 2) 43 _ _ hf (by kernel_rfl)).trans ?_
  refine eqFields_step (by decide) (by kernel_rfl : (part _ _ _).run _ w = .ok (.string d.vc) w) (by kernel_rfl : (part _ _ _).run _ w = .ok (.string e.vc) w) (run_equalIn_string w (n + 1) _ _ _ Tryd.underlying9) ?_
  refine eqFields_step (by decide) (by kernel_rfl : (part _ _ _).run _ w = .ok (.string d.vs) w) (by kernel_rfl : (part _ _ _).run _ w = .ok (.string e.vs) w) (run_equalIn_string w (n + 1) _ _ _ Tryd.underlying9) ?_
  refine eqFields_step (by decide) (by kernel_rfl : (part _ _ _).run _ w = .ok (.string d.ic) w) (by kernel_rfl : (part _ _ _).run _ w = .ok (.string e.ic) w) (run_equalIn_string w (n + 1) _ _ _ Tryd.underlying9) ?_
  refine eqFields_step (by decide) (by kernel_rfl : (part _ _ _).run _ w = .ok (.string d.iz) w) (by kernel_rfl : (part _ _ _).run _ w = .ok (.string e.iz) w) (run_equalIn_string w (n + 1) _ _ _ Tryd.underlying9) ?_
  refine eqFields_step (by decide) (by kernel_rfl : (part _ _ _).run _ w = .ok (.agg #[.string d.h0, .string d.h1, .string d.h2, .string d.h3, .string d.h4, .string d.h5, .string d.h6, .string d.h7]) w) (by kernel_rfl : (part _ _ _).run _ w = .ok (.agg #[.string e.h0, .string e.h1, .string e.h2, .string e.h3, .string e.h4, .string e.h5, .string e.h6, .string e.h7]) w) (choiceEq31 n d e w) ?_
  refine eqFields_step (by decide) (by kernel_rfl : (part _ _ _).run _ w = .ok (.int .i64 d.me) w) (by kernel_rfl : (part _ _ _).run _ w = .ok (.int .i64 e.me) w) (run_equalIn_int w (n + 1) _ _ .i64 _ _ Tryd.underlying3) ?_
  refine eqFields_step (by decide) (by kernel_rfl : (part _ _ _).run _ w = .ok (.agg #[.int .u32 (d.w0 : Int), .int .u32 (d.w1 : Int), .int .u32 (d.w2 : Int)]) w) (by kernel_rfl : (part _ _ _).run _ w = .ok (.agg #[.int .u32 (e.w0 : Int), .int .u32 (e.w1 : Int), .int .u32 (e.w2 : Int)]) w) (threeEq31 n _ _ _ _ _ _ w) ?_
  refine eqFields_step (by decide) (by kernel_rfl : (part _ _ _).run _ w = .ok (.agg #[.string d.gp, .string d.gg]) w) (by kernel_rfl : (part _ _ _).run _ w = .ok (.agg #[.string e.gp, .string e.gg]) w) (groupEq31 n d e w) ?_
  refine eqFields_step (by decide) (by kernel_rfl : (part _ _ _).run _ w = .ok (.int .i64 d.ky) w) (by kernel_rfl : (part _ _ _).run _ w = .ok (.int .i64 e.ky) w) (run_equalIn_int w (n + 1) _ _ .i64 _ _ Tryd.underlying35) ?_
  refine eqFields_step (by decide) (by kernel_rfl : (part _ _ _).run _ w = .ok (.int .i64 d.ke) w) (by kernel_rfl : (part _ _ _).run _ w = .ok (.int .i64 e.ke) w) (run_equalIn_int w (n + 1) _ _ .i64 _ _ Tryd.underlying35) ?_
  refine eqFields_step (by decide) (by kernel_rfl : (part _ _ _).run _ w = .ok (.int .i64 d.kf) w) (by kernel_rfl : (part _ _ _).run _ w = .ok (.int .i64 e.kf) w) (run_equalIn_int w (n + 1) _ _ .i64 _ _ Tryd.underlying35) ?_
  refine eqFields_step (by decide) (by kernel_rfl : (part _ _ _).run _ w = .ok (.int .i64 d.kk) w) (by kernel_rfl : (part _ _ _).run _ w = .ok (.int .i64 e.kk) w) (run_equalIn_int w (n + 1) _ _ .i64 _ _ Tryd.underlying35) ?_
  refine eqFields_step (by decide) (by kernel_rfl : (part _ _ _).run _ w = .ok (.int .i64 d.kh) w) (by kernel_rfl : (part _ _ _).run _ w = .ok (.int .i64 e.kh) w) (run_equalIn_int w (n + 1) _ _ .i64 _ _ Tryd.underlying35) ?_
  refine eqFields_step (by decide) (by kernel_rfl : (part _ _ _).run _ w = .ok (.int .i64 d.ks) w) (by kernel_rfl : (part _ _ _).run _ w = .ok (.int .i64 e.ks) w) (run_equalIn_int w (n + 1) _ _ .i64 _ _ Tryd.underlying35) ?_
  refine eqFields_step (by decide) (by kernel_rfl : (part _ _ _).run _ w = .ok (.int .i64 d.ku) w) (by kernel_rfl : (part _ _ _).run _ w = .ok (.int .i64 e.ku) w) (run_equalIn_int w (n + 1) _ _ .i64 _ _ Tryd.underlying35) ?_
  refine eqFields_step (by decide) (by kernel_rfl : (part _ _ _).run _ w = .ok (.int .i64 d.kd) w) (by kernel_rfl : (part _ _ _).run _ w = .ok (.int .i64 e.kd) w) (run_equalIn_int w (n + 1) _ _ .i64 _ _ Tryd.underlying35) ?_
  exact eqFields_nil
set_option maxHeartbeats 1000000 in
theorem done_bools (d e : DoV) : ((d.vc.toList == e.vc.toList) && ((d.vs.toList == e.vs.toList) && ((d.ic.toList == e.ic.toList) && ((d.iz.toList == e.iz.toList) && (((d.h0.toList == e.h0.toList) && ((d.h1.toList == e.h1.toList) && ((d.h2.toList == e.h2.toList) && ((d.h3.toList == e.h3.toList) && ((d.h4.toList == e.h4.toList) && ((d.h5.toList == e.h5.toList) && ((d.h6.toList == e.h6.toList) && ((d.h7.toList == e.h7.toList) && true)))))))) && ((d.me == e.me) && ((((d.w0 : Int) == (e.w0 : Int)) && (((d.w1 : Int) == (e.w1 : Int)) && ((d.w2 : Int) == (e.w2 : Int)))) && (((d.gp.toList == e.gp.toList) && ((d.gg.toList == e.gg.toList) && true)) && ((d.ky == e.ky) && ((d.ke == e.ke) && ((d.kf == e.kf) && ((d.kk == e.kk) && ((d.kh == e.kh) && ((d.ks == e.ks) && ((d.ku == e.ku) && ((d.kd == e.kd) && true)))))))))))))))) = decide (d = e) := by
  obtain ⟨a0, a1, a2, a3, a4, a5, a6, a7, a8, a9, a10, a11, a12, a13, a14, a15, a16, a17, a18, a19, a20, a21, a22, a23, a24, a25⟩ := d
  obtain ⟨b0, b1, b2, b3, b4, b5, b6, b7, b8, b9, b10, b11, b12, b13, b14, b15, b16, b17, b18, b19, b20, b21, b22, b23, b24, b25⟩ := e
  simp only [bytes_eqL]
  rw [Bool.eq_iff_iff]
  simp only [Bool.and_eq_true, decide_eq_true_eq, beq_iff_eq, DoV.mk.injEq, and_true, Int.natCast_inj, and_assoc]
theorem doneEq31 (d e : DoV) (w : World) : (Op.equalIn 10000 43 (.agg d.row.toArray) (.agg e.row.toArray)).run Tryd.prog w = .ok (decide (d = e)) w := by
  rw [← done_bools]
  exact doneEqB31 9997 d e w
end Go.Proofs.YtpkkeeblgbdfdaaDoor
