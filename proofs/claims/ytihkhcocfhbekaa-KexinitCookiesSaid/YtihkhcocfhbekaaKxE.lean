/- Two pairs of int compared. -/
import Derived.Test.YtihkhcocfhbekaaMem
import Derived.Laws.StructEq
namespace Go.Proofs.Ytihkhcocfhbekaa
open Go.RowKit

theorem sizeI (w : World) : (sizeOf 3).run Try.prog w = .ok 1 w := by
  have h : (Try.prog.info? 3).map (·.size) = some 1 := by kernel_rfl
  cases hq : Try.prog.info? 3 with
  | none => simp [hq] at h
  | some i =>
    have : i.size = 1 := by simpa [hq] using h
    simp [sizeOf, typeInfo, hq, this]
theorem pairEq (a b c d : Int) (w : World) : (Op.equalIn 10000 22 (.agg #[.int .i64 a, .int .i64 b]) (.agg #[.int .i64 c, .int .i64 d])).run Try.prog w = .ok ((a == c) && (b == d)) w := by
  have e1 : ∀ w, (Op.equalIn 9999 3 (.int .i64 a) (.int .i64 c)).run Try.prog w = .ok (a == c) w := fun w => run_equalIn_int w 9998 3 .i64 .i64 a c Try.underlying3
  have e2 : ∀ w, (Op.equalIn 9999 3 (.int .i64 b) (.int .i64 d)).run Try.prog w = .ok (b == d) w := fun w => run_equalIn_int w 9998 3 .i64 .i64 b d Try.underlying3
  have r2 : List.range' 0 2 1 = [0, 1] := rfl
  have px : ∀ (w : World) (k l : Int), (part 3 #[.int .i64 k, .int .i64 l] (0 * 1)).run Try.prog w = .ok (.int .i64 k) w := fun w k l => by
    simp [part, isAgg, run_underlying Try.underlying3]
  have py : ∀ (w : World) (k l : Int), (part 3 #[.int .i64 k, .int .i64 l] (1 * 1)).run Try.prog w = .ok (.int .i64 l) w := fun w k l => by
    simp [part, isAgg, run_underlying Try.underlying3]
  rw [show (10000 : Nat) = 9999 + 1 from rfl]
  unfold Op.equalIn
  simp only [Sem.run_bind, run_underlying Try.underlying22, Result.andThen_ok, sizeI, Std.Legacy.Range.forIn_eq_forIn_range', Std.Legacy.Range.size, Nat.sub_zero, Nat.add_one_sub_one, Nat.div_one, r2, List.forIn_cons, List.forIn_nil, px, e1]
  have py1 := py
  simp only [Nat.mul_one] at py1
  cases h : (a == c)
  · simp
  · cases h' : (b == d)
    · simp [py1, e2, h']
    · simp [py1, e2, h']
end Go.Proofs.Ytihkhcocfhbekaa
