/- Layer 21: the law KeysApart: unlike keys have unlike texts; rows of three compared. -/
import Derived.Test.YtemhifeddejkjaaKy5
import Derived.Laws.StructEq
namespace Go.Proofs.Ytemhifeddejkjaa
open Go.RowKit

theorem size3I (w : World) : (sizeOf 33).run Try.prog w = .ok 1 w := by
  have h : (Try.prog.info? 33).map (·.size) = some 1 := by kernel_rfl
  cases hq : Try.prog.info? 33 with
  | none => simp [hq] at h
  | some i =>
    have : i.size = 1 := by simpa [hq] using h
    simp [sizeOf, typeInfo, hq, this]
theorem threeEq (a b c d e f : Int) (w : World) : (Op.equalIn 10000 45 (.agg #[.int .i64 a, .int .i64 b, .int .i64 c]) (.agg #[.int .i64 d, .int .i64 e, .int .i64 f])).run Try.prog w = .ok ((a == d) && ((b == e) && (c == f))) w := by
  have e1 : ∀ (x y : Int) w, (Op.equalIn 9999 33 (.int .i64 x) (.int .i64 y)).run Try.prog w = .ok (x == y) w := fun x y w => run_equalIn_int w 9998 33 .i64 .i64 x y Try.underlying33
  have r3 : List.range' 0 3 1 = [0, 1, 2] := rfl
  have px : ∀ (w : World) (k l m : Int), (part 33 #[.int .i64 k, .int .i64 l, .int .i64 m] (0 * 1)).run Try.prog w = .ok (.int .i64 k) w := fun w k l m => by
    simp [part, isAgg, run_underlying Try.underlying33]
  have py : ∀ (w : World) (k l m : Int), (part 33 #[.int .i64 k, .int .i64 l, .int .i64 m] (1 * 1)).run Try.prog w = .ok (.int .i64 l) w := fun w k l m => by
    simp [part, isAgg, run_underlying Try.underlying33]
  have pz : ∀ (w : World) (k l m : Int), (part 33 #[.int .i64 k, .int .i64 l, .int .i64 m] (2 * 1)).run Try.prog w = .ok (.int .i64 m) w := fun w k l m => by
    simp [part, isAgg, run_underlying Try.underlying33]
  rw [show (10000 : Nat) = 9999 + 1 from rfl]
  unfold Op.equalIn
  simp only [Sem.run_bind, run_underlying Try.underlying45, Result.andThen_ok, size3I, Std.Legacy.Range.forIn_eq_forIn_range', Std.Legacy.Range.size, Nat.sub_zero, Nat.add_one_sub_one, Nat.div_one, r3, List.forIn_cons, List.forIn_nil, px, e1]
  have py1 := py
  have pz1 := pz
  simp only [Nat.mul_one] at py1 pz1
  cases h : (a == d)
  · simp
  · cases h' : (b == e)
    · simp [py1, e1, h']
    · cases h2 : (c == f)
      · simp [py1, pz1, e1, h', h2]
      · simp [py1, pz1, e1, h', h2]

/-- Two terms' texts, each with more behind it, alike: the terms alike. -/
theorem TAt.cut {L : List Ent} (hG : Good L) {i j : Int} {t u r s : List UInt8} (h : TAt L i t) (k : TAt L j u) (ht : t ≠ []) (hu : u ≠ []) (e : t ++ r = u ++ s) : t = u ∧ r = s := by
  rcases h with ⟨_, rfl⟩ | ⟨n, _, hn, rfl⟩
  · exact absurd rfl ht
  · rcases k with ⟨_, rfl⟩ | ⟨m, _, hm, rfl⟩
    · exact absurd rfl hu
    · obtain ⟨e1, e2⟩ := enc_apart hG n m r s hn hm e
      exact ⟨by rw [e1], e2⟩
theorem derive_eq {c : UInt8} {x y z : List UInt8} (hx : x ≠ []) (hy : y ≠ []) (hz : z ≠ []) (lx : x.length ≤ 10000) (ly : y.length ≤ 10000) (lz : z.length ≤ 10000) : refDeriveL c x y z = 248 :: c :: (x ++ (y ++ z)) := by
  unfold refDeriveL fitsL
  have h1 : (tagL 8).length = 1 := rfl
  rw [if_pos ⟨hx, hy, hz⟩, if_neg (by simp only [List.length_append, h1, List.length_cons, List.length_nil]; omega)]
  simp [tagL]
/-- Texts that are there, and small. -/
structure Sm (t : List UInt8) : Prop where
  ne : t ≠ []
  le : t.length ≤ 10000
theorem derive_iff {B A n : Nat} {w0 W : World} {P : List (Int × List UInt8)} (h : Ta B w0 A P n W) {i0 i1 i2 j0 j1 j2 a b : Int} {x y z x' y' z' : List UInt8} (h0 : (i0, x) ∈ P) (h1 : (i1, y) ∈ P) (h2 : (i2, z) ∈ P) (g0 : (j0, x') ∈ P) (g1 : (j1, y') ∈ P) (g2 : (j2, z') ∈ P)
    (sx : Sm x) (sy : Sm y) (sz : Sm z) (tx : Sm x') (ty : Sm y') (tz : Sm z') {c d : Nat} (hc : c ≤ 5) (hd : d ≤ 5) (ha : (a, refDeriveL (UInt8.ofNat (65 + c)) x y z) ∈ P) (hb : (b, refDeriveL (UInt8.ofNat (65 + d)) x' y' z') ∈ P) :
    a ≠ -1 ∧ (a = b ↔ (i0 = j0 ∧ i1 = j1 ∧ i2 = j2) ∧ c = d) := by
  have e0 := h.same h0 g0
  have e1 := h.same h1 g1
  have e2 := h.same h2 g2
  have eab := h.same ha hb
  have en := h.none ha
  obtain ⟨⟨L, F, _, hG, _, h3⟩, _⟩ := h
  rw [derive_eq sx.ne sy.ne sz.ne sx.le sy.le sz.le] at eab en
  rw [derive_eq tx.ne ty.ne tz.ne tx.le ty.le tz.le] at eab
  refine ⟨fun e => by have := en.1 e; simp at this, eab.trans ⟨fun e => ?_, fun ⟨⟨e3, e4, e5⟩, e6⟩ => by rw [e0.1 e3, e1.1 e4, e2.1 e5, e6]⟩⟩
  injection e with _ e
  injection e with ec e
  have hcd : c = d := by
    have := congrArg UInt8.toNat ec
    simp at this
    omega
  obtain ⟨r0, e⟩ := (h3 _ h0).cut hG (h3 _ g0) sx.ne tx.ne e
  obtain ⟨r1, e⟩ := (h3 _ h1).cut hG (h3 _ g1) sy.ne ty.ne e
  exact ⟨⟨e0.2 r0, e1.2 r1, e2.2 e⟩, hcd⟩
end Go.Proofs.Ytemhifeddejkjaa
