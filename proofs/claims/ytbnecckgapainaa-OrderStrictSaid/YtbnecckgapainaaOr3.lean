/- Layer 23: the laws OrderJudges, OrderStrict, OrderSides. -/
import Derived.Test.YtbnecckgapainaaOr2
import Derived.Test.YtbnecckgapainaaOrA
import Derived.Deep.RegionHeld3
import Derived.Deep.Cut
import Derived.Deep.RegionLaw
import Derived.BigQuiet
namespace Go.Proofs.Ytbnecckgapainaa
open Go.RowKit

set_option maxHeartbeats 2000000 in
set_option maxRecDepth 100000 in
theorem OrderJudges_any (w : World) (p n : Int) (f s : Bool) : Calls Try.prog 4 #[.int .i64 p, .int .i64 n, .agg #[.bool f, .bool s]] w fun e w' => e = .returned (.bool true) ∧ Below w.heap.size w w' := by
  have HA := Lib.hid awake23_any
  obtain ⟨z, hz⟩ : ∃ z, z = judgeZ p f s n := ⟨_, rfl⟩
  have H1 := Lib.hid (fun W => oJudge_any W p f s n z hz)
  have H2 := Lib.hid (fun W => r23Judge_any W p f s n z hz)
  have qz : (z == z) = true := by simp
  have b0 : Below w.heap.size w (w.alloc (.cells #[.bool f, .bool s] 41)).drew := ((Below.refl _ _).alloc (Nat.le_refl _) _).drew
  have hX := Holds.new w 41 #[.bool f, .bool s]
  have y0 : (w.alloc (.cells #[.bool f, .bool s] 41)).cell? ⟨w.heap.size, 0, none⟩ = some (.bool f) := (hX.cell 0).trans rfl
  have z0 : (w.alloc (.cells #[.bool f, .bool s] 41)).drew.cell? ⟨w.heap.size, 0, none⟩ = some (.bool f) := y0
  have y1 : (w.alloc (.cells #[.bool f, .bool s] 41)).cell? ⟨w.heap.size, 1, none⟩ = some (.bool s) := (hX.cell 1).trans rfl
  have z1 : (w.alloc (.cells #[.bool f, .bool s] 41)).drew.cell? ⟨w.heap.size, 1, none⟩ = some (.bool s) := y1
  clear hX
  clear hz
  go_enter Try.func4, Try.ntmps4
  go_upto_region 1 with fail
  go_region
  go_wp2_with (first
    | (go_at_call 14; (with_reducible refine (HA.out _).mono ?_); rintro e w1 ⟨rfl, b1⟩; have c1 := b0.trans (b1.mono b0.size))
    | (go_at_call 15; (with_reducible refine (H1.out _).mono ?_); rintro e w2 ⟨rfl, b2⟩; have c2 := c1.trans (b2.mono c1.size))
    | (go_at_call 16; (with_reducible refine (H2.out _).mono ?_); rintro e w3 ⟨rfl, b3⟩; have c3 := c2.trans (b3.mono c2.size))
    | fail)
  go_ret
  exact ⟨rfl, c3⟩

/-! ### OrderStrict -/
theorem strict_in {p : Int} {s : Bool} {n : Int} (h4 : p ≠ 4) : judgeZ p true s n = 0 ∨ (judgeZ p true s n = 4 ∧ n = 1) ∨ (judgeZ p true s n = 1 ∧ 20 ≤ n ∧ n ≤ 49 ∧ ((p = 1 ∧ n = 20) ∨ (p = 2 ∧ 30 ≤ n ∧ n ≤ 49) ∨ (p = 3 ∧ n = 21))) := by
  unfold judgeZ exZ
  by_cases h1 : p < 1 ∨ p > 4 ∨ n < 0 ∨ n > 255
  · rw [if_pos h1]; exact .inl rfl
  · rw [if_neg h1]
    by_cases h2 : n = 1
    · rw [if_pos h2]; exact .inr (.inl ⟨rfl, h2⟩)
    · rw [if_neg h2, if_neg h4]
      by_cases h3 : (p = 1 ∧ n = 20) ∨ (p = 2 ∧ 30 ≤ n ∧ n ≤ 49) ∨ (p = 3 ∧ n = 21)
      · rw [if_pos h3]; exact .inr (.inr ⟨rfl, by omega, by omega, h3⟩)
      · rw [if_neg h3, if_neg (by simp)]; exact .inl rfl
theorem strict_side (p : Int) (s : Bool) (n : Int) (h4 : p ≠ 4) : judgeZ p true (!s) n = judgeZ p true s n := by
  unfold judgeZ
  rw [if_neg h4, if_neg h4]
set_option maxHeartbeats 8000000 in
set_option maxRecDepth 100000 in
theorem OrderStrict_any (w : World) (p o n : Int) (s : Bool) : Calls Try.prog 5 #[.agg #[.int .i64 p, .int .i64 o, .int .i64 n], .bool s] w fun e w' => e = .returned (.bool true) ∧ Below w.heap.size w w' := by
  have HA := Lib.hid awake23_any
  have b0 : Below w.heap.size w (w.alloc (.cells #[.int .i64 p, .int .i64 o, .int .i64 n] 23)).drew := ((Below.refl _ _).alloc (Nat.le_refl _) _).drew
  have hX := Holds.new w 23 #[.int .i64 p, .int .i64 o, .int .i64 n]
  have y0 : (w.alloc (.cells #[.int .i64 p, .int .i64 o, .int .i64 n] 23)).cell? ⟨w.heap.size, 0, none⟩ = some (.int .i64 p) := (hX.cell 0).trans rfl
  have z0 : (w.alloc (.cells #[.int .i64 p, .int .i64 o, .int .i64 n] 23)).drew.cell? ⟨w.heap.size, 0, none⟩ = some (.int .i64 p) := y0
  have y1 : (w.alloc (.cells #[.int .i64 p, .int .i64 o, .int .i64 n] 23)).cell? ⟨w.heap.size, 1, none⟩ = some (.int .i64 o) := (hX.cell 1).trans rfl
  have z1 : (w.alloc (.cells #[.int .i64 p, .int .i64 o, .int .i64 n] 23)).drew.cell? ⟨w.heap.size, 1, none⟩ = some (.int .i64 o) := y1
  have y2 : (w.alloc (.cells #[.int .i64 p, .int .i64 o, .int .i64 n] 23)).cell? ⟨w.heap.size, 2, none⟩ = some (.int .i64 n) := (hX.cell 2).trans rfl
  have z2 : (w.alloc (.cells #[.int .i64 p, .int .i64 o, .int .i64 n] 23)).drew.cell? ⟨w.heap.size, 2, none⟩ = some (.int .i64 n) := y2
  clear hX
  by_cases hp : p = 4
  · subst hp
    go_enter Try.func5, Try.ntmps5
    go_upto_region 1 with fail
    go_region
    go_wp2_with (go_at_call 14; (with_reducible refine (HA.out _).mono ?_); rintro e w1 ⟨rfl, b1⟩; have c1 := b0.trans (b1.mono b0.size))
    go_ret
    exact ⟨rfl, c1⟩
  have qp : (p == 4) = false := beq_eq_false_iff_ne.2 hp
  by_cases ho : o = 4
  · subst ho
    clear hp
    go_enter Try.func5, Try.ntmps5
    go_upto_region 1 with fail
    go_region
    go_wp2_with (go_at_call 14; (with_reducible refine (HA.out _).mono ?_); rintro e w1 ⟨rfl, b1⟩; have c1 := b0.trans (b1.mono b0.size))
    go_ret
    exact ⟨rfl, c1⟩
  have qo : (o == 4) = false := beq_eq_false_iff_ne.2 ho
  obtain ⟨z, hz⟩ : ∃ z, z = judgeZ p true s n := ⟨_, rfl⟩
  obtain ⟨y, hy⟩ : ∃ z, z = judgeZ o true s n := ⟨_, rfl⟩
  have H1 := Lib.hid (fun W => oJudge_any W p true s n z hz)
  have H2 := Lib.hid (fun W => oJudge_any W o true s n y hy)
  have H3 := Lib.hid (fun W => oJudge_any W p true (!s) n z (by rw [hz, strict_side p s n hp]))
  have hx := strict_in (s := s) (n := n) hp
  have hx2 := strict_in (s := s) (n := n) ho
  rw [← hz] at hx
  rw [← hy] at hx2
  obtain ⟨r1, hr1⟩ : ∃ b, (y == 1) = b := ⟨_, rfl⟩
  have hdo : z = 1 → (decide (n < 20) = false ∧ decide (n > 49) = false ∧ (r1 && (p != o)) = false) := fun e => by
    have h20 : 20 ≤ n ∧ n ≤ 49 := by omega
    refine ⟨decide_eq_false (by omega), decide_eq_false (by omega), ?_⟩
    cases hr : r1 with
    | false => rfl
    | true =>
      rw [hr, beq_iff_eq] at hr1
      have : p = o := by omega
      rw [this]; simp
  obtain ⟨r2, hr2⟩ : ∃ b, (p != o) = b := ⟨_, rfl⟩
  rw [hr2] at hdo
  have hq1 : z = 4 → (n != 1) = false := fun e => by
    have : n = 1 := by omega
    rw [this]; rfl
  have hz3 : z = 0 ∨ z = 1 ∨ z = 4 := by omega
  clear hx hx2 hz hy hp ho
  rcases hz3 with rfl | rfl | rfl
  · clear hdo hq1
    go_enter Try.func5, Try.ntmps5
    go_upto_region 1 with fail
    go_region
    go_wp2_with (first
      | (go_at_call 15; (with_reducible refine (H1.out _).mono ?_); rintro e w2 ⟨rfl, b2⟩; have c2 := b0.trans (b2.mono b0.size))
      | (go_at_call 15; (with_reducible refine (H2.out _).mono ?_); rintro e w3 ⟨rfl, b3⟩; have c3 := c2.trans (b3.mono c2.size))
      | (go_at_call 14; (with_reducible refine (HA.out _).mono ?_); rintro e w4 ⟨rfl, b4⟩; have c4 := c3.trans (b4.mono c3.size))
      | (go_at_call 15; (with_reducible refine (H3.out _).mono ?_); rintro e w5 ⟨rfl, b5⟩; have c5 := c4.trans (b5.mono c4.size))
      | fail)
    go_ret
    exact ⟨rfl, c5⟩
  · obtain ⟨d1, d2, d3⟩ := hdo rfl
    clear hdo hq1
    cases r1 with
    | false =>
      go_enter Try.func5, Try.ntmps5
      go_upto_region 1 with fail
      go_region
      go_wp2_with (first
        | (go_at_call 15; (with_reducible refine (H1.out _).mono ?_); rintro e w2 ⟨rfl, b2⟩; have c2 := b0.trans (b2.mono b0.size))
        | (go_at_call 15; (with_reducible refine (H2.out _).mono ?_); rintro e w3 ⟨rfl, b3⟩; have c3 := c2.trans (b3.mono c2.size))
        | (go_at_call 14; (with_reducible refine (HA.out _).mono ?_); rintro e w4 ⟨rfl, b4⟩; have c4 := c3.trans (b4.mono c3.size))
        | (go_at_call 15; (with_reducible refine (H3.out _).mono ?_); rintro e w5 ⟨rfl, b5⟩; have c5 := c4.trans (b5.mono c4.size))
        | fail)
      go_ret
      exact ⟨rfl, c5⟩
    | true =>
      obtain rfl : r2 = false := by simpa using d3
      clear d3
      go_enter Try.func5, Try.ntmps5
      go_upto_region 1 with fail
      go_region
      go_wp2_with (first
        | (go_at_call 15; (with_reducible refine (H1.out _).mono ?_); rintro e w2 ⟨rfl, b2⟩; have c2 := b0.trans (b2.mono b0.size))
        | (go_at_call 15; (with_reducible refine (H2.out _).mono ?_); rintro e w3 ⟨rfl, b3⟩; have c3 := c2.trans (b3.mono c2.size))
        | (go_at_call 14; (with_reducible refine (HA.out _).mono ?_); rintro e w4 ⟨rfl, b4⟩; have c4 := c3.trans (b4.mono c3.size))
        | (go_at_call 15; (with_reducible refine (H3.out _).mono ?_); rintro e w5 ⟨rfl, b5⟩; have c5 := c4.trans (b5.mono c4.size))
        | fail)
      go_ret
      exact ⟨rfl, c5⟩
  · have q1 := hq1 rfl
    clear hdo hq1
    go_enter Try.func5, Try.ntmps5
    go_upto_region 1 with fail
    go_region
    go_wp2_with (first
      | (go_at_call 15; (with_reducible refine (H1.out _).mono ?_); rintro e w2 ⟨rfl, b2⟩; have c2 := b0.trans (b2.mono b0.size))
      | (go_at_call 15; (with_reducible refine (H2.out _).mono ?_); rintro e w3 ⟨rfl, b3⟩; have c3 := c2.trans (b3.mono c2.size))
      | (go_at_call 14; (with_reducible refine (HA.out _).mono ?_); rintro e w4 ⟨rfl, b4⟩; have c4 := c3.trans (b4.mono c3.size))
      | (go_at_call 15; (with_reducible refine (H3.out _).mono ?_); rintro e w5 ⟨rfl, b5⟩; have c5 := c4.trans (b5.mono c4.size))
      | fail)
    go_ret
    exact ⟨rfl, c5⟩

/-! ### OrderSides -/
theorem sides_in {f : Bool} {n : Int} (h20 : n ≠ 20) (h1 : n ≠ 1) :
    ((judgeZ 4 f false n == 1) && (judgeZ 4 f true n == 1)) = false ∧ (judgeZ 4 f false n == 3) = (judgeZ 4 f true n == 3) ∧ (judgeZ 4 f false n == 4) = false ∧ (judgeZ 4 f true n == 4) = false := by
  unfold judgeZ
  by_cases h2 : (4 : Int) < 1 ∨ (4 : Int) > 4 ∨ n < 0 ∨ n > 255
  · rw [if_pos h2, if_pos h2]; decide
  · rw [if_neg h2, if_neg h2, if_neg h1, if_neg h1, if_pos rfl, if_pos rfl]
    unfold openZ
    simp only [Bool.false_eq_true, false_and, false_or, true_and, or_false, h20, Bool.true_eq_false]
    by_cases k : (formsP n).length > 0 ∨ 30 ≤ n ∧ n ≤ 49
    · simp only [k, if_true]
      refine ⟨?_, ?_, ?_, ?_⟩
      all_goals (repeat' split) <;> first | rfl | omega | simp
    · have k7 : n ≠ 7 := fun e => k (.inl (by rw [e]; decide +kernel))
      have kk : n ≠ 5 ∧ n ≠ 50 ∧ n ≠ 6 ∧ n ≠ 51 ∧ n ≠ 52 ∧ n ≠ 53 ∧ n ≠ 60 := by
        refine ⟨?_, ?_, ?_, ?_, ?_, ?_, ?_⟩ <;> exact fun e => k (.inl (by rw [e]; decide +kernel))
      simp only [k, if_false]
      refine ⟨?_, ?_, ?_, ?_⟩
      all_goals (repeat' split) <;> first | rfl | omega | simp
set_option maxHeartbeats 8000000 in
set_option maxRecDepth 100000 in
theorem OrderSides_any (w : World) (n : Int) (f : Bool) : Calls Try.prog 6 #[.int .i64 n, .bool f] w fun e w' => e = .returned (.bool true) ∧ Below w.heap.size w w' := by
  have HA := Lib.hid awake23_any
  obtain ⟨c, hc⟩ : ∃ z, z = judgeZ 4 f false n := ⟨_, rfl⟩
  obtain ⟨s, hs⟩ : ∃ z, z = judgeZ 4 f true n := ⟨_, rfl⟩
  have H1 := Lib.hid (fun W => oJudge_any W 4 f false n c hc)
  have H2 := Lib.hid (fun W => oJudge_any W 4 f true n s hs)
  by_cases h20 : n = 20
  · subst h20
    obtain rfl : c = 1 := by rw [hc]; rfl
    obtain rfl : s = 1 := by rw [hs]; rfl
    clear hc hs
    go_enter Try.func6, Try.ntmps6
    go_wp2_with (first
      | (go_at_call 15; (with_reducible refine (H1.out _).mono ?_); rintro e w2 ⟨rfl, b2⟩)
      | (go_at_call 15; (with_reducible refine (H2.out _).mono ?_); rintro e w3 ⟨rfl, b3⟩; have c3 := b2.trans (b3.mono b2.size))
      | (go_at_call 14; (with_reducible refine (HA.out _).mono ?_); rintro e w4 ⟨rfl, b4⟩; have c4 := c3.trans (b4.mono c3.size))
      | fail)
    go_ret
    exact ⟨rfl, c4⟩
  by_cases h1 : n = 1
  · subst h1
    obtain rfl : c = 4 := by rw [hc]; rfl
    obtain rfl : s = 4 := by rw [hs]; rfl
    clear hc hs h20
    go_enter Try.func6, Try.ntmps6
    go_wp2_with (first
      | (go_at_call 15; (with_reducible refine (H1.out _).mono ?_); rintro e w2 ⟨rfl, b2⟩)
      | (go_at_call 15; (with_reducible refine (H2.out _).mono ?_); rintro e w3 ⟨rfl, b3⟩; have c3 := b2.trans (b3.mono b2.size))
      | (go_at_call 14; (with_reducible refine (HA.out _).mono ?_); rintro e w4 ⟨rfl, b4⟩; have c4 := c3.trans (b4.mono c3.size))
      | fail)
    go_ret
    exact ⟨rfl, c4⟩
  obtain ⟨g1, g2, g3, g4⟩ := sides_in (f := f) h20 h1
  rw [← hc, ← hs] at g1 g2
  rw [← hc] at g3
  rw [← hs] at g4
  have q20 : (n == 20) = false := beq_eq_false_iff_ne.2 h20
  have q1 : (n == 1) = false := beq_eq_false_iff_ne.2 h1
  clear hc hs h20 h1
  obtain ⟨x3, k3⟩ : ∃ b, (c == 3) = b := ⟨_, rfl⟩
  have k3' : (s == 3) = x3 := by rw [← g2, k3]
  obtain ⟨x1, k1⟩ : ∃ b, (c == 1) = b := ⟨_, rfl⟩
  obtain ⟨y1, m1⟩ : ∃ b, (s == 1) = b := ⟨_, rfl⟩
  rw [k1, m1] at g1
  clear g2
  have HG : x1 = false ∨ (x1 = true ∧ y1 = false) := by cases x1 <;> cases y1 <;> simp_all
  clear g1
  rcases HG with rfl | ⟨rfl, rfl⟩
  all_goals
    cases x3 with
    | true =>
      go_enter Try.func6, Try.ntmps6
      go_wp2_with (first
        | (go_at_call 15; (with_reducible refine (H1.out _).mono ?_); rintro e w2 ⟨rfl, b2⟩)
        | (go_at_call 15; (with_reducible refine (H2.out _).mono ?_); rintro e w3 ⟨rfl, b3⟩; have c3 := b2.trans (b3.mono b2.size))
        | (go_at_call 14; (with_reducible refine (HA.out _).mono ?_); rintro e w4 ⟨rfl, b4⟩; have c4 := c3.trans (b4.mono c3.size))
        | fail)
      go_ret
      exact ⟨rfl, c4⟩
    | false =>
      go_enter Try.func6, Try.ntmps6
      go_wp2_with (first
        | (go_at_call 15; (with_reducible refine (H1.out _).mono ?_); rintro e w2 ⟨rfl, b2⟩)
        | (go_at_call 15; (with_reducible refine (H2.out _).mono ?_); rintro e w3 ⟨rfl, b3⟩; have c3 := b2.trans (b3.mono b2.size))
        | (go_at_call 14; (with_reducible refine (HA.out _).mono ?_); rintro e w4 ⟨rfl, b4⟩; have c4 := c3.trans (b4.mono c3.size))
        | fail)
      go_ret
      exact ⟨rfl, c4⟩
end Go.Proofs.Ytbnecckgapainaa
