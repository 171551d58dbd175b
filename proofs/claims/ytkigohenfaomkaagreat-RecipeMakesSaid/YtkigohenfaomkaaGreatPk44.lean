/- Part 44 of what the statement wants. -/
import Derived.OpenShut
import Derived.WideKeyArgs
import Derived.Deep.Slices
import Derived.Test.YtkigohenfaomkaaGreatPk00
import Derived.Test.YtkigohenfaomkaaGreatPk34
import Derived.Test.YtkigohenfaomkaaGreatPk43
namespace Go.Proofs.YtkigohenfaomkaaGreat
open Go.RowKit

set_option maxHeartbeats 1000000 in
set_option maxRecDepth 100000 in
theorem recipe_any {w : World} {v vo : Value} {l : List MakeR} {ops : List OpR} (hM : MakesAt w v l) (hlm : l.length ≤ maxLen) (hls : ∀ x ∈ l, x.s.length ≤ maxLen) (hO : OpsAt w vo ops) (hom : ops.length ≤ maxLen) (hos : ∀ x ∈ ops, x.s.length ≤ maxLen) (z : Int) :
    Calls Tryz.prog 3 #[v, .int .i64 z, vo] w fun e w' => e = .returned (.bool true) ∧ Below w.heap.size w w' := by
  have HA := Lib.hid awake14_any
  unfold maxLen at hlm hls hom hos
  have hF1 := few_any hM 15 hls hlm
  have hF2 := few14_any hO hos hom
  cases h1 : fewP l 15 with
  | false =>
    rw [h1] at hF1
    have HF1 := Lib.hid hF1
    obtain ⟨am, cm, rfl, _⟩ := hM
    obtain ⟨ao, cap, rfl, _⟩ := hO
    clear hF1 hF2 hls hos h1
    go_enter Tryz.func3, Tryz.ntmps3
    go_wp2_with (first
      | (go_at_call 4; with_reducible refine HF1.out.mono ?_; rintro e w1 ⟨rfl, hw⟩; have hw := hw.symm; subst hw)
      | (go_at_call 6; (with_reducible refine (HA.out _).mono ?_); rintro e w8 ⟨rfl, b8⟩))
    go_ret
    exact ⟨rfl, b8⟩
  | true =>
  cases h2 : fewP14 ops with
  | false =>
    rw [h1] at hF1
    rw [h2] at hF2
    have HF1 := Lib.hid hF1
    have HF2 := Lib.hid hF2
    obtain ⟨am, cm, rfl, _⟩ := hM
    obtain ⟨ao, cap, rfl, _⟩ := hO
    clear hF1 hF2 hls hos h1 h2
    go_enter Tryz.func3, Tryz.ntmps3
    go_wp2_with (first
      | (go_at_call 4; with_reducible refine HF1.out.mono ?_; rintro e w1 ⟨rfl, hw⟩; have hw := hw.symm; subst hw)
      | (go_at_call 5; with_reducible refine HF2.out.mono ?_; rintro e w1 ⟨rfl, hw⟩; have hw := hw.symm; subst hw)
      | (go_at_call 6; (with_reducible refine (HA.out _).mono ?_); rintro e w8 ⟨rfl, b8⟩))
    go_ret
    exact ⟨rfl, b8⟩
  | true =>
  by_cases hz : 0 ≤ z ∧ z ≤ (l.length : Int)
  · obtain ⟨n, rfl⟩ : ∃ n : Nat, z = n := ⟨z.toNat, by omega⟩
    have g1 := of_decide_eq_true h1
    have g2 := of_decide_eq_true h2
    exact recipe_main hM (by omega) g1.2 hO g2.1 g2.2 (by omega)
  · rw [h1] at hF1
    rw [h2] at hF2
    have HF1 := Lib.hid hF1
    have HF2 := Lib.hid hF2
    obtain ⟨am, cm, rfl, _⟩ := hM
    obtain ⟨ao, cap, rfl, _⟩ := hO
    clear hF1 hF2 hls hos h1 h2
    by_cases h0 : z < 0
    · have q1 : decide (z < 0) = true := decide_eq_true h0
      go_enter Tryz.func3, Tryz.ntmps3
      go_wp2_with (first
        | (go_at_call 4; with_reducible refine HF1.out.mono ?_; rintro e w1 ⟨rfl, hw⟩; have hw := hw.symm; subst hw)
        | (go_at_call 5; with_reducible refine HF2.out.mono ?_; rintro e w1 ⟨rfl, hw⟩; have hw := hw.symm; subst hw)
        | (go_at_call 6; (with_reducible refine (HA.out _).mono ?_); rintro e w8 ⟨rfl, b8⟩))
      go_ret
      exact ⟨rfl, b8⟩
    · have q1 : decide (z < 0) = false := decide_eq_false h0
      have q2 : decide (z > (l.length : Int)) = true := decide_eq_true (by omega)
      clear hz
      go_enter Tryz.func3, Tryz.ntmps3
      go_wp2_with (first
        | (go_at_call 4; with_reducible refine HF1.out.mono ?_; rintro e w1 ⟨rfl, hw⟩; have hw := hw.symm; subst hw)
        | (go_at_call 5; with_reducible refine HF2.out.mono ?_; rintro e w1 ⟨rfl, hw⟩; have hw := hw.symm; subst hw)
        | (go_at_call 6; (with_reducible refine (HA.out _).mono ?_); rintro e w8 ⟨rfl, b8⟩))
      go_ret
      exact ⟨rfl, b8⟩
end Go.Proofs.YtkigohenfaomkaaGreat

namespace Go.Proofs.YtkigohenfaomkaaGreat
open Go.RowKit Go.WideShapes Go.ChangeShapes Go.Deep
section
variable {H : Type} {enc : TypeId × Value → H} {w : World} {base : Nat} {spare : Nat → Bool} {held : Bool}
set_option maxRecDepth 100000 in
theorem cellsInt1 : Tryz.prog.cellsOf 3 = 1 := by kernel_rfl
set_option maxRecDepth 100000 in
theorem cellsMake : Tryz.prog.cellsOf 42 = 5 := by kernel_rfl
set_option maxRecDepth 100000 in
theorem cellsStrM : Tryz.prog.cellsOf 9 = 1 := by kernel_rfl

set_option maxRecDepth 100000 in
theorem open_makes {v : Value} {d : DataW H} {p : List MemPlace} {b0 : Nat} (hv : Value.okWide Tryz.prog w .any b0 22 v) (h : DataW.Trod enc Tryz.prog w base (fun _ => true) true 22 v d p) :
    ∃ l : List MakeR, MakesAt w v l ∧ l.length ≤ maxLen ∧ ∀ x ∈ l, x.s.length ≤ maxLen := by
  obtain ⟨ao, n, c, rfl⟩ := okWide_slice Tryz.underlying22 hv
  obtain ⟨fuel, hf⟩ := h
  rcases open_slice Tryz.underlying22 (by simpa [Value.cells] using hf) with ⟨h1, _⟩ | ⟨a, len, cap, m, k, D, Pl, h1, hb, hl, hc, hm, hx, hi⟩
  · simp only [List.cons.injEq, and_true] at h1
    rw [h1]
    exact ⟨[], ⟨none, 0, rfl, fun h => absurd rfl h⟩, by simp, by simp⟩
  · simp only [List.cons.injEq, and_true] at h1
    have hmc : m = cap := by simpa using hm
    have each : ∀ i, i < len → ∃ q : MakeR, (w.cell? (a.add (i * 5)) = some (.int .i64 q.kind) ∧ w.cell? (a.add (i * 5 + 1)) = some (.int .i64 q.a) ∧ w.cell? (a.add (i * 5 + 2)) = some (.int .i64 q.b) ∧ w.cell? (a.add (i * 5 + 3)) = some (.int .i64 q.c) ∧ w.cell? (a.add (i * 5 + 4)) = some (.string (bs q.s))) ∧ q.s.length ≤ maxLen := by
      intro i hil
      obtain ⟨cs', hcs, ht⟩ := hi i (by omega)
      rw [cellsMake] at hcs
      obtain ⟨hb2, hlen, hat⟩ := World.cells?_some hcs
      obtain ⟨xs, m', _, _, _, hxl, hxs⟩ := DataW.trod_struct Tryz.underlying42 ht
      match cs', hlen with
      | [c0, c1, c2, c3, c4], _ =>
        have t0 : DataW.trod enc Tryz.prog w base _ _ m' 3 ((([c0, c1, c2, c3, c4] : List Value).drop 0).take (Tryz.prog.cellsOf 3)) = xs[0]? := hxs 0 _ rfl
        have t1 : DataW.trod enc Tryz.prog w base _ _ m' 3 ((([c0, c1, c2, c3, c4] : List Value).drop 1).take (Tryz.prog.cellsOf 3)) = xs[1]? := hxs 1 _ rfl
        have t2 : DataW.trod enc Tryz.prog w base _ _ m' 3 ((([c0, c1, c2, c3, c4] : List Value).drop 2).take (Tryz.prog.cellsOf 3)) = xs[2]? := hxs 2 _ rfl
        have t3 : DataW.trod enc Tryz.prog w base _ _ m' 3 ((([c0, c1, c2, c3, c4] : List Value).drop 3).take (Tryz.prog.cellsOf 3)) = xs[3]? := hxs 3 _ rfl
        have t4 : DataW.trod enc Tryz.prog w base _ _ m' 9 ((([c0, c1, c2, c3, c4] : List Value).drop 4).take (Tryz.prog.cellsOf 9)) = xs[4]? := hxs 4 _ rfl
        simp only [cellsInt1, cellsStrM] at t0 t1 t2 t3 t4
        match xs, hxl with
        | [y0, y1, y2, y3, y4], _ =>
          simp at t0 t1 t2 t3 t4
          obtain ⟨z0, e0, _, _⟩ := DataW.trod_int Tryz.underlying3 t0
          obtain ⟨z1, e1, _, _⟩ := DataW.trod_int Tryz.underlying3 t1
          obtain ⟨z2, e2, _, _⟩ := DataW.trod_int Tryz.underlying3 t2
          obtain ⟨z3, e3, _, _⟩ := DataW.trod_int Tryz.underlying3 t3
          obtain ⟨z4, e4, _, hz⟩ := DataW.trod_string Tryz.underlying9 t4
          simp at e0 e1 e2 e3 e4
          subst e0 e1 e2 e3 e4
          have a0 := hat 0 (by omega)
          have a1 := hat 1 (by omega)
          have a2 := hat 2 (by omega)
          have a3 := hat 3 (by omega)
          have a4 := hat 4 (by omega)
          simp only [Go.Deep.add_add, Nat.add_zero] at a0 a1 a2 a3 a4
          exact ⟨⟨z0, z1, z2, z3, z4.data.toList⟩, ⟨by simpa using a0, by simpa using a1, by simpa using a2, by simpa using a3, by rw [bs_list]; simpa using a4⟩, by simpa using hz⟩
    rcases Nat.eq_zero_or_pos len with h0 | h0
    · subst h0
      rw [h1]
      exact ⟨[], ⟨some a, cap, rfl, fun h => absurd rfl h⟩, by simp, by simp⟩
    · haveI : Inhabited MakeR := ⟨⟨0, 0, 0, 0, []⟩⟩
      obtain ⟨q, hq⟩ := choose_lt each
      obtain ⟨b, off, spot⟩ := a
      have hspot : spot = none := by simpa [Addr.add] using World.cell?_spot (hq 0 h0).1.1
      subst hspot
      have hblk := World.block_lt_of_cell? w _ (hq 0 h0).1.1
      simp only [Addr.add_lit] at hq hblk
      refine ⟨(List.range len).map q, ⟨some ⟨b, off, none⟩, cap, by rw [h1]; simp, fun _ => ⟨b, off, rfl, hblk, fun k pr hk => ?_⟩⟩, by simp; omega, fun x hx => ?_⟩
      · rw [List.getElem?_map] at hk
        by_cases hkl : k < len
        · rw [List.getElem?_range hkl] at hk
          simp at hk
          subst hk
          have := (hq k hkl).1
          simp only [← Nat.add_assoc] at this
          exact this
        · rw [List.getElem?_eq_none (by simpa using hkl)] at hk
          simp at hk
      · obtain ⟨k, hk, rfl⟩ := List.mem_map.1 hx
        exact (hq k (by simpa using hk)).2
end
end Go.Proofs.YtkigohenfaomkaaGreat
