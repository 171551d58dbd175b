/- Layer 14: the terms' lists of a recipe, its evaluation in memory; at, step, given. -/
import Derived.Test.YtlalkpgipenkaaaMkOut
import Derived.Test.YtlalkpgipenkaaaNone
namespace Go.Proofs.Ytlalkpgipenkaaa
open Go.RowKit

def atZ (l : List Int) (i : Int) : Int := if 0 ≤ i ∧ i < l.length then l.getD i.toNat (-1) else -1
theorem atZ_no {l : List Int} {i : Int} (h : i < 0 ∨ (l.length : Int) ≤ i) : atZ l i = -1 := if_neg (by omega)
theorem atZ_at {l : List Int} {k : Nat} (h : k < l.length) : atZ l (k : Int) = l[k] := by
  unfold atZ
  rw [if_pos (by omega)]
  simp [List.getD, h]
def givenZ (had : Int) (l : List Int) (i : Int) : Int := if atZ l i < 0 ∨ had ≤ atZ l i then -1 else atZ l i

set_option maxRecDepth 100000 in
theorem cAt_any {w : World} {v : Value} {l : List Int} (hv : IdsAt w v l) (i : Int) : Calls Try.prog 63 #[v, .int .i64 i] w fun r w' => r = .returned (.int .i64 (atZ l i)) ∧ w' = w := by
  obtain ⟨ao, cap, rfl, hc⟩ := hv
  by_cases h : i < 0 ∨ (l.length : Int) ≤ i
  · rw [atZ_no h]
    clear hc
    generalize l.length = n at *
    by_cases h0 : i < 0
    · have q : decide (i < 0) = true := decide_eq_true h0
      clear h
      go_enter Try.func63, Try.ntmps63
      go_wp2
      go_ret
      exact ⟨rfl, rfl⟩
    · have q : decide (i < 0) = false := decide_eq_false h0
      have q2 : decide ((n : Int) ≤ i) = true := decide_eq_true (by omega)
      clear h
      go_enter Try.func63, Try.ntmps63
      go_wp2
      go_ret
      exact ⟨rfl, rfl⟩
  · obtain ⟨k, rfl⟩ : ∃ k : Nat, i = k := ⟨i.toNat, by omega⟩
    have hk : k < l.length := by omega
    rw [atZ_at hk]
    obtain ⟨b, off, rfl, hb, hat⟩ := hc (by intro e; simp [e] at hk)
    have c0 := hat k l[k] (List.getElem?_eq_getElem hk)
    have q2 : decide (l.length ≤ k) = false := decide_eq_false (by omega)
    generalize l[k] = x at *
    clear hat h
    generalize l.length = n at *
    go_enter Try.func63, Try.ntmps63
    go_wp2
    go_ret
    exact ⟨rfl, rfl⟩

/-- Block E is an evaluation. -/
structure EvAt (w : World) (E A : Nat) (had : Int) (known sent rs : List Int) : Prop where
  ex : ∃ vk vs vr, Holds w E 96 #[.pointer (some ⟨A, 0, none⟩), .int .i64 had, vk, vs, vr] ∧ IdsAt w vk known ∧ IdsAt w vs sent ∧ IdsAt w vr rs

set_option maxRecDepth 100000 in
theorem cStep_any {w : World} {E : Nat} {v : Value} {rs : List Int} (hc : w.cell? ⟨E, 4, none⟩ = some v) (hv : IdsAt w v rs) (i : Int) : Calls Try.prog 71 #[.pointer (some ⟨E, 0, none⟩), .int .i64 i] w fun r w' => r = .returned (.int .i64 (atZ rs i)) ∧ w' = w := by
  have HA := Lib.hid (cAt_any hv i)
  obtain ⟨ao, cap, rfl, -⟩ := hv
  generalize atZ rs i = x at *
  generalize rs.length = n at *
  go_enter Try.func71, Try.ntmps71
  go_wp2_with (go_at_call 63; (with_reducible refine HA.out.mono ?_); rintro r w' ⟨rfl, hw⟩; have hw := hw.symm; subst hw)
  go_ret
  exact ⟨rfl, rfl⟩
set_option maxRecDepth 100000 in
theorem cGiven_any {w : World} {E : Nat} {had : Int} {v : Value} {l : List Int} (hc : w.cell? ⟨E, 1, none⟩ = some (.int .i64 had)) (hv : IdsAt w v l) (i : Int) : Calls Try.prog 70 #[.pointer (some ⟨E, 0, none⟩), v, .int .i64 i] w fun r w' => r = .returned (.int .i64 (givenZ had l i)) ∧ w' = w := by
  have HA := Lib.hid (cAt_any hv i)
  obtain ⟨ao, cap, rfl, -⟩ := hv
  unfold givenZ
  generalize atZ l i = x at *
  generalize l.length = n at *
  by_cases h0 : x < 0
  · rw [if_pos (.inl h0)]
    have q : decide (x < 0) = true := decide_eq_true h0
    go_enter Try.func70, Try.ntmps70
    go_wp2_with (go_at_call 63; (with_reducible refine HA.out.mono ?_); rintro r w' ⟨rfl, hw⟩; have hw := hw.symm; subst hw)
    go_ret
    exact ⟨rfl, rfl⟩
  · have q : decide (x < 0) = false := decide_eq_false h0
    by_cases h1 : had ≤ x
    · rw [if_pos (.inr h1)]
      have q2 : decide (had ≤ x) = true := decide_eq_true h1
      go_enter Try.func70, Try.ntmps70
      go_wp2_with (go_at_call 63; (with_reducible refine HA.out.mono ?_); rintro r w' ⟨rfl, hw⟩; have hw := hw.symm; subst hw)
      go_ret
      exact ⟨rfl, rfl⟩
    · rw [if_neg (by omega)]
      have q2 : decide (had ≤ x) = false := decide_eq_false h1
      go_enter Try.func70, Try.ntmps70
      go_wp2_with (go_at_call 63; (with_reducible refine HA.out.mono ?_); rintro r w' ⟨rfl, hw⟩; have hw := hw.symm; subst hw)
      go_ret
      exact ⟨rfl, rfl⟩
end Go.Proofs.Ytlalkpgipenkaaa
