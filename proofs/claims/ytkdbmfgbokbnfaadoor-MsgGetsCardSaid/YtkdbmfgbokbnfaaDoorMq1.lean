/- The document's values of messages. -/
import Derived.Test.YtkdbmfgbokbnfaaDoorMv5
import Derived.Deep.QuietTactic
import Derived.BigQuiet
namespace Go.Proofs.YtkdbmfgbokbnfaaDoor
open Go.RowKit

theorem qB_byte (b : UInt8) (w : World) : Calls Tryd.prog 44 #[.int .u8 (b.toNat : Int)] w fun e w' => e = .returned (.string (bs [b])) ∧ Below w.heap.size w w' := by
  have hcv := run_string_new w [b] (by simp) #[.int .u8 (b.toNat : Int)] (by simp [byteCells])
  simp only [List.length_cons, List.length_nil] at hcv
  generalize b.toNat = n at *
  generalize bs [b] = B at *
  go_enter Tryd.func44, Tryd.ntmps44
  go_wp2
  go_ret
  exact ⟨rfl, (Below.refl _ _).alloc (Nat.le_refl _) _⟩
theorem qB_one (w : World) : Calls Tryd.prog 44 #[.int .u8 1] w fun e w' => e = .returned (.string (bs [1])) ∧ Below w.heap.size w w' := qB_byte 1 w
theorem qBl_any (x : Bool) (w : World) : Calls Tryd.prog 27 #[.bool x] w fun e w' => e = .returned (.string (bs (boolL x))) ∧ Below w.heap.size w w' := by
  cases x with
  | true =>
    go_enter Tryd.func27, Tryd.ntmps27
    go_wp2_with (go_at_call 44; refine (qB_one _).mono ?_; rintro e w1 ⟨rfl, hb⟩)
    go_ret
    exact ⟨rfl, hb⟩
  | false =>
    go_enter Tryd.func27, Tryd.ntmps27
    go_wp2_with (go_at_call 44; refine (qB_zero _).mono ?_; rintro e w1 ⟨rfl, hb⟩)
    go_ret
    exact ⟨rfl, hb⟩

def plainQ (x : FieldR) : Bool :=
  if x.kind.toNat = 98 ∨ x.kind.toNat = 117 then x.s.isEmpty && x.l.isEmpty
  else if x.kind.toNat = 110 ∨ x.kind.toNat = 101 then decide (x.n = 0) && x.s.isEmpty
  else decide (x.n = 0) && x.l.isEmpty

set_option maxRecDepth 100000 in
theorem plain_any {x : FieldR} {v : Value} {w : World} (hv : TextsAt w v (x.l.map bs)) (hs : x.s.length ≤ 1000000) :
    Calls Tryd.prog 26 #[fieldV x v] w fun e w' => e = .returned (.bool (plainQ x)) ∧ Below w.heap.size w w' := by
  obtain ⟨ao, cap, rfl, _⟩ := hv
  rw [List.length_map]
  obtain ⟨kd, n, s, l⟩ := x
  unfold fieldV plainQ
  simp only at *
  have q4 : (n == 0) = decide (n = 0) := by by_cases h : n = 0 <;> simp [h]
  have q5 : ((s.length : Int) == 0) = s.isEmpty := by cases s with
    | nil => rfl
    | cons a r => simp; omega
  have q6 : ((l.length : Int) == 0) = l.isEmpty := by cases l with
    | nil => rfl
    | cons a r => simp; omega
  have hsz := bs_size s
  have each : ∀ j : Nat, kd.toNat = j ∨ ((kd.toNat : Int) == (j : Int)) = false := fun j => by
    by_cases h : kd.toNat = j
    · exact .inl h
    · exact .inr (by rw [beq_eq_false_iff_ne]; omega)
  generalize decide (n = 0) = c4 at *
  generalize s.isEmpty = c5 at *
  generalize l.isEmpty = c6 at *
  generalize bs s = S at *
  generalize l.length = m at *
  generalize s.length = sl at *
  generalize kd.toNat = kn at *
  rcases each 98 with rfl | h1
  · rw [if_pos (.inl rfl)]
    clear each
    go_enter Tryd.func26, Tryd.ntmps26
    go_wp2
    all_goals
      go_ret
      exact ⟨by simp_all, (Below.refl _ _).alloc (Nat.le_refl _) _⟩
  rcases each 117 with rfl | h2
  · rw [if_pos (.inr rfl)]
    clear each
    go_enter Tryd.func26, Tryd.ntmps26
    go_wp2
    all_goals
      go_ret
      exact ⟨by simp_all, (Below.refl _ _).alloc (Nat.le_refl _) _⟩
  have g1 : kn ≠ 98 := by rintro rfl; simp at h1
  have g2 : kn ≠ 117 := by rintro rfl; simp at h2
  rw [if_neg (by omega)]
  rcases each 110 with rfl | h3
  · rw [if_pos (.inl rfl)]
    clear each
    go_enter Tryd.func26, Tryd.ntmps26
    go_wp2
    all_goals
      go_ret
      exact ⟨by simp_all, (Below.refl _ _).alloc (Nat.le_refl _) _⟩
  rcases each 101 with rfl | h4
  · rw [if_pos (.inr rfl)]
    clear each
    go_enter Tryd.func26, Tryd.ntmps26
    go_wp2
    all_goals
      go_ret
      exact ⟨by simp_all, (Below.refl _ _).alloc (Nat.le_refl _) _⟩
  have g3 : kn ≠ 110 := by rintro rfl; simp at h3
  have g4 : kn ≠ 101 := by rintro rfl; simp at h4
  rw [if_neg (by omega)]
  clear each g1 g2 g3 g4
  have z1 : ((kn : Int) == 98) = false := h1
  have z2 : ((kn : Int) == 117) = false := h2
  have z3 : ((kn : Int) == 110) = false := h3
  have z4 : ((kn : Int) == 101) = false := h4
  clear h1 h2 h3 h4
  go_enter Tryd.func26, Tryd.ntmps26
  go_wp2
  all_goals
    go_ret
    exact ⟨by simp_all, (Below.refl _ _).alloc (Nat.le_refl _) _⟩
end Go.Proofs.YtkdbmfgbokbnfaaDoor
