/- Names and reasons of numbers. -/
import Derived.Test.YtambeipbpemlkaaDoorFlt5
namespace Go.Proofs.YtambeipbpemlkaaDoor
open Go.RowKit

def namesP : List ByteArray := [⟨#[111, 107]⟩, ⟨#[97, 114, 103]⟩, ⟨#[108, 111, 110, 103]⟩, ⟨#[102, 111, 114, 109]⟩, ⟨#[115, 104, 111, 114, 116]⟩, ⟨#[114, 97, 110, 103, 101]⟩, ⟨#[110, 111, 110, 101]⟩, ⟨#[111, 114, 100, 101, 114]⟩, ⟨#[115, 101, 97, 108]⟩, ⟨#[104, 111, 115, 116]⟩, ⟨#[97, 108, 103]⟩, ⟨#[108, 105, 110, 101]⟩, ⟨#[97, 117, 116, 104]⟩, ⟨#[115, 101, 114, 118, 105, 99, 101]⟩, ⟨#[114, 117, 108, 101]⟩]
def reasonsP : List Int := [0, 2, 2, 2, 2, 3, 2, 2, 5, 9, 3, 8, 14, 7, 2]
/-- A number's name. -/
def nameP (e : Int) : ByteArray := if 0 ≤ e ∧ e < 15 then namesP.getD e.toNat ⟨#[]⟩ else ⟨#[117, 110, 107, 110, 111, 119, 110]⟩
/-- A number's disconnect reason. -/
def reasonP (e : Int) : Int := if 0 ≤ e ∧ e < 15 then reasonsP.getD e.toNat 0 else 11
theorem nameP_out {e : Int} (h : e < 0 ∨ 15 ≤ e) : nameP e = ⟨#[117, 110, 107, 110, 111, 119, 110]⟩ := if_neg (by omega)
theorem reasonP_out {e : Int} (h : e < 0 ∨ 15 ≤ e) : reasonP e = 11 := if_neg (by omega)
theorem e_cases (e : Int) : (e < 0 ∨ 15 ≤ e) ∨ e = 0 ∨ e = 1 ∨ e = 2 ∨ e = 3 ∨ e = 4 ∨ e = 5 ∨ e = 6 ∨ e = 7 ∨ e = 8 ∨ e = 9 ∨ e = 10 ∨ e = 11 ∨ e = 12 ∨ e = 13 ∨ e = 14 := by omega

set_option maxHeartbeats 8000000 in
set_option maxRecDepth 100000 in
theorem fReasonOf_any (e : Int) (w : World) : Calls Tryd.prog 18 #[.int .i64 e] w fun r w' => r = .returned (.int .i64 (reasonP e)) ∧ Below w.heap.size w w' := by
  rcases e_cases e with hout | rfl | rfl | rfl | rfl | rfl | rfl | rfl | rfl | rfl | rfl | rfl | rfl | rfl | rfl | rfl
  · have ho : Hid (reasonP e = 11) := reasonP_out hout
    rw [ho.out]
    have q0 : (e == 0) = false := by rw [beq_eq_false_iff_ne]; omega
    have q1 : (e == 1) = false := by rw [beq_eq_false_iff_ne]; omega
    have q2 : (e == 2) = false := by rw [beq_eq_false_iff_ne]; omega
    have q3 : (e == 3) = false := by rw [beq_eq_false_iff_ne]; omega
    have q4 : (e == 4) = false := by rw [beq_eq_false_iff_ne]; omega
    have q5 : (e == 5) = false := by rw [beq_eq_false_iff_ne]; omega
    have q6 : (e == 6) = false := by rw [beq_eq_false_iff_ne]; omega
    have q7 : (e == 7) = false := by rw [beq_eq_false_iff_ne]; omega
    have q8 : (e == 8) = false := by rw [beq_eq_false_iff_ne]; omega
    have q9 : (e == 9) = false := by rw [beq_eq_false_iff_ne]; omega
    have q10 : (e == 10) = false := by rw [beq_eq_false_iff_ne]; omega
    have q11 : (e == 11) = false := by rw [beq_eq_false_iff_ne]; omega
    have q12 : (e == 12) = false := by rw [beq_eq_false_iff_ne]; omega
    have q13 : (e == 13) = false := by rw [beq_eq_false_iff_ne]; omega
    have q14 : (e == 14) = false := by rw [beq_eq_false_iff_ne]; omega
    clear hout ho
    go_enter Tryd.func18, Tryd.ntmps18
    go_wp2_with fail
    go_ret
    exact ⟨rfl, Below.refl _ _⟩
  · go_enter Tryd.func18, Tryd.ntmps18
    go_wp2_with fail
    go_ret
    exact ⟨rfl, Below.refl _ _⟩
  · go_enter Tryd.func18, Tryd.ntmps18
    go_wp2_with fail
    go_ret
    exact ⟨rfl, Below.refl _ _⟩
  · go_enter Tryd.func18, Tryd.ntmps18
    go_wp2_with fail
    go_ret
    exact ⟨rfl, Below.refl _ _⟩
  · go_enter Tryd.func18, Tryd.ntmps18
    go_wp2_with fail
    go_ret
    exact ⟨rfl, Below.refl _ _⟩
  · go_enter Tryd.func18, Tryd.ntmps18
    go_wp2_with fail
    go_ret
    exact ⟨rfl, Below.refl _ _⟩
  · go_enter Tryd.func18, Tryd.ntmps18
    go_wp2_with fail
    go_ret
    exact ⟨rfl, Below.refl _ _⟩
  · go_enter Tryd.func18, Tryd.ntmps18
    go_wp2_with fail
    go_ret
    exact ⟨rfl, Below.refl _ _⟩
  · go_enter Tryd.func18, Tryd.ntmps18
    go_wp2_with fail
    go_ret
    exact ⟨rfl, Below.refl _ _⟩
  · go_enter Tryd.func18, Tryd.ntmps18
    go_wp2_with fail
    go_ret
    exact ⟨rfl, Below.refl _ _⟩
  · go_enter Tryd.func18, Tryd.ntmps18
    go_wp2_with fail
    go_ret
    exact ⟨rfl, Below.refl _ _⟩
  · go_enter Tryd.func18, Tryd.ntmps18
    go_wp2_with fail
    go_ret
    exact ⟨rfl, Below.refl _ _⟩
  · go_enter Tryd.func18, Tryd.ntmps18
    go_wp2_with fail
    go_ret
    exact ⟨rfl, Below.refl _ _⟩
  · go_enter Tryd.func18, Tryd.ntmps18
    go_wp2_with fail
    go_ret
    exact ⟨rfl, Below.refl _ _⟩
  · go_enter Tryd.func18, Tryd.ntmps18
    go_wp2_with fail
    go_ret
    exact ⟨rfl, Below.refl _ _⟩
  · go_enter Tryd.func18, Tryd.ntmps18
    go_wp2_with fail
    go_ret
    exact ⟨rfl, Below.refl _ _⟩

set_option maxHeartbeats 8000000 in
set_option maxRecDepth 100000 in
theorem ref5Reason_any (e : Int) (w : World) : Calls Tryd.prog 17 #[.int .i64 e] w fun r w' => r = .returned (.int .i64 (reasonP e)) ∧ Below w.heap.size w w' := by
  rcases e_cases e with hout | rfl | rfl | rfl | rfl | rfl | rfl | rfl | rfl | rfl | rfl | rfl | rfl | rfl | rfl | rfl
  · have ho : Hid (reasonP e = 11) := reasonP_out hout
    rw [ho.out]
    clear ho
    rcases hout with h | h
    · have q1 : decide (e < 0) = true := decide_eq_true h
      go_enter Tryd.func17, Tryd.ntmps17
      go_wp2_with fail
      go_ret
      exact ⟨rfl, (Below.refl _ _).alloc (Nat.le_refl _) _⟩
    · have q1 : decide (e < 0) = false := decide_eq_false (by omega)
      have q2 : decide (e ≥ 15) = true := decide_eq_true (by omega)
      go_enter Tryd.func17, Tryd.ntmps17
      go_wp2_with fail
      go_ret
      exact ⟨rfl, (Below.refl _ _).alloc (Nat.le_refl _) _⟩
  · go_enter Tryd.func17, Tryd.ntmps17
    go_wp2_with fail
    go_ret
    exact ⟨rfl, (Below.refl _ _).alloc (Nat.le_refl _) _⟩
  · go_enter Tryd.func17, Tryd.ntmps17
    go_wp2_with fail
    go_ret
    exact ⟨rfl, (Below.refl _ _).alloc (Nat.le_refl _) _⟩
  · go_enter Tryd.func17, Tryd.ntmps17
    go_wp2_with fail
    go_ret
    exact ⟨rfl, (Below.refl _ _).alloc (Nat.le_refl _) _⟩
  · go_enter Tryd.func17, Tryd.ntmps17
    go_wp2_with fail
    go_ret
    exact ⟨rfl, (Below.refl _ _).alloc (Nat.le_refl _) _⟩
  · go_enter Tryd.func17, Tryd.ntmps17
    go_wp2_with fail
    go_ret
    exact ⟨rfl, (Below.refl _ _).alloc (Nat.le_refl _) _⟩
  · go_enter Tryd.func17, Tryd.ntmps17
    go_wp2_with fail
    go_ret
    exact ⟨rfl, (Below.refl _ _).alloc (Nat.le_refl _) _⟩
  · go_enter Tryd.func17, Tryd.ntmps17
    go_wp2_with fail
    go_ret
    exact ⟨rfl, (Below.refl _ _).alloc (Nat.le_refl _) _⟩
  · go_enter Tryd.func17, Tryd.ntmps17
    go_wp2_with fail
    go_ret
    exact ⟨rfl, (Below.refl _ _).alloc (Nat.le_refl _) _⟩
  · go_enter Tryd.func17, Tryd.ntmps17
    go_wp2_with fail
    go_ret
    exact ⟨rfl, (Below.refl _ _).alloc (Nat.le_refl _) _⟩
  · go_enter Tryd.func17, Tryd.ntmps17
    go_wp2_with fail
    go_ret
    exact ⟨rfl, (Below.refl _ _).alloc (Nat.le_refl _) _⟩
  · go_enter Tryd.func17, Tryd.ntmps17
    go_wp2_with fail
    go_ret
    exact ⟨rfl, (Below.refl _ _).alloc (Nat.le_refl _) _⟩
  · go_enter Tryd.func17, Tryd.ntmps17
    go_wp2_with fail
    go_ret
    exact ⟨rfl, (Below.refl _ _).alloc (Nat.le_refl _) _⟩
  · go_enter Tryd.func17, Tryd.ntmps17
    go_wp2_with fail
    go_ret
    exact ⟨rfl, (Below.refl _ _).alloc (Nat.le_refl _) _⟩
  · go_enter Tryd.func17, Tryd.ntmps17
    go_wp2_with fail
    go_ret
    exact ⟨rfl, (Below.refl _ _).alloc (Nat.le_refl _) _⟩
  · go_enter Tryd.func17, Tryd.ntmps17
    go_wp2_with fail
    go_ret
    exact ⟨rfl, (Below.refl _ _).alloc (Nat.le_refl _) _⟩

set_option maxHeartbeats 8000000 in
set_option maxRecDepth 100000 in
theorem eError_any (e : Int) (w : World) : Calls Tryd.prog 40 #[.int .i64 e] w fun r w' => r = .returned (.string (nameP e)) ∧ Below w.heap.size w w' := by
  rcases e_cases e with hout | rfl | rfl | rfl | rfl | rfl | rfl | rfl | rfl | rfl | rfl | rfl | rfl | rfl | rfl | rfl
  · have ho : Hid (nameP e = ⟨#[117, 110, 107, 110, 111, 119, 110]⟩) := nameP_out hout
    rw [ho.out]
    clear ho
    rcases hout with h | h
    · have q1 : decide (e < 0) = true := decide_eq_true h
      go_enter Tryd.func40, Tryd.ntmps40
      go_wp2_with fail
      go_ret
      exact ⟨rfl, (Below.refl _ _).alloc (Nat.le_refl _) _⟩
    · have q1 : decide (e < 0) = false := decide_eq_false (by omega)
      have q2 : decide (e ≥ 15) = true := decide_eq_true (by omega)
      go_enter Tryd.func40, Tryd.ntmps40
      go_wp2_with fail
      go_ret
      exact ⟨rfl, (Below.refl _ _).alloc (Nat.le_refl _) _⟩
  · go_enter Tryd.func40, Tryd.ntmps40
    go_wp2_with fail
    go_ret
    exact ⟨rfl, (Below.refl _ _).alloc (Nat.le_refl _) _⟩
  · go_enter Tryd.func40, Tryd.ntmps40
    go_wp2_with fail
    go_ret
    exact ⟨rfl, (Below.refl _ _).alloc (Nat.le_refl _) _⟩
  · go_enter Tryd.func40, Tryd.ntmps40
    go_wp2_with fail
    go_ret
    exact ⟨rfl, (Below.refl _ _).alloc (Nat.le_refl _) _⟩
  · go_enter Tryd.func40, Tryd.ntmps40
    go_wp2_with fail
    go_ret
    exact ⟨rfl, (Below.refl _ _).alloc (Nat.le_refl _) _⟩
  · go_enter Tryd.func40, Tryd.ntmps40
    go_wp2_with fail
    go_ret
    exact ⟨rfl, (Below.refl _ _).alloc (Nat.le_refl _) _⟩
  · go_enter Tryd.func40, Tryd.ntmps40
    go_wp2_with fail
    go_ret
    exact ⟨rfl, (Below.refl _ _).alloc (Nat.le_refl _) _⟩
  · go_enter Tryd.func40, Tryd.ntmps40
    go_wp2_with fail
    go_ret
    exact ⟨rfl, (Below.refl _ _).alloc (Nat.le_refl _) _⟩
  · go_enter Tryd.func40, Tryd.ntmps40
    go_wp2_with fail
    go_ret
    exact ⟨rfl, (Below.refl _ _).alloc (Nat.le_refl _) _⟩
  · go_enter Tryd.func40, Tryd.ntmps40
    go_wp2_with fail
    go_ret
    exact ⟨rfl, (Below.refl _ _).alloc (Nat.le_refl _) _⟩
  · go_enter Tryd.func40, Tryd.ntmps40
    go_wp2_with fail
    go_ret
    exact ⟨rfl, (Below.refl _ _).alloc (Nat.le_refl _) _⟩
  · go_enter Tryd.func40, Tryd.ntmps40
    go_wp2_with fail
    go_ret
    exact ⟨rfl, (Below.refl _ _).alloc (Nat.le_refl _) _⟩
  · go_enter Tryd.func40, Tryd.ntmps40
    go_wp2_with fail
    go_ret
    exact ⟨rfl, (Below.refl _ _).alloc (Nat.le_refl _) _⟩
  · go_enter Tryd.func40, Tryd.ntmps40
    go_wp2_with fail
    go_ret
    exact ⟨rfl, (Below.refl _ _).alloc (Nat.le_refl _) _⟩
  · go_enter Tryd.func40, Tryd.ntmps40
    go_wp2_with fail
    go_ret
    exact ⟨rfl, (Below.refl _ _).alloc (Nat.le_refl _) _⟩
  · go_enter Tryd.func40, Tryd.ntmps40
    go_wp2_with fail
    go_ret
    exact ⟨rfl, (Below.refl _ _).alloc (Nat.le_refl _) _⟩

set_option maxRecDepth 100000 in
theorem fReason_any {w : World} {v : Value} {path : List ByteArray} {n : Option Int} (hg : TypeOfError w) (hv : ErrAt w v path n) : Calls Tryd.prog 13 #[v] w fun r w' => r = .returned (.int .i64 (reasonP (codeP v n))) ∧ Below w.heap.size w w' := by
  have HC := Lib.hid (fCode_any hg hv)
  have HR := Lib.hid (fReasonOf_any (codeP v n))
  have hkind : (v = .nilIface ∨ ∃ t u, v = .iface t u) := by
    cases hv with
    | none => exact .inl rfl
    | num e => exact .inr ⟨_, _, rfl⟩
    | fault _ _ _ _ => exact .inr ⟨_, _, rfl⟩
  generalize codeP v n = c at *
  clear hg hv
  rcases hkind with rfl | ⟨t0, u0, rfl⟩
  all_goals
    go_enter Tryd.func13, Tryd.ntmps13
    go_wp2_with (first
      | (go_at_call 10; with_reducible refine HC.out.mono ?_; rintro r w1 ⟨rfl, b1⟩)
      | (go_at_call 18; with_reducible refine (HR.out _).mono ?_; rintro r w2 ⟨rfl, b2⟩))
    go_ret
    exact ⟨rfl, b1.trans (b2.mono b1.size)⟩
end Go.Proofs.YtambeipbpemlkaaDoor
