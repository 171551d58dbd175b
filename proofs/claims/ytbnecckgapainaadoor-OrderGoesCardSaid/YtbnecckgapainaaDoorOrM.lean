/- Layer 23: what may be sent, by the program. -/
import Derived.Test.YtbnecckgapainaaDoorOr1
namespace Go.Proofs.YtbnecckgapainaaDoor
open Go.RowKit

set_option maxHeartbeats 4000000 in
set_option maxRecDepth 100000 in
theorem oMayD_any (w : World) (n : Int) (b : Bool) (hb : b = mayB true n) : Calls Tryd.prog 23 #[.int .i64 n] w fun e w' => e = .returned (.bool b) ∧ w' = w := by
  have HC := Lib.hid (fun W => sClass_any W n)
  obtain ⟨sb, hsb⟩ : ∃ sb, sb = decide (2 ≤ n ∧ n ≤ 4) := ⟨_, rfl⟩
  have HS := Lib.hid (fun W => oSays_any W n sb hsb)
  have k2 := classP_2 n
  have k3 := classP_3 n
  obtain ⟨c2, hc2⟩ : ∃ cb, cb = decide (20 ≤ n ∧ n ≤ 29) := ⟨_, rfl⟩
  obtain ⟨c3, hc3⟩ : ∃ cb, cb = decide (30 ≤ n ∧ n ≤ 49) := ⟨_, rfl⟩
  rw [← hc2] at k2
  rw [← hc3] at k3
  generalize classP n = C at *
  obtain ⟨b1, q1⟩ : ∃ b, (n == 1) = b := ⟨_, rfl⟩
  have hz2 : b = (c2 || c3 || b1 || sb) := by
    rw [hb, hsb, hc2, hc3, ← q1]
    unfold mayB
    rw [if_pos rfl, Bool.eq_iff_iff]
    simp only [Bool.or_eq_true, decide_eq_true_eq, beq_iff_eq]
    omega
  clear hb hsb hc2 hc3
  cases c2 with
  | true =>
    obtain rfl : b = true := by rw [hz2]; rfl
    clear hz2
    go_enter Tryd.func23, Tryd.ntmps23
    go_wp2_with (first
      | (go_at_call 35; (with_reducible refine (HS.out _).mono ?_); rintro e w1 ⟨rfl, rfl⟩)
      | (go_at_call 24; (with_reducible refine (HC.out _).mono ?_); rintro e w2 ⟨rfl, rfl⟩)
      | fail)
    go_ret
    exact ⟨rfl, rfl⟩
  | false =>
    cases c3 with
    | true =>
      obtain rfl : b = true := by rw [hz2]; rfl
      clear hz2
      go_enter Tryd.func23, Tryd.ntmps23
      go_wp2_with (first
        | (go_at_call 35; (with_reducible refine (HS.out _).mono ?_); rintro e w1 ⟨rfl, rfl⟩)
        | (go_at_call 24; (with_reducible refine (HC.out _).mono ?_); rintro e w2 ⟨rfl, rfl⟩)
        | fail)
      go_ret
      exact ⟨rfl, rfl⟩
    | false =>
      cases b1 with
      | true =>
        obtain rfl : b = true := by rw [hz2]; rfl
        clear hz2
        go_enter Tryd.func23, Tryd.ntmps23
        go_wp2_with (first
          | (go_at_call 35; (with_reducible refine (HS.out _).mono ?_); rintro e w1 ⟨rfl, rfl⟩)
          | (go_at_call 24; (with_reducible refine (HC.out _).mono ?_); rintro e w2 ⟨rfl, rfl⟩)
          | fail)
        go_ret
        exact ⟨rfl, rfl⟩
      | false =>
        cases sb with
        | true =>
          obtain rfl : b = true := by rw [hz2]; rfl
          clear hz2
          go_enter Tryd.func23, Tryd.ntmps23
          go_wp2_with (first
            | (go_at_call 35; (with_reducible refine (HS.out _).mono ?_); rintro e w1 ⟨rfl, rfl⟩)
            | (go_at_call 24; (with_reducible refine (HC.out _).mono ?_); rintro e w2 ⟨rfl, rfl⟩)
            | fail)
          go_ret
          exact ⟨rfl, rfl⟩
        | false =>
          obtain rfl : b = false := by rw [hz2]; rfl
          clear hz2
          go_enter Tryd.func23, Tryd.ntmps23
          go_wp2_with (first
            | (go_at_call 35; (with_reducible refine (HS.out _).mono ?_); rintro e w1 ⟨rfl, rfl⟩)
            | (go_at_call 24; (with_reducible refine (HC.out _).mono ?_); rintro e w2 ⟨rfl, rfl⟩)
            | fail)
          go_ret
          exact ⟨rfl, rfl⟩
set_option maxHeartbeats 4000000 in
set_option maxRecDepth 100000 in
theorem oMay_any (w : World) (x : Bool) (n : Int) (b : Bool) (hb : b = mayB x n) : Calls Tryd.prog 5 #[.bool x, .int .i64 n] w fun e w' => e = .returned (.bool b) ∧ w' = w := by
  cases x with
  | true =>
    have HD := Lib.hid (fun W => oMayD_any W n b hb)
    clear hb
    go_enter Tryd.func5, Tryd.ntmps5
    go_wp2_with (first
      | (go_at_call 23; (with_reducible refine (HD.out _).mono ?_); rintro e w3 ⟨rfl, rfl⟩)
      | fail)
    go_ret
    exact ⟨rfl, rfl⟩
  | false =>
    have HC := Lib.hid (fun W => sClass_any W n)
    have k0 := classP_0 n
    have k3 := classP_3 n
    obtain ⟨c0, hc0⟩ : ∃ cb, cb = decide (n < 1 ∨ n > 255) := ⟨_, rfl⟩
    obtain ⟨c3, hc3⟩ : ∃ cb, cb = decide (30 ≤ n ∧ n ≤ 49) := ⟨_, rfl⟩
    rw [← hc0] at k0
    rw [← hc3] at k3
    generalize classP n = C at *
    have n0 : (C != 0) = !c0 := by rw [bne, k0]
    have n3 : (C != 3) = !c3 := by rw [bne, k3]
    obtain ⟨b1, q1⟩ : ∃ b, (n != 21) = b := ⟨_, rfl⟩
    have hz2 : b = (!c0 && !c3 && b1) := by
      rw [hb, hc0, hc3, ← q1]
      unfold mayB
      rw [if_neg (by simp), Bool.eq_iff_iff]
      simp only [Bool.and_eq_true, Bool.not_eq_true', decide_eq_true_eq, decide_eq_false_iff_not, bne_iff_ne]
      omega
    clear hb hc0 hc3 k0 k3
    cases c0 with
    | true =>
      obtain rfl : b = false := by rw [hz2]; rfl
      clear hz2
      go_enter Tryd.func5, Tryd.ntmps5
      go_wp2_with (first
        | (go_at_call 24; (with_reducible refine (HC.out _).mono ?_); rintro e w2 ⟨rfl, rfl⟩)
        | fail)
      go_ret
      exact ⟨rfl, rfl⟩
    | false =>
      cases c3 with
      | true =>
        obtain rfl : b = false := by rw [hz2]; rfl
        clear hz2
        go_enter Tryd.func5, Tryd.ntmps5
        go_wp2_with (first
          | (go_at_call 24; (with_reducible refine (HC.out _).mono ?_); rintro e w2 ⟨rfl, rfl⟩)
          | fail)
        go_ret
        exact ⟨rfl, rfl⟩
      | false =>
        cases b1 with
        | true =>
          obtain rfl : b = true := by rw [hz2]; rfl
          clear hz2
          go_enter Tryd.func5, Tryd.ntmps5
          go_wp2_with (first
            | (go_at_call 24; (with_reducible refine (HC.out _).mono ?_); rintro e w2 ⟨rfl, rfl⟩)
            | fail)
          go_ret
          exact ⟨rfl, rfl⟩
        | false =>
          obtain rfl : b = false := by rw [hz2]; rfl
          clear hz2
          go_enter Tryd.func5, Tryd.ntmps5
          go_wp2_with (first
            | (go_at_call 24; (with_reducible refine (HC.out _).mono ?_); rintro e w2 ⟨rfl, rfl⟩)
            | fail)
          go_ret
          exact ⟨rfl, rfl⟩
end Go.Proofs.YtbnecckgapainaaDoor
