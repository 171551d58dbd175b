/- Layer 11: what is plain of a unit's length; the document's Need. -/
import Derived.Test.YtlalkpgipenkaaaFrN
import Derived.BigRegion
import Derived.Deep.QuietTactic
import Derived.BigQuiet
namespace Go.Proofs.Ytlalkpgipenkaaa
open Go.RowKit

theorem frNeedP_two (s : List UInt8) : (frNeedP s).2 = 0 → 5 ≤ (frNeedP s).1 := by
  unfold frNeedP
  repeat' split
  all_goals (simp <;> try omega)
theorem frHd_index (b : List UInt8) (h : 0 < b.length) (W : World) : (Instr.index 9 (.string (bs b)) (.int .i64 0)).run Try.prog W = .ok (.int .u8 (frHd b : Int)) W := by
  have := index_bs b 0 h W
  rw [show ((0 : Nat) : Int) = 0 from rfl] at this
  rw [this]
  cases b with
  | nil => exact absurd h (by decide)
  | cons c r => rfl
theorem frHd_lt (b : List UInt8) : frHd b < 256 := UInt8.toNat_lt _
theorem frBelN {B : Nat} {w w' : World} (h : Below B w w') (n : Nat) : Below B w (w'.drewN n) := ⟨h.os, h.tape, h.output, h.size, h.block⟩
theorem num4_three {s : List UInt8} (h : 4 ≤ s.length) (h0 : frHd s = 0) : num4 (s.take 4) = (s[1]'(by omega)).toNat * 65536 + (s[2]'(by omega)).toNat * 256 + (s[3]'(by omega)).toNat := by
  match s, h with
  | a :: b :: c :: d :: r, _ =>
    have : a.toNat = 0 := h0
    simp [num4, this]
set_option maxRecDepth 100000 in
theorem rfNeed_any (s : List UInt8) (hs : s.length ≤ 1000000) (w : World) : Calls Try.prog 43 #[.string (bs s)] w fun e w' => e = .returned (.tuple #[.int .i64 ((frNeedP s).1 : Int), .int .i64 ((frNeedP s).2 : Int)]) ∧ Below w.heap.size w w' := by
  have hsz := bs_size s
  by_cases hh : 0 < frHd s
  · have hl : 0 < s.length := by
      cases s with
      | nil => exact absurd hh (by decide)
      | cons b r => simp
    have hi0 := frHd_index s hl
    have HN : Hid (frNeedP s = (0, 2)) := if_pos hh
    have q0 : decide ((s.length : Int) > 0) = true := decide_eq_true (by omega)
    have q1 : decide ((frHd s : Int) > 0) = true := decide_eq_true (by omega)
    generalize frHd s = n at *
    generalize bs s = S at *
    go_enter Try.func43, Try.ntmps43
    go_wp2_with fail
    go_ret2
    exact ⟨by rw [HN.out]; rfl, Below.refl _ _⟩
  · have hN : frNeedP s = if s.length < 4 then (0, 4) else if num4 (s.take 4) = 0 then (0, 3) else if 262144 < num4 (s.take 4) then (0, 2) else (4 + num4 (s.take 4), 0) := if_neg hh
    have hz0 : frHd s = 0 := by omega
    by_cases hl : 0 < s.length
    · have hi0 := frHd_index s hl
      rw [hz0] at hi0
      have hi : ∀ W : World, (Instr.index 9 (.string (bs s)) (.int .i64 0)).run Try.prog W = .ok (.int .u8 0) W := hi0
      have q0 : decide ((s.length : Int) > 0) = true := decide_eq_true (by omega)
      clear hi0
      by_cases h4 : s.length < 4
      · have HN := Lib.hid (hN.trans (if_pos h4))
        have q4 : decide ((s.length : Int) < 4) = true := decide_eq_true (by omega)
        clear hN hh hz0
        generalize bs s = S at *
        go_enter Try.func43, Try.ntmps43
        go_wp2_with fail
        go_ret2
        exact ⟨by rw [HN.out]; rfl, Below.refl _ _⟩
      · have q4 : decide ((s.length : Int) < 4) = false := decide_eq_false (by omega)
        have hN := hN.trans (if_neg h4)
        have i1 : ∀ W : World, (Instr.index 9 (.string (bs s)) (.int .i64 1)).run Try.prog W = .ok (.int .u8 ((s[1]'(by omega)).toNat : Int)) W := fun W => index_bs s 1 (by omega) W
        have i2 : ∀ W : World, (Instr.index 9 (.string (bs s)) (.int .i64 2)).run Try.prog W = .ok (.int .u8 ((s[2]'(by omega)).toNat : Int)) W := fun W => index_bs s 2 (by omega) W
        have i3 : ∀ W : World, (Instr.index 9 (.string (bs s)) (.int .i64 3)).run Try.prog W = .ok (.int .u8 ((s[3]'(by omega)).toNat : Int)) W := fun W => index_bs s 3 (by omega) W
        rw [num4_three (by omega) hz0] at hN
        have l1 := UInt8.toNat_lt (s[1]'(by omega))
        have l2 := UInt8.toNat_lt (s[2]'(by omega))
        have l3 := UInt8.toNat_lt (s[3]'(by omega))
        have hpos : 4 ≤ (bs s).size := by omega
        clear hh hz0
        generalize (s[1]'(by omega)).toNat = a at *
        generalize (s[2]'(by omega)).toNat = b at *
        generalize (s[3]'(by omega)).toNat = c at *
        obtain ⟨n, hn⟩ : ∃ n, n = a * 65536 + b * 256 + c := ⟨_, rfl⟩
        rw [← hn] at hN
        have he : (a : Int) * 65536 + (b : Int) * 256 + (c : Int) = (n : Int) := by omega
        have hn0 : n ≤ 16777215 := by omega
        clear hn
        generalize bs s = S at *
        by_cases h2 : 262144 < n
        · have HN := Lib.hid (hN.trans ((if_neg (by omega)).trans (if_pos h2)))
          have q2 : decide ((n : Int) > 262144) = true := decide_eq_true (by omega)
          clear hN
          go_enter Try.func43, Try.ntmps43
          go_wp2_with fail
          go_quiet (fail)
          go_wp2_with fail
          go_ret2
          exact ⟨by rw [HN.out]; rfl, frBelN (Below.refl _ _) _⟩
        · have q2 : decide ((n : Int) > 262144) = false := decide_eq_false (by omega)
          by_cases h0 : n = 0
          · have HN := Lib.hid (hN.trans (if_pos h0))
            have q0 : ((n : Int) == 0) = true := by rw [beq_iff_eq]; omega
            clear hN
            go_enter Try.func43, Try.ntmps43
            go_wp2_with fail
            go_quiet (fail)
            go_wp2_with fail
            go_ret2
            exact ⟨by rw [HN.out]; rfl, frBelN (Below.refl _ _) _⟩
          · have HN := Lib.hid (hN.trans ((if_neg h0).trans (if_neg h2)))
            have q0 : ((n : Int) == 0) = false := by rw [beq_eq_false_iff_ne]; omega
            clear hN
            go_enter Try.func43, Try.ntmps43
            go_wp2_with fail
            go_quiet (fail)
            go_wp2_with fail
            go_ret2
            exact ⟨by rw [HN.out]; simp, frBelN (Below.refl _ _) _⟩
    · have h4 : s.length < 4 := by omega
      have HN := Lib.hid (hN.trans (if_pos h4))
      have q0 : decide ((s.length : Int) > 0) = false := decide_eq_false (by omega)
      have q4 : decide ((s.length : Int) < 4) = true := decide_eq_true (by omega)
      clear hN hh hz0
      generalize bs s = S at *
      go_enter Try.func43, Try.ntmps43
      go_wp2_with fail
      go_ret2
      exact ⟨by rw [HN.out]; rfl, Below.refl _ _⟩

end Go.Proofs.Ytlalkpgipenkaaa
