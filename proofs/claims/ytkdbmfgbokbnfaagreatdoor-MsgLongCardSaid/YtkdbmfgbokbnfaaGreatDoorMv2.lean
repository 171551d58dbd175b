/- What is written of a value: numbers, bytes. -/
import Derived.Test.YtkdbmfgbokbnfaaGreatDoorMv1
namespace Go.Proofs.YtkdbmfgbokbnfaaGreatDoor
open Go.RowKit

abbrev Wrote := List UInt8 × Nat
def wrNum (k n : Int) : Wrote := if k = 98 ∧ (n = 0 ∨ n = 1) then (boolL (decide (n = 1)), 0) else if k = 117 ∧ 0 ≤ n ∧ n ≤ 4294967295 then (pack4 n.toNat, 0) else ([], 5)
def wroteV (p : Wrote) : Ending := .returned (.tuple #[.string (bs p.1), .int .i64 (p.2 : Int)])

theorem wrap_u64 (n : Int) : IntKind.u64.wrap n = n % 18446744073709551616 := rfl
theorem wrap_u32 (n : Int) : IntKind.u32.wrap n = n % 4294967296 := rfl

set_option maxRecDepth 100000 in
theorem number_any (k n : Int) (hn : -9223372036854775808 ≤ n ∧ n ≤ 9223372036854775807) (w : World) : Calls Tryz.prog 35 #[.int .i32 k, .int .i64 n] w fun e w' => e = wroteV (wrNum k n) ∧ Below w.heap.size w w' := by
  unfold wroteV
  by_cases h98 : k = 98
  · subst h98
    have HB0 := Lib.hid (fun W => wBool_any false W)
    have HB1 := Lib.hid (fun W => wBool_any true W)
    by_cases h0 : n = 0
    · subst h0
      have HW : Hid (wrNum 98 0 = (boolL false, 0)) := rfl
      rw [HW.out]
      clear HB1
      go_enter Tryz.func35, Tryz.ntmps35
      go_wp2_with (go_at_call 56; with_reducible refine (HB0.out _).mono ?_; rintro e w1 ⟨rfl, b1⟩)
      go_ret2
      exact ⟨rfl, b1⟩
    · by_cases h1 : n = 1
      · subst h1
        have HW : Hid (wrNum 98 1 = (boolL true, 0)) := rfl
        rw [HW.out]
        go_enter Tryz.func35, Tryz.ntmps35
        go_wp2_with (go_at_call 56; with_reducible refine (HB1.out _).mono ?_; rintro e w1 ⟨rfl, b1⟩)
        go_ret2
        exact ⟨rfl, b1⟩
      · have hw : wrNum 98 n = ([], 5) := by unfold wrNum; rw [if_neg (by omega), if_neg (by omega)]
        rw [hw]
        have q0 : (n == 0) = false := by simpa using h0
        have q1 : (n == 1) = false := by simpa using h1
        clear hw h0 h1 HB0 HB1
        go_enter Tryz.func35, Tryz.ntmps35
        go_wp2
        go_ret2
        exact ⟨rfl, Below.refl _ _⟩
  · have q98 : (k == 98) = false := by simpa using h98
    by_cases h117 : k = 117
    · subst h117
      by_cases hr : 0 ≤ n ∧ n ≤ 4294967295
      · obtain ⟨m, rfl⟩ : ∃ m : Nat, n = m := ⟨n.toNat, by omega⟩
        have hw : wrNum 117 m = (pack4 m, 0) := by unfold wrNum; rw [if_neg (by omega), if_pos ⟨rfl, hr⟩]; rfl
        rw [hw]
        have HU := Lib.hid (U32_any m (by omega))
        have w1 : IntKind.u64.wrap (m : Int) = m := by rw [wrap_u64]; omega
        have w2 : IntKind.u32.wrap (m : Int) = m := by rw [wrap_u32]; omega
        have hle : (m : Int) ≤ 4294967295 := hr.2
        generalize bs (pack4 m) = P at *
        clear hw hr hn
        go_enter Tryz.func35, Tryz.ntmps35
        go_wp2_with (go_at_call 57; with_reducible refine (HU.out _).mono ?_; rintro e w1 ⟨rfl, b1⟩)
        go_ret2
        exact ⟨rfl, b1⟩
      · have hw : wrNum 117 n = ([], 5) := by unfold wrNum; rw [if_neg (by omega), if_neg (by omega)]
        rw [hw]
        have q0 : ¬ IntKind.u64.wrap n ≤ 4294967295 := by
          rw [wrap_u64]
          omega
        clear hw hr hn
        have q1 : decide (IntKind.u64.wrap n ≤ 4294967295) = false := decide_eq_false q0
        go_enter Tryz.func35, Tryz.ntmps35
        go_wp2
        go_ret2
        exact ⟨rfl, Below.refl _ _⟩
    · have q117 : (k == 117) = false := by simpa using h117
      have hw : wrNum k n = ([], 5) := by unfold wrNum; rw [if_neg (by omega), if_neg (by omega)]
      rw [hw]
      clear hw h98 h117 hn
      go_enter Tryz.func35, Tryz.ntmps35
      go_wp2
      go_ret2
      exact ⟨rfl, Below.refl _ _⟩
end Go.Proofs.YtkdbmfgbokbnfaaGreatDoor
