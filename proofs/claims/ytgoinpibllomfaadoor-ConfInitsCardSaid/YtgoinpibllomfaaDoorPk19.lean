/- Part 19 of what the statement wants. -/
import Derived.Laws.NewBlocks
import Derived.Deep.AppendLies
import Derived.Test.YtgoinpibllomfaaDoorPk00
import Derived.Test.YtgoinpibllomfaaDoorPk18
namespace Go.Proofs.YtgoinpibllomfaaDoor
open Go.RowKit

theorem and_127 (a : Nat) (ha : a < 9223372036854775808) : bits .and .i64 (a : Int) 127 = ((a % 128 : Nat) : Int) := by
  have hx : a &&& 127 = a % 128 := Nat.and_two_pow_sub_one_eq_mod a 7
  show IntKind.i64.wrap ((BitVec.ofInt 64 (a : Int) &&& BitVec.ofInt 64 (127 : Int)).toNat : Int) = _
  rw [BitVec.toNat_and, ofInt64 a ha, show (BitVec.ofInt 64 (127 : Int)).toNat = 127 from by decide, hx, IntKind.wrap_i64]
  omega
def dig (m j : Nat) : Value := .int .u8 ((m / 128 ^ j % 128 : Nat) : Int)
def sevenC (m : Nat) : Nat → Array Value
  | 0 => #[.int .u8 0, .int .u8 0, .int .u8 0, .int .u8 0, .int .u8 0, .int .u8 0, .int .u8 0]
  | 1 => #[.int .u8 0, .int .u8 0, .int .u8 0, .int .u8 0, .int .u8 0, .int .u8 0, dig m 0]
  | 2 => #[.int .u8 0, .int .u8 0, .int .u8 0, .int .u8 0, .int .u8 0, dig m 1, dig m 0]
  | 3 => #[.int .u8 0, .int .u8 0, .int .u8 0, .int .u8 0, dig m 2, dig m 1, dig m 0]
  | 4 => #[.int .u8 0, .int .u8 0, .int .u8 0, dig m 3, dig m 2, dig m 1, dig m 0]
  | 5 => #[.int .u8 0, .int .u8 0, dig m 4, dig m 3, dig m 2, dig m 1, dig m 0]
  | 6 => #[.int .u8 0, dig m 5, dig m 4, dig m 3, dig m 2, dig m 1, dig m 0]
  | _ => #[dig m 6, dig m 5, dig m 4, dig m 3, dig m 2, dig m 1, dig m 0]

set_option maxHeartbeats 1000000 in
set_option maxRecDepth 100000 in
theorem sevens_raw (n : Int) (hn : n < 9223372036854775808) (w : World) : Calls Tryd.prog 54 #[.int .i64 n] w fun e w' => e = .returned (.slice (some ⟨w.heap.size, 0, none⟩) 7 7) ∧ w' = w.alloc (.cells (sevenC n.toNat 7) 113) := by
  obtain ⟨m, hm⟩ : ∃ m, m = n.toNat := ⟨_, rfl⟩
  have hmax : max n 0 = (m : Int) := by omega
  have hml : m < 9223372036854775808 := by omega
  rw [← hm]
  have HMax := Lib.hid hmax
  clear hm hmax
  first
    | (go_enter Tryd.func54, Tryd.ntmps54
       go_wp2_with fail
       · have HM0 : Hid (m = 0) := by
           have := HMax.out
           show m = 0
           omega
         clear HMax
         go_loopw [0, 4] (fun v i wr => ∃ k : Nat, k ≤ 7 ∧ i = .int .i64 (6 - (k : Int)) ∧ v = .int .i64 ((m / 128 ^ k : Nat) : Int) ∧ wr = w.alloc (.cells (sevenC m k) 113)) (fun _ i _ => (intOf i + 1).toNat)
         case atStart => exact ⟨0, Nat.zero_le _, rfl, by rw [HM0.out]; rfl, rfl⟩
         case round =>
           obtain ⟨k, hk, rfl, rfl, rfl⟩ := hrel
           have hx : m / 128 ^ k < 9223372036854775808 := Nat.lt_of_le_of_lt (Nat.div_le_self _ _) hml
           have hand := and_127 _ hx
           have hnext : m / 128 ^ (k + 1) = m / 128 ^ k / 128 := by rw [Nat.pow_succ, Nat.div_div_eq_div_mul]
           have HN := Lib.hid hnext
           have HD : Hid (dig m k = .int .u8 ((m / 128 ^ k % 128 : Nat) : Int)) := rfl
           have hd : m / 128 ^ k % 128 < 128 := Nat.mod_lt _ (by omega)
           clear hnext
           match k, hk with
           | 0, _ =>
             unfold sevenC
             obtain ⟨x, hxe⟩ : ∃ x, x = m / 128 ^ 0 := ⟨_, rfl⟩
             rw [← hxe] at hx hand HN HD hd ⊢
             obtain ⟨y, hye⟩ : ∃ y, y = x % 128 := ⟨_, rfl⟩
             rw [← hye] at hand HD hd
             clear hye hxe
             go_wp2_with fail
             go_roundw
             case rel => exact ⟨1, by omega, by go_num, by rw [HN.out]; go_num, by show _ = w.alloc (.cells (sevenC m 1) _); unfold sevenC; rw [HD.out]; try rfl⟩
             case measure => simp [intOf]; try omega
           | 1, _ =>
             unfold sevenC
             obtain ⟨x, hxe⟩ : ∃ x, x = m / 128 ^ 1 := ⟨_, rfl⟩
             rw [← hxe] at hx hand HN HD hd ⊢
             obtain ⟨y, hye⟩ : ∃ y, y = x % 128 := ⟨_, rfl⟩
             rw [← hye] at hand HD hd
             clear hye hxe
             go_wp2_with fail
             go_roundw
             case rel => exact ⟨2, by omega, by go_num, by rw [HN.out]; go_num, by show _ = w.alloc (.cells (sevenC m 2) _); unfold sevenC; rw [HD.out]; try rfl⟩
             case measure => simp [intOf]; try omega
           | 2, _ =>
             unfold sevenC
             obtain ⟨x, hxe⟩ : ∃ x, x = m / 128 ^ 2 := ⟨_, rfl⟩
             rw [← hxe] at hx hand HN HD hd ⊢
             obtain ⟨y, hye⟩ : ∃ y, y = x % 128 := ⟨_, rfl⟩
             rw [← hye] at hand HD hd
             clear hye hxe
             go_wp2_with fail
             go_roundw
             case rel => exact ⟨3, by omega, by go_num, by rw [HN.out]; go_num, by show _ = w.alloc (.cells (sevenC m 3) _); unfold sevenC; rw [HD.out]; try rfl⟩
             case measure => simp [intOf]; try omega
           | 3, _ =>
             unfold sevenC
             obtain ⟨x, hxe⟩ : ∃ x, x = m / 128 ^ 3 := ⟨_, rfl⟩
             rw [← hxe] at hx hand HN HD hd ⊢
             obtain ⟨y, hye⟩ : ∃ y, y = x % 128 := ⟨_, rfl⟩
             rw [← hye] at hand HD hd
             clear hye hxe
             go_wp2_with fail
             go_roundw
             case rel => exact ⟨4, by omega, by go_num, by rw [HN.out]; go_num, by show _ = w.alloc (.cells (sevenC m 4) _); unfold sevenC; rw [HD.out]; try rfl⟩
             case measure => simp [intOf]; try omega
           | 4, _ =>
             unfold sevenC
             obtain ⟨x, hxe⟩ : ∃ x, x = m / 128 ^ 4 := ⟨_, rfl⟩
             rw [← hxe] at hx hand HN HD hd ⊢
             obtain ⟨y, hye⟩ : ∃ y, y = x % 128 := ⟨_, rfl⟩
             rw [← hye] at hand HD hd
             clear hye hxe
             go_wp2_with fail
             go_roundw
             case rel => exact ⟨5, by omega, by go_num, by rw [HN.out]; go_num, by show _ = w.alloc (.cells (sevenC m 5) _); unfold sevenC; rw [HD.out]; try rfl⟩
             case measure => simp [intOf]; try omega
           | 5, _ =>
             unfold sevenC
             obtain ⟨x, hxe⟩ : ∃ x, x = m / 128 ^ 5 := ⟨_, rfl⟩
             rw [← hxe] at hx hand HN HD hd ⊢
             obtain ⟨y, hye⟩ : ∃ y, y = x % 128 := ⟨_, rfl⟩
             rw [← hye] at hand HD hd
             clear hye hxe
             go_wp2_with fail
             go_roundw
             case rel => exact ⟨6, by omega, by go_num, by rw [HN.out]; go_num, by show _ = w.alloc (.cells (sevenC m 6) _); unfold sevenC; rw [HD.out]; try rfl⟩
             case measure => simp [intOf]; try omega
           | 6, _ =>
             unfold sevenC
             obtain ⟨x, hxe⟩ : ∃ x, x = m / 128 ^ 6 := ⟨_, rfl⟩
             rw [← hxe] at hx hand HN HD hd ⊢
             obtain ⟨y, hye⟩ : ∃ y, y = x % 128 := ⟨_, rfl⟩
             rw [← hye] at hand HD hd
             clear hye hxe
             go_wp2_with fail
             go_roundw
             case rel => exact ⟨7, by omega, by go_num, by rw [HN.out]; go_num, by show _ = w.alloc (.cells (sevenC m 7) _); unfold sevenC; rw [HD.out]; try rfl⟩
             case measure => simp [intOf]; try omega
           | 7, _ =>
             clear hx hand HN HD hd
             generalize m / 128 ^ 7 = x at *
             go_wp2_with fail
             go_ret
             exact ⟨rfl, rfl⟩
           | k + 8, h => exact absurd h (by omega)
       · obtain rfl : n = (m : Int) := by have := HMax.out; omega
         clear HMax
         go_loopw [0, 4] (fun v i wr => ∃ k : Nat, k ≤ 7 ∧ i = .int .i64 (6 - (k : Int)) ∧ v = .int .i64 ((m / 128 ^ k : Nat) : Int) ∧ wr = w.alloc (.cells (sevenC m k) 113)) (fun _ i _ => (intOf i + 1).toNat)
         case atStart => exact ⟨0, Nat.zero_le _, rfl, by simp, rfl⟩
         case round =>
           obtain ⟨k, hk, rfl, rfl, rfl⟩ := hrel
           have hx : m / 128 ^ k < 9223372036854775808 := Nat.lt_of_le_of_lt (Nat.div_le_self _ _) hml
           have hand := and_127 _ hx
           have hnext : m / 128 ^ (k + 1) = m / 128 ^ k / 128 := by rw [Nat.pow_succ, Nat.div_div_eq_div_mul]
           have HN := Lib.hid hnext
           have HD : Hid (dig m k = .int .u8 ((m / 128 ^ k % 128 : Nat) : Int)) := rfl
           have hd : m / 128 ^ k % 128 < 128 := Nat.mod_lt _ (by omega)
           clear hnext
           match k, hk with
           | 0, _ =>
             unfold sevenC
             obtain ⟨x, hxe⟩ : ∃ x, x = m / 128 ^ 0 := ⟨_, rfl⟩
             rw [← hxe] at hx hand HN HD hd ⊢
             obtain ⟨y, hye⟩ : ∃ y, y = x % 128 := ⟨_, rfl⟩
             rw [← hye] at hand HD hd
             clear hye hxe
             go_wp2_with fail
             go_roundw
             case rel => exact ⟨1, by omega, by go_num, by rw [HN.out]; go_num, by show _ = w.alloc (.cells (sevenC m 1) _); unfold sevenC; rw [HD.out]; try rfl⟩
             case measure => simp [intOf]; try omega
           | 1, _ =>
             unfold sevenC
             obtain ⟨x, hxe⟩ : ∃ x, x = m / 128 ^ 1 := ⟨_, rfl⟩
             rw [← hxe] at hx hand HN HD hd ⊢
             obtain ⟨y, hye⟩ : ∃ y, y = x % 128 := ⟨_, rfl⟩
             rw [← hye] at hand HD hd
             clear hye hxe
             go_wp2_with fail
             go_roundw
             case rel => exact ⟨2, by omega, by go_num, by rw [HN.out]; go_num, by show _ = w.alloc (.cells (sevenC m 2) _); unfold sevenC; rw [HD.out]; try rfl⟩
             case measure => simp [intOf]; try omega
           | 2, _ =>
             unfold sevenC
             obtain ⟨x, hxe⟩ : ∃ x, x = m / 128 ^ 2 := ⟨_, rfl⟩
             rw [← hxe] at hx hand HN HD hd ⊢
             obtain ⟨y, hye⟩ : ∃ y, y = x % 128 := ⟨_, rfl⟩
             rw [← hye] at hand HD hd
             clear hye hxe
             go_wp2_with fail
             go_roundw
             case rel => exact ⟨3, by omega, by go_num, by rw [HN.out]; go_num, by show _ = w.alloc (.cells (sevenC m 3) _); unfold sevenC; rw [HD.out]; try rfl⟩
             case measure => simp [intOf]; try omega
           | 3, _ =>
             unfold sevenC
             obtain ⟨x, hxe⟩ : ∃ x, x = m / 128 ^ 3 := ⟨_, rfl⟩
             rw [← hxe] at hx hand HN HD hd ⊢
             obtain ⟨y, hye⟩ : ∃ y, y = x % 128 := ⟨_, rfl⟩
             rw [← hye] at hand HD hd
             clear hye hxe
             go_wp2_with fail
             go_roundw
             case rel => exact ⟨4, by omega, by go_num, by rw [HN.out]; go_num, by show _ = w.alloc (.cells (sevenC m 4) _); unfold sevenC; rw [HD.out]; try rfl⟩
             case measure => simp [intOf]; try omega
           | 4, _ =>
             unfold sevenC
             obtain ⟨x, hxe⟩ : ∃ x, x = m / 128 ^ 4 := ⟨_, rfl⟩
             rw [← hxe] at hx hand HN HD hd ⊢
             obtain ⟨y, hye⟩ : ∃ y, y = x % 128 := ⟨_, rfl⟩
             rw [← hye] at hand HD hd
             clear hye hxe
             go_wp2_with fail
             go_roundw
             case rel => exact ⟨5, by omega, by go_num, by rw [HN.out]; go_num, by show _ = w.alloc (.cells (sevenC m 5) _); unfold sevenC; rw [HD.out]; try rfl⟩
             case measure => simp [intOf]; try omega
           | 5, _ =>
             unfold sevenC
             obtain ⟨x, hxe⟩ : ∃ x, x = m / 128 ^ 5 := ⟨_, rfl⟩
             rw [← hxe] at hx hand HN HD hd ⊢
             obtain ⟨y, hye⟩ : ∃ y, y = x % 128 := ⟨_, rfl⟩
             rw [← hye] at hand HD hd
             clear hye hxe
             go_wp2_with fail
             go_roundw
             case rel => exact ⟨6, by omega, by go_num, by rw [HN.out]; go_num, by show _ = w.alloc (.cells (sevenC m 6) _); unfold sevenC; rw [HD.out]; try rfl⟩
             case measure => simp [intOf]; try omega
           | 6, _ =>
             unfold sevenC
             obtain ⟨x, hxe⟩ : ∃ x, x = m / 128 ^ 6 := ⟨_, rfl⟩
             rw [← hxe] at hx hand HN HD hd ⊢
             obtain ⟨y, hye⟩ : ∃ y, y = x % 128 := ⟨_, rfl⟩
             rw [← hye] at hand HD hd
             clear hye hxe
             go_wp2_with fail
             go_roundw
             case rel => exact ⟨7, by omega, by go_num, by rw [HN.out]; go_num, by show _ = w.alloc (.cells (sevenC m 7) _); unfold sevenC; rw [HD.out]; try rfl⟩
             case measure => simp [intOf]; try omega
           | 7, _ =>
             clear hx hand HN HD hd
             generalize m / 128 ^ 7 = x at *
             go_wp2_with fail
             go_ret
             exact ⟨rfl, rfl⟩
           | k + 8, h => exact absurd h (by omega))
    | (by_cases h0 : n ≤ 0
       · have e0 : max n 0 = 0 := by omega
         go_enter Tryd.func54, Tryd.ntmps54
         go_wp2_with fail
         have HM0 : Hid (m = 0) := by
           have := HMax.out
           show m = 0
           omega
         clear HMax
         go_loopw [0, 4] (fun v i wr => ∃ k : Nat, k ≤ 7 ∧ i = .int .i64 (6 - (k : Int)) ∧ v = .int .i64 ((m / 128 ^ k : Nat) : Int) ∧ wr = w.alloc (.cells (sevenC m k) 113)) (fun _ i _ => (intOf i + 1).toNat)
         case atStart => exact ⟨0, Nat.zero_le _, rfl, by rw [HM0.out]; rfl, rfl⟩
         case round =>
           obtain ⟨k, hk, rfl, rfl, rfl⟩ := hrel
           have hx : m / 128 ^ k < 9223372036854775808 := Nat.lt_of_le_of_lt (Nat.div_le_self _ _) hml
           have hand := and_127 _ hx
           have hnext : m / 128 ^ (k + 1) = m / 128 ^ k / 128 := by rw [Nat.pow_succ, Nat.div_div_eq_div_mul]
           have HN := Lib.hid hnext
           have HD : Hid (dig m k = .int .u8 ((m / 128 ^ k % 128 : Nat) : Int)) := rfl
           have hd : m / 128 ^ k % 128 < 128 := Nat.mod_lt _ (by omega)
           clear hnext
           match k, hk with
           | 0, _ =>
             unfold sevenC
             obtain ⟨x, hxe⟩ : ∃ x, x = m / 128 ^ 0 := ⟨_, rfl⟩
             rw [← hxe] at hx hand HN HD hd ⊢
             obtain ⟨y, hye⟩ : ∃ y, y = x % 128 := ⟨_, rfl⟩
             rw [← hye] at hand HD hd
             clear hye hxe
             go_wp2_with fail
             go_roundw
             case rel => exact ⟨1, by omega, by go_num, by rw [HN.out]; go_num, by show _ = w.alloc (.cells (sevenC m 1) _); unfold sevenC; rw [HD.out]; try rfl⟩
             case measure => simp [intOf]; try omega
           | 1, _ =>
             unfold sevenC
             obtain ⟨x, hxe⟩ : ∃ x, x = m / 128 ^ 1 := ⟨_, rfl⟩
             rw [← hxe] at hx hand HN HD hd ⊢
             obtain ⟨y, hye⟩ : ∃ y, y = x % 128 := ⟨_, rfl⟩
             rw [← hye] at hand HD hd
             clear hye hxe
             go_wp2_with fail
             go_roundw
             case rel => exact ⟨2, by omega, by go_num, by rw [HN.out]; go_num, by show _ = w.alloc (.cells (sevenC m 2) _); unfold sevenC; rw [HD.out]; try rfl⟩
             case measure => simp [intOf]; try omega
           | 2, _ =>
             unfold sevenC
             obtain ⟨x, hxe⟩ : ∃ x, x = m / 128 ^ 2 := ⟨_, rfl⟩
             rw [← hxe] at hx hand HN HD hd ⊢
             obtain ⟨y, hye⟩ : ∃ y, y = x % 128 := ⟨_, rfl⟩
             rw [← hye] at hand HD hd
             clear hye hxe
             go_wp2_with fail
             go_roundw
             case rel => exact ⟨3, by omega, by go_num, by rw [HN.out]; go_num, by show _ = w.alloc (.cells (sevenC m 3) _); unfold sevenC; rw [HD.out]; try rfl⟩
             case measure => simp [intOf]; try omega
           | 3, _ =>
             unfold sevenC
             obtain ⟨x, hxe⟩ : ∃ x, x = m / 128 ^ 3 := ⟨_, rfl⟩
             rw [← hxe] at hx hand HN HD hd ⊢
             obtain ⟨y, hye⟩ : ∃ y, y = x % 128 := ⟨_, rfl⟩
             rw [← hye] at hand HD hd
             clear hye hxe
             go_wp2_with fail
             go_roundw
             case rel => exact ⟨4, by omega, by go_num, by rw [HN.out]; go_num, by show _ = w.alloc (.cells (sevenC m 4) _); unfold sevenC; rw [HD.out]; try rfl⟩
             case measure => simp [intOf]; try omega
           | 4, _ =>
             unfold sevenC
             obtain ⟨x, hxe⟩ : ∃ x, x = m / 128 ^ 4 := ⟨_, rfl⟩
             rw [← hxe] at hx hand HN HD hd ⊢
             obtain ⟨y, hye⟩ : ∃ y, y = x % 128 := ⟨_, rfl⟩
             rw [← hye] at hand HD hd
             clear hye hxe
             go_wp2_with fail
             go_roundw
             case rel => exact ⟨5, by omega, by go_num, by rw [HN.out]; go_num, by show _ = w.alloc (.cells (sevenC m 5) _); unfold sevenC; rw [HD.out]; try rfl⟩
             case measure => simp [intOf]; try omega
           | 5, _ =>
             unfold sevenC
             obtain ⟨x, hxe⟩ : ∃ x, x = m / 128 ^ 5 := ⟨_, rfl⟩
             rw [← hxe] at hx hand HN HD hd ⊢
             obtain ⟨y, hye⟩ : ∃ y, y = x % 128 := ⟨_, rfl⟩
             rw [← hye] at hand HD hd
             clear hye hxe
             go_wp2_with fail
             go_roundw
             case rel => exact ⟨6, by omega, by go_num, by rw [HN.out]; go_num, by show _ = w.alloc (.cells (sevenC m 6) _); unfold sevenC; rw [HD.out]; try rfl⟩
             case measure => simp [intOf]; try omega
           | 6, _ =>
             unfold sevenC
             obtain ⟨x, hxe⟩ : ∃ x, x = m / 128 ^ 6 := ⟨_, rfl⟩
             rw [← hxe] at hx hand HN HD hd ⊢
             obtain ⟨y, hye⟩ : ∃ y, y = x % 128 := ⟨_, rfl⟩
             rw [← hye] at hand HD hd
             clear hye hxe
             go_wp2_with fail
             go_roundw
             case rel => exact ⟨7, by omega, by go_num, by rw [HN.out]; go_num, by show _ = w.alloc (.cells (sevenC m 7) _); unfold sevenC; rw [HD.out]; try rfl⟩
             case measure => simp [intOf]; try omega
           | 7, _ =>
             clear hx hand HN HD hd
             generalize m / 128 ^ 7 = x at *
             go_wp2_with fail
             go_ret
             exact ⟨rfl, rfl⟩
           | k + 8, h => exact absurd h (by omega)
       · have e0 : max n 0 = n := by omega
         go_enter Tryd.func54, Tryd.ntmps54
         go_wp2_with fail
         clear e0
         obtain rfl : n = (m : Int) := by have := HMax.out; omega
         clear HMax
         go_loopw [0, 4] (fun v i wr => ∃ k : Nat, k ≤ 7 ∧ i = .int .i64 (6 - (k : Int)) ∧ v = .int .i64 ((m / 128 ^ k : Nat) : Int) ∧ wr = w.alloc (.cells (sevenC m k) 113)) (fun _ i _ => (intOf i + 1).toNat)
         case atStart => exact ⟨0, Nat.zero_le _, rfl, by simp, rfl⟩
         case round =>
           obtain ⟨k, hk, rfl, rfl, rfl⟩ := hrel
           have hx : m / 128 ^ k < 9223372036854775808 := Nat.lt_of_le_of_lt (Nat.div_le_self _ _) hml
           have hand := and_127 _ hx
           have hnext : m / 128 ^ (k + 1) = m / 128 ^ k / 128 := by rw [Nat.pow_succ, Nat.div_div_eq_div_mul]
           have HN := Lib.hid hnext
           have HD : Hid (dig m k = .int .u8 ((m / 128 ^ k % 128 : Nat) : Int)) := rfl
           have hd : m / 128 ^ k % 128 < 128 := Nat.mod_lt _ (by omega)
           clear hnext
           match k, hk with
           | 0, _ =>
             unfold sevenC
             obtain ⟨x, hxe⟩ : ∃ x, x = m / 128 ^ 0 := ⟨_, rfl⟩
             rw [← hxe] at hx hand HN HD hd ⊢
             obtain ⟨y, hye⟩ : ∃ y, y = x % 128 := ⟨_, rfl⟩
             rw [← hye] at hand HD hd
             clear hye hxe
             go_wp2_with fail
             go_roundw
             case rel => exact ⟨1, by omega, by go_num, by rw [HN.out]; go_num, by show _ = w.alloc (.cells (sevenC m 1) _); unfold sevenC; rw [HD.out]; try rfl⟩
             case measure => simp [intOf]; try omega
           | 1, _ =>
             unfold sevenC
             obtain ⟨x, hxe⟩ : ∃ x, x = m / 128 ^ 1 := ⟨_, rfl⟩
             rw [← hxe] at hx hand HN HD hd ⊢
             obtain ⟨y, hye⟩ : ∃ y, y = x % 128 := ⟨_, rfl⟩
             rw [← hye] at hand HD hd
             clear hye hxe
             go_wp2_with fail
             go_roundw
             case rel => exact ⟨2, by omega, by go_num, by rw [HN.out]; go_num, by show _ = w.alloc (.cells (sevenC m 2) _); unfold sevenC; rw [HD.out]; try rfl⟩
             case measure => simp [intOf]; try omega
           | 2, _ =>
             unfold sevenC
             obtain ⟨x, hxe⟩ : ∃ x, x = m / 128 ^ 2 := ⟨_, rfl⟩
             rw [← hxe] at hx hand HN HD hd ⊢
             obtain ⟨y, hye⟩ : ∃ y, y = x % 128 := ⟨_, rfl⟩
             rw [← hye] at hand HD hd
             clear hye hxe
             go_wp2_with fail
             go_roundw
             case rel => exact ⟨3, by omega, by go_num, by rw [HN.out]; go_num, by show _ = w.alloc (.cells (sevenC m 3) _); unfold sevenC; rw [HD.out]; try rfl⟩
             case measure => simp [intOf]; try omega
           | 3, _ =>
             unfold sevenC
             obtain ⟨x, hxe⟩ : ∃ x, x = m / 128 ^ 3 := ⟨_, rfl⟩
             rw [← hxe] at hx hand HN HD hd ⊢
             obtain ⟨y, hye⟩ : ∃ y, y = x % 128 := ⟨_, rfl⟩
             rw [← hye] at hand HD hd
             clear hye hxe
             go_wp2_with fail
             go_roundw
             case rel => exact ⟨4, by omega, by go_num, by rw [HN.out]; go_num, by show _ = w.alloc (.cells (sevenC m 4) _); unfold sevenC; rw [HD.out]; try rfl⟩
             case measure => simp [intOf]; try omega
           | 4, _ =>
             unfold sevenC
             obtain ⟨x, hxe⟩ : ∃ x, x = m / 128 ^ 4 := ⟨_, rfl⟩
             rw [← hxe] at hx hand HN HD hd ⊢
             obtain ⟨y, hye⟩ : ∃ y, y = x % 128 := ⟨_, rfl⟩
             rw [← hye] at hand HD hd
             clear hye hxe
             go_wp2_with fail
             go_roundw
             case rel => exact ⟨5, by omega, by go_num, by rw [HN.out]; go_num, by show _ = w.alloc (.cells (sevenC m 5) _); unfold sevenC; rw [HD.out]; try rfl⟩
             case measure => simp [intOf]; try omega
           | 5, _ =>
             unfold sevenC
             obtain ⟨x, hxe⟩ : ∃ x, x = m / 128 ^ 5 := ⟨_, rfl⟩
             rw [← hxe] at hx hand HN HD hd ⊢
             obtain ⟨y, hye⟩ : ∃ y, y = x % 128 := ⟨_, rfl⟩
             rw [← hye] at hand HD hd
             clear hye hxe
             go_wp2_with fail
             go_roundw
             case rel => exact ⟨6, by omega, by go_num, by rw [HN.out]; go_num, by show _ = w.alloc (.cells (sevenC m 6) _); unfold sevenC; rw [HD.out]; try rfl⟩
             case measure => simp [intOf]; try omega
           | 6, _ =>
             unfold sevenC
             obtain ⟨x, hxe⟩ : ∃ x, x = m / 128 ^ 6 := ⟨_, rfl⟩
             rw [← hxe] at hx hand HN HD hd ⊢
             obtain ⟨y, hye⟩ : ∃ y, y = x % 128 := ⟨_, rfl⟩
             rw [← hye] at hand HD hd
             clear hye hxe
             go_wp2_with fail
             go_roundw
             case rel => exact ⟨7, by omega, by go_num, by rw [HN.out]; go_num, by show _ = w.alloc (.cells (sevenC m 7) _); unfold sevenC; rw [HD.out]; try rfl⟩
             case measure => simp [intOf]; try omega
           | 7, _ =>
             clear hx hand HN HD hd
             generalize m / 128 ^ 7 = x at *
             go_wp2_with fail
             go_ret
             exact ⟨rfl, rfl⟩
           | k + 8, h => exact absurd h (by omega))
end Go.Proofs.YtgoinpibllomfaaDoor
