/- Part 22 of what the statement wants. -/
import Derived.Test.YtgoinpibllomfaaDoorPk20
namespace Go.Proofs.YtgoinpibllomfaaDoor
open Go.RowKit


def digK (m : Nat) : Nat → List UInt8
  | 0 => []
  | k + 1 => digitN m k :: digK m k
theorem digK_len (m : Nat) : ∀ k, (digK m k).length = k
  | 0 => rfl
  | k + 1 => by
    show (digK m k).length + 1 = _
    rw [digK_len m k]
theorem digK_seven (n : Int) : digK n.toNat 7 = digitsP n := rfl
theorem digitN_cell (m k x : Nat) (hx : x = m / 128 ^ k) : (#[.int .u8 ((x % 128 : Nat) : Int)] : Array Value) = (byteCells [digitN m k]).toArray := by
  have h : ((digitN m k).toNat : Int) = ((x % 128 : Nat) : Int) := by
    unfold digitN
    rw [UInt8.toNat_ofNat', hx]
    omega
  unfold byteCells
  simp only [List.map_cons, List.map_nil, h]
set_option maxHeartbeats 1000000 in
set_option maxRecDepth 100000 in
theorem r16digits_any (n : Int) (hn : n < 9223372036854775808) (w : World) : Calls Tryd.prog 57 #[.int .i64 n] w fun e w' => e = .returned (.string (bs (digitsP n))) ∧ Below w.heap.size w w' := by
  obtain ⟨m, hm⟩ : ∃ m, m = n.toNat := ⟨_, rfl⟩
  have HD : Hid (digK m 7 = digitsP n) := by rw [hm]; exact digK_seven n
  have hml : m < 9223372036854775808 := by omega
  by_cases h0 : n < 0
  · have q : decide (n < 0) = true := decide_eq_true h0
    have HM : Hid (m = 0) := by show m = 0; omega
    clear hm
    generalize digitsP n = DP at *
    go_enter Tryd.func57, Tryd.ntmps57
    go_wp2_with fail
    go_loopw [0, 3, 4] (fun v t i wr => ∃ k : Nat, k ≤ 7 ∧ v = .int .i64 ((m / 128 ^ k : Nat) : Int) ∧ t = .string (bs (digK m k)) ∧ i = .int .i64 (k : Int) ∧ Below w.heap.size w wr) (fun _ _ i _ => 8 - (intOf i).toNat)
    case atStart => exact ⟨0, Nat.zero_le _, by rw [HM.out]; rfl, rfl, rfl, Below.refl _ _⟩
    case round =>
      obtain ⟨k, hk, rfl, rfl, rfl, hb⟩ := hrel
      by_cases hlt : k < 7
      · have hx : m / 128 ^ k < 9223372036854775808 := Nat.lt_of_le_of_lt (Nat.div_le_self _ _) hml
        have hnext : m / 128 ^ (k + 1) = m / 128 ^ k / 128 := by rw [Nat.pow_succ, Nat.div_div_eq_div_mul]
        obtain ⟨x, hxe⟩ : ∃ x, x = m / 128 ^ k := ⟨_, rfl⟩
        have hcl := digitN_cell m k x hxe
        have hcv := run_string_new wr [digitN m k] (by simp) _ hcl
        rw [← hxe] at hx hnext ⊢
        have HN := Lib.hid hnext
        have hsz := bs_size (digK m k)
        rw [digK_len] at hsz
        have hone := bs_size [digitN m k]
        have HC : Hid (bs [digitN m k] ++ bs (digK m k) = bs (digK m (k + 1))) := bs_append _ _
        have ht1 : Int.tmod (x : Int) 128 = ((x % 128 : Nat) : Int) := by rw [Int.tmod_eq_emod_of_nonneg (by omega)]; omega
        have ht2 : Int.tdiv (x : Int) 128 = ((x / 128 : Nat) : Int) := by rw [Int.tdiv_eq_ediv_of_nonneg (by omega)]; omega
        have hd : x % 128 < 128 := Nat.mod_lt _ (by omega)
        have hzl : x / 128 < 9223372036854775808 := by omega
        clear hcl hnext hxe
        have HB := Lib.hid hb
        clear hb
        simp only [List.length_cons, List.length_nil] at hcv hone
        generalize bs [digitN m k] = D1 at *
        generalize bs (digK m k) = DK at *
        generalize x % 128 = y at *
        generalize hz : x / 128 = z at *
        have HZ := Lib.hid hz
        clear hz
        go_wp2_with fail
        go_roundw
        case rel => exact ⟨k + 1, by omega, by rw [HN.out]; try go_num, by rw [← HC.out]; try rfl, by go_num, HB.out.alloc HB.out.size _⟩
        case measure => simp [intOf]; try omega
      · have hkl : k = 7 := by omega
        subst hkl
        have HB := Lib.hid hb
        rw [HD.out]
        clear hb hlt HD
        go_wp2_with fail
        go_ret
        exact ⟨rfl, HB.out⟩
  · have q : decide (n < 0) = false := decide_eq_false h0
    have HM : Hid (n = (m : Int)) := by show n = _; omega
    clear hm
    generalize digitsP n = DP at *
    go_enter Tryd.func57, Tryd.ntmps57
    go_wp2_with fail
    go_loopw [0, 3, 4] (fun v t i wr => ∃ k : Nat, k ≤ 7 ∧ v = .int .i64 ((m / 128 ^ k : Nat) : Int) ∧ t = .string (bs (digK m k)) ∧ i = .int .i64 (k : Int) ∧ Below w.heap.size w wr) (fun _ _ i _ => 8 - (intOf i).toNat)
    case atStart => exact ⟨0, Nat.zero_le _, by rw [HM.out]; simp, rfl, rfl, Below.refl _ _⟩
    case round =>
      obtain ⟨k, hk, rfl, rfl, rfl, hb⟩ := hrel
      by_cases hlt : k < 7
      · have hx : m / 128 ^ k < 9223372036854775808 := Nat.lt_of_le_of_lt (Nat.div_le_self _ _) hml
        have hnext : m / 128 ^ (k + 1) = m / 128 ^ k / 128 := by rw [Nat.pow_succ, Nat.div_div_eq_div_mul]
        obtain ⟨x, hxe⟩ : ∃ x, x = m / 128 ^ k := ⟨_, rfl⟩
        have hcl := digitN_cell m k x hxe
        have hcv := run_string_new wr [digitN m k] (by simp) _ hcl
        rw [← hxe] at hx hnext ⊢
        have HN := Lib.hid hnext
        have hsz := bs_size (digK m k)
        rw [digK_len] at hsz
        have hone := bs_size [digitN m k]
        have HC : Hid (bs [digitN m k] ++ bs (digK m k) = bs (digK m (k + 1))) := bs_append _ _
        have ht1 : Int.tmod (x : Int) 128 = ((x % 128 : Nat) : Int) := by rw [Int.tmod_eq_emod_of_nonneg (by omega)]; omega
        have ht2 : Int.tdiv (x : Int) 128 = ((x / 128 : Nat) : Int) := by rw [Int.tdiv_eq_ediv_of_nonneg (by omega)]; omega
        have hd : x % 128 < 128 := Nat.mod_lt _ (by omega)
        have hzl : x / 128 < 9223372036854775808 := by omega
        clear hcl hnext hxe
        have HB := Lib.hid hb
        clear hb
        simp only [List.length_cons, List.length_nil] at hcv hone
        generalize bs [digitN m k] = D1 at *
        generalize bs (digK m k) = DK at *
        generalize x % 128 = y at *
        generalize hz : x / 128 = z at *
        have HZ := Lib.hid hz
        clear hz
        go_wp2_with fail
        go_roundw
        case rel => exact ⟨k + 1, by omega, by rw [HN.out]; try go_num, by rw [← HC.out]; try rfl, by go_num, HB.out.alloc HB.out.size _⟩
        case measure => simp [intOf]; try omega
      · have hkl : k = 7 := by omega
        subst hkl
        have HB := Lib.hid hb
        rw [HD.out]
        clear hb hlt HD
        go_wp2_with fail
        go_ret
        exact ⟨rfl, HB.out⟩
set_option maxRecDepth 100000 in
theorem r16Cookie_any (s n : Int) (hs : s < 9223372036854775808) (hn : n < 9223372036854775808) (w : World) : Calls Tryd.prog 41 #[.int .i64 s, .int .i64 n] w fun e w' => e = .returned (.string (bs (cookieP s n))) ∧ Below w.heap.size w w' := by
  have HS := Lib.hid (fun W => r16digits_any s hs W)
  have HN := Lib.hid (fun W => r16digits_any n hn W)
  have h1 : (bs (digitsP s)).size = 7 := by rw [bs_size]; rfl
  have h2 : (bs (digitsP n)).size = 7 := by rw [bs_size]; rfl
  have HC : Hid (bs [99] ++ bs (digitsP s) ++ bs (digitsP n) ++ bs [107] = bs (cookieP s n)) := by
    show _ = _
    rw [bs_append, bs_append, bs_append]
    rfl
  have h3 : ((⟨#[99]⟩ : ByteArray) ++ bs (digitsP s)).size = 8 := by
    rw [ByteArray.size_append, h1]; rfl
  have h4 : ((⟨#[99]⟩ : ByteArray) ++ bs (digitsP s) ++ bs (digitsP n)).size = 15 := by
    rw [ByteArray.size_append, h3, h2]
  clear hs hn
  generalize bs (digitsP s) = S at *
  generalize bs (digitsP n) = N at *
  go_enter Tryd.func41, Tryd.ntmps41
  go_wp2_with (first
    | (go_at_call 57; (with_reducible refine (HS.out _).mono ?_); rintro e w2 ⟨rfl, g2⟩; have B2 := Lib.hid g2; clear g2)
    | (go_at_call 57; (with_reducible refine (HN.out _).mono ?_); rintro e w3 ⟨rfl, g3⟩; have B3 := Lib.hid g3; clear g3))
  go_ret
  exact ⟨by rw [← HC.out]; rfl, B2.out.trans (B3.out.mono B2.out.size)⟩
end Go.Proofs.YtgoinpibllomfaaDoor
