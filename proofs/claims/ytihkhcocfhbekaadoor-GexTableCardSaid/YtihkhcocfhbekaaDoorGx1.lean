/- Layer 18: bit lengths, by the program and by the document. -/
import Derived.Test.YtihkhcocfhbekaaDoorWwA
import Derived.Test.YtihkhcocfhbekaaDoorWqA
import Derived.Lib.BitFns
import Derived.Test.YtihkhcocfhbekaaDoorShelf
namespace Go.Proofs.YtihkhcocfhbekaaDoor
open Go.RowKit

def lenB (b : Nat) : Nat := Lib.bitLen b
def bitsL (l : List UInt8) : Nat := match plainL l with
  | [] => 0
  | b :: r => r.length * 8 + lenB b.toNat
theorem plainL_head : ∀ (l : List UInt8) (b : UInt8) (r : List UInt8), plainL l = b :: r → b ≠ 0
  | [], _, _, h => by simp [plainL] at h
  | x :: l, b, r, h => by
    unfold plainL at h
    split at h
    · exact plainL_head l b r h
    · rename_i hx
      injection h with h1 _
      rwa [← h1]
theorem lenB_le : ∀ b < 256, lenB b ≤ 8 := by decide +kernel
theorem lenB_pos : ∀ b < 256, b ≠ 0 → 1 ≤ lenB b := by decide +kernel
theorem lenB_shift : ∀ b < 256, ∀ k < 9, 128 ≤ b * 2 ^ k → b * 2 ^ k < 256 → lenB b + k = 8 := by decide +kernel
theorem bitsL_le (l : List UInt8) : bitsL l ≤ 8 * l.length := by
  have h := plainL_le l
  unfold bitsL
  split
  · omega
  · rename_i b r hp
    rw [hp] at h
    simp only [List.length_cons] at h
    have := lenB_le b.toNat (UInt8.toNat_lt b)
    omega

theorem len8_any (b : Nat) (hb : b < 256) (w : World) : Calls Tryd.prog 69 #[.int .u8 (b : Int)] w fun e w' => e = .returned (.int .i64 (lenB b : Int)) ∧ w' = w := by
  have h := Tryd.bits_Len8 (b : Int) w (by omega) (by omega)
  rwa [Int.toNat_natCast] at h

set_option maxRecDepth 100000 in
theorem wBits_any (l : List UInt8) (hl : l.length ≤ 1000000) (w : World) : Calls Tryd.prog 54 #[.string (bs l)] w fun e w' => e = .returned (.int .i64 (bitsL l : Int)) ∧ w' = w := by
  have HU := Lib.hid (fun W => unpadded_any l hl W)
  have hw := plainL_le l
  have HW : Hid (bitsL l = match plainL l with
    | [] => 0
    | b :: r => r.length * 8 + lenB b.toNat) := rfl
  generalize bitsL l = n at *
  generalize plainL l = p at *
  obtain ⟨B, hB⟩ : ∃ B, B = bs l := ⟨_, rfl⟩
  rw [← hB] at HU ⊢
  clear hB
  cases p with
  | nil =>
    have HU2 : Hid (∀ W : World, Calls Tryd.prog 68 #[.string B] W fun e w' => e = .returned (.string ⟨#[]⟩) ∧ w' = W) := HU.out
    obtain rfl : n = 0 := HW.out
    clear HU HW hw
    go_enter Tryd.func54, Tryd.ntmps54
    go_wp2_with (first
      | (go_at_call 68; refine (HU2.out _).mono ?_; rintro e w' ⟨rfl, rfl⟩))
    go_ret
    exact ⟨rfl, rfl⟩
  | cons b r =>
    have HN : Hid (n = r.length * 8 + lenB b.toNat) := HW.out
    have hne : (bs (b :: r)).toList.isEmpty = false := by
      rw [ByteArray.toList_eq]
      simp [bs]
    have hi0 : ∀ W : World, (Instr.index 9 (.string (bs (b :: r))) (.int .i64 0)).run Tryd.prog W = .ok (.int .u8 (b.toNat : Int)) W := fun W => index_bs (b :: r) 0 (by simp) W
    have hsz := bs_size (b :: r)
    have HL := Lib.hid (fun W => len8_any b.toNat (UInt8.toNat_lt b) W)
    have h8 := lenB_le b.toNat (UInt8.toNat_lt b)
    simp only [List.length_cons] at hw hsz
    clear HW
    generalize bs (b :: r) = C at *
    generalize lenB b.toNat = z at *
    generalize b.toNat = x at *
    generalize r.length = m at *
    go_enter Tryd.func54, Tryd.ntmps54
    go_wp2_with (first
      | (go_at_call 68; refine (HU.out _).mono ?_; rintro e w' ⟨rfl, rfl⟩)
      | (go_at_call 69; refine (HL.out _).mono ?_; rintro e w' ⟨rfl, rfl⟩))
    go_ret
    exact ⟨by rw [HN.out]; go_num, rfl⟩

set_option maxRecDepth 100000 in
theorem qBits_any (l : List UInt8) (hl : l.length ≤ 1000000) (w : World) : Calls Tryd.prog 59 #[.string (bs l)] w fun e w' => e = .returned (.int .i64 (bitsL l : Int)) ∧ w' = w := by
  have HU := Lib.hid (fun W => qPlain_any l hl W)
  have hw := plainL_le l
  have hh := plainL_head l
  have HW : Hid (bitsL l = match plainL l with
    | [] => 0
    | b :: r => r.length * 8 + lenB b.toNat) := rfl
  generalize bitsL l = n at *
  generalize plainL l = p at *
  obtain ⟨B, hB⟩ : ∃ B, B = bs l := ⟨_, rfl⟩
  rw [← hB] at HU ⊢
  clear hB
  cases p with
  | nil =>
    have HU2 : Hid (∀ W : World, Calls Tryd.prog 60 #[.string B] W fun e w' => e = .returned (.string ⟨#[]⟩) ∧ w' = W) := HU.out
    obtain rfl : n = 0 := HW.out
    clear HU HW hw hh
    go_enter Tryd.func59, Tryd.ntmps59
    go_wp2_with (first
      | (go_at_call 60; refine (HU2.out _).mono ?_; rintro e w' ⟨rfl, rfl⟩))
    go_ret
    exact ⟨rfl, rfl⟩
  | cons b r =>
    have HN : Hid (n = r.length * 8 + lenB b.toNat) := HW.out
    have hi0 : ∀ W : World, (Instr.index 9 (.string (bs (b :: r))) (.int .i64 0)).run Tryd.prog W = .ok (.int .u8 (b.toNat : Int)) W := fun W => index_bs (b :: r) 0 (by simp) W
    have hsz := bs_size (b :: r)
    have hb0 : 0 < b.toNat := by
      have := hh b r rfl
      have h1 : b.toNat ≠ 0 := fun e => this (UInt8.toNat_inj.1 e)
      omega
    have hb1 : b.toNat < 256 := UInt8.toNat_lt b
    have HSh := Lib.hid (lenB_shift b.toNat hb1)
    simp only [List.length_cons] at hw hsz
    clear HW hh
    generalize bs (b :: r) = C at *
    generalize lenB b.toNat = z at *
    generalize b.toNat = x at *
    generalize r.length = m at *
    go_enter Tryd.func59, Tryd.ntmps59
    go_wp2_with (first
      | (go_at_call 60; refine (HU.out _).mono ?_; rintro e w' ⟨rfl, rfl⟩))
    go_loopw [3, 4] (fun u v wr => ∃ k : Nat, k < 9 ∧ x * 2 ^ k < 256 ∧ u = .int .i64 (8 * ((m : Int) + 1) - (k : Int)) ∧ v = .int .i64 ((x * 2 ^ k : Nat) : Int) ∧ wr = w') (fun _ v _ => (256 - intOf v).toNat)
    case atStart => exact ⟨0, by omega, by simpa using hb1, by simp, by simp, rfl⟩
    case round =>
      obtain ⟨k, hk, hy, rfl, rfl, rfl⟩ := hrel
      have hnx : x * 2 ^ (k + 1) = 2 * (x * 2 ^ k) := by rw [Nat.pow_succ, ← Nat.mul_assoc, Nat.mul_comm]
      have hpos : 0 < x * 2 ^ k := Nat.mul_pos hb0 (Nat.two_pow_pos k)
      have hk8 : k < 8 := by
        have h1 : 2 ^ k ≤ x * 2 ^ k := Nat.le_mul_of_pos_left _ hb0
        exact (Nat.pow_lt_pow_iff_right (by omega : 1 < 2)).1 (Nat.lt_of_le_of_lt h1 hy)
      have HZ := Lib.hid (HSh.out k hk)
      have HX := Lib.hid hnx
      clear HSh hnx
      generalize x * 2 ^ k = y at *
      by_cases hlt : y < 128
      · have q : decide ((y : Int) < 128) = true := decide_eq_true (by omega)
        go_wp2_with fail
        go_roundw
        case rel => exact ⟨k + 1, by omega, by rw [HX.out]; omega, by go_num, by rw [HX.out]; go_num, trivial⟩
        case measure => simp [intOf]; try omega
      · have q : decide ((y : Int) < 128) = false := decide_eq_false (by omega)
        go_wp2_with fail
        go_ret
        have hz := HZ.out (by omega) (by omega)
        exact ⟨by rw [HN.out]; go_num, rfl⟩
end Go.Proofs.YtihkhcocfhbekaaDoor
