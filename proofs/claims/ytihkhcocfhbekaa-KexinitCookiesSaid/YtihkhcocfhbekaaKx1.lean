/- Layer 16, plain: cookies. -/
import Derived.Test.YtihkhcocfhbekaaMem
namespace Go.Proofs.Ytihkhcocfhbekaa
open Go.RowKit

def digitN (m j : Nat) : UInt8 := UInt8.ofNat (m / 128 ^ j % 128)
def digitsP (n : Int) : List UInt8 := [digitN n.toNat 6, digitN n.toNat 5, digitN n.toNat 4, digitN n.toNat 3, digitN n.toNat 2, digitN n.toNat 1, digitN n.toNat 0]
def cookieP (s n : Int) : List UInt8 := 99 :: (digitsP s ++ digitsP n ++ [107])
theorem cookie_len (s n : Int) : (cookieP s n).length = 16 := rfl
theorem digitN_inj {m m' j : Nat} (h : digitN m j = digitN m' j) : m / 128 ^ j % 128 = m' / 128 ^ j % 128 := by
  have h1 := congrArg UInt8.toNat h
  unfold digitN at h1
  have e : ∀ x, (UInt8.ofNat (x % 128)).toNat = x % 128 := fun x => by
    rw [UInt8.toNat_ofNat']
    omega
  rwa [e, e] at h1
theorem digits_mod (m m' : Nat) : ∀ k, (∀ j < k, m / 128 ^ j % 128 = m' / 128 ^ j % 128) → m % 128 ^ k = m' % 128 ^ k
  | 0, _ => by simp [Nat.mod_one]
  | k + 1, h => by rw [Nat.mod_pow_succ, Nat.mod_pow_succ, digits_mod m m' k (fun j hj => h j (by omega)), h k (by omega)]
theorem digits_inj {m m' : Int} (h0 : 0 ≤ m) (h1 : m < 562949953421312) (h0' : 0 ≤ m') (h1' : m' < 562949953421312) (h : digitsP m = digitsP m') : m = m' := by
  unfold digitsP at h
  injection h with a6 h
  injection h with a5 h
  injection h with a4 h
  injection h with a3 h
  injection h with a2 h
  injection h with a1 h
  injection h with a0 h
  have := digits_mod m.toNat m'.toNat 7 (fun j hj => by
    match j, hj with
    | 0, _ => exact digitN_inj a0
    | 1, _ => exact digitN_inj a1
    | 2, _ => exact digitN_inj a2
    | 3, _ => exact digitN_inj a3
    | 4, _ => exact digitN_inj a4
    | 5, _ => exact digitN_inj a5
    | 6, _ => exact digitN_inj a6)
  rw [show (128 : Nat) ^ 7 = 562949953421312 from rfl, Nat.mod_eq_of_lt (by omega), Nat.mod_eq_of_lt (by omega)] at this
  omega
theorem cookie_inj {s n s' n' : Int} (hs : 0 ≤ s ∧ s < 562949953421312) (hn : 0 ≤ n ∧ n < 562949953421312) (hs' : 0 ≤ s' ∧ s' < 562949953421312) (hn' : 0 ≤ n' ∧ n' < 562949953421312) : cookieP s n = cookieP s' n' ↔ s = s' ∧ n = n' := by
  constructor
  · intro h
    unfold cookieP at h
    injection h with _ h
    rw [List.append_assoc, List.append_assoc] at h
    have h1 := List.append_inj h rfl
    have h2 := List.append_inj h1.2 rfl
    exact ⟨digits_inj hs.1 hs.2 hs'.1 hs'.2 h1.1, digits_inj hn.1 hn.2 hn'.1 hn'.2 h2.1⟩
  · rintro ⟨rfl, rfl⟩; rfl
end Go.Proofs.Ytihkhcocfhbekaa
