/- Whole numbers have one form; what is written is read (the plain part). -/
import Derived.Test.YtpiklkbjfpfejaaGreatDoorWNew
namespace Go.Proofs.YtpiklkbjfpfejaaGreatDoor
open Go.RowKit

theorem plainL_cons (b : UInt8) (l : List UInt8) : plainL (b :: l) = if b = 0 then plainL l else b :: l := rfl
theorem plainL_idem : ∀ l : List UInt8, plainL (plainL l) = plainL l
  | [] => rfl
  | b :: l => by
    rw [plainL_cons]
    by_cases h : b = 0
    · rw [if_pos h]; exact plainL_idem l
    · rw [if_neg h, plainL_cons, if_neg h]
theorem plainL_hd : ∀ l : List UInt8, plainL l = [] ∨ (hd0 (plainL l)).toNat ≠ 0
  | [] => .inl rfl
  | b :: l => by
    rw [plainL_cons]
    by_cases h : b = 0
    · rw [if_pos h]; exact plainL_hd l
    · rw [if_neg h]
      right
      show b.toNat ≠ 0
      exact fun e => h (UInt8.toNat_inj.1 e)
theorem wholeL_plain (l : List UInt8) : wholeL (plainL l) = wholeL l := by
  unfold wholeL
  rw [plainL_idem]
theorem zero_of {b : UInt8} (h : b.toNat = 0) : b = 0 := UInt8.toNat_inj.1 h
theorem wholeR_iff (l : List UInt8) : wholeR l = decide (wholeL l = l) := by
  cases l with
  | nil => rfl
  | cons b r =>
    by_cases hb : b.toNat = 0
    · have hb0 := zero_of hb
      subst hb0
      have hp : plainL (0 :: r) = plainL r := by rw [plainL, if_pos rfl]
      cases r with
      | nil => rfl
      | cons c r =>
        have e : wholeR (0 :: c :: r) = decide (128 ≤ c.toNat) := by simp [wholeR]
        rw [e]
        refine decide_eq_decide.2 ?_
        by_cases hc : c = 0
        · subst hc
          have h1 := plainL_le r
          have hp2 : plainL (0 :: r) = plainL r := by rw [plainL, if_pos rfl]
          constructor
          · intro h; simp at h
          · intro h
            have := congrArg List.length h
            unfold wholeL at this
            rw [hp, hp2] at this
            split at this <;> simp at this <;> omega
        · have hp2 : plainL (c :: r) = c :: r := by rw [plainL, if_neg hc]
          unfold wholeL
          rw [hp, hp2]
          show 128 ≤ c.toNat ↔ (if 128 ≤ c.toNat then _ else _) = _
          split
          · rename_i h
            simp [h]
          · rename_i h
            constructor
            · intro h'; exact absurd h' h
            · intro h'
              have := congrArg List.length h'
              simp at this
    · have hb0 : b ≠ 0 := fun e => hb (by rw [e]; rfl)
      have hp : plainL (b :: r) = b :: r := by rw [plainL, if_neg hb0]
      have e : wholeR (b :: r) = decide (b.toNat < 128) := by
        cases r with
        | nil => simp [wholeR, hb]
        | cons c r => simp [wholeR, hb]
      rw [e]
      refine decide_eq_decide.2 ?_
      unfold wholeL
      rw [hp]
      show b.toNat < 128 ↔ (if 128 ≤ b.toNat then _ else _) = _
      split
      · rename_i h
        constructor
        · intro h'; omega
        · intro h'
          have := congrArg List.length h'
          simp at this
      · rename_i h
        simp; omega

theorem numL_four (a b c d : UInt8) : numL [a, b, c, d] = num4 [a, b, c, d] := by
  simp only [num4, numL, List.foldl_cons, List.foldl_nil]
  omega
theorem numL_pack (n : Nat) (h : n < 4294967296) : numL (pack4 n) = n := (numL_four _ _ _ _).trans (num4_pack n h)
theorem pack4_length (n : Nat) : (pack4 n).length = 4 := rfl
theorem fixedP_ok (right : List UInt8 → Bool) (a b : List UInt8) (h : right a = true) : fixedP right (a.length : Nat) (a ++ b) 0 = (a, b, 0) := by
  unfold fixedP
  rw [if_neg (by simp), if_neg (by simp; omega), Int.toNat_natCast, List.take_left, List.drop_left, if_pos h]
theorem u32Q_ok (n : Nat) (h : n < 4294967296) (r : List UInt8) : u32Q (pack4 n ++ r) 0 = (n, r, 0) := by
  have hf : fixedP anyR 4 (pack4 n ++ r) 0 = (pack4 n, r, 0) := fixedP_ok anyR (pack4 n) r rfl
  show (numL (fixedP anyR 4 (pack4 n ++ r) 0).1, (fixedP anyR 4 (pack4 n ++ r) 0).2) = _
  rw [hf, numL_pack n h]
theorem countedP_ok (right : List UInt8 → Bool) (l r : List UInt8) (hl : l.length < 4294967296) (h : right l = true) : countedP right (cnt l ++ r) 0 = (l, r, 0) := by
  have hu := u32Q_ok l.length hl (l ++ r)
  rw [← List.append_assoc] at hu
  have hf := fixedP_ok right l r h
  unfold countedP
  rw [cnt, hu]
  show (if (fixedP right (l.length : Nat) (l ++ r) 0).2.2 = 0 then _ else _) = _
  rw [hf]
  rfl
theorem countedP_form (right : List UInt8 → Bool) (l r : List UInt8) (hl : l.length < 4294967296) (h : right l = false) : countedP right (cnt l ++ r) 0 = ([], cnt l ++ r, 3) := by
  have hu := u32Q_ok l.length hl (l ++ r)
  rw [← List.append_assoc] at hu
  have hf : fixedP right (l.length : Nat) (l ++ r) 0 = ([], l ++ r, 3) := by
    unfold fixedP
    rw [if_neg (by simp), if_neg (by simp; omega), Int.toNat_natCast, List.take_left, if_neg (by rw [h]; simp)]
  unfold countedP
  rw [cnt, hu]
  show (if (fixedP right (l.length : Nat) (l ++ r) 0).2.2 = 0 then _ else _) = _
  rw [hf]
  rfl
theorem cnt_inj {a b : List UInt8} (h : cnt a = cnt b) : a = b := by
  have := congrArg (List.drop 4) h
  simpa [cnt, pack4] using this
theorem cnt_length (l : List UInt8) : (cnt l).length = l.length + 4 := by simp [cnt, pack4]
end Go.Proofs.YtpiklkbjfpfejaaGreatDoor
