/- Layer 11: the length of a unit, its body, the payload of a plain packet, as plain functions; the program's Need. -/
import Derived.Test.YtlalkpgipenkaaaRdN
namespace Go.Proofs.Ytlalkpgipenkaaa
open Go.RowKit

def frHd (s : List UInt8) : Nat := (s.headD 0).toNat
def frUnitP (b : List UInt8) : List UInt8 × Nat := if b = [] then ([], 4) else if 262144 < b.length then ([], 2) else (cnt b, 0)
def frNeedP (s : List UInt8) : Nat × Nat :=
  if 0 < frHd s then (0, 2) else if s.length < 4 then (0, 4) else if num4 (s.take 4) = 0 then (0, 3) else if 262144 < num4 (s.take 4) then (0, 2) else (4 + num4 (s.take 4), 0)
def frBodyP (s : List UInt8) : List UInt8 × Nat :=
  if (frNeedP s).2 ≠ 0 then ([], (frNeedP s).2) else if s.length < (frNeedP s).1 then ([], 4) else if (frNeedP s).1 < s.length then ([], 3) else (s.drop 4, 0)
def frBad (s b : List UInt8) : Bool := decide (s.length % 8 ≠ 0 ∨ frHd b < 4 ∨ 64 < frHd b ∨ b.length < frHd b + 2)
def frUnpackP (s : List UInt8) : List UInt8 × Nat :=
  if (frBodyP s).2 ≠ 0 then ([], (frBodyP s).2) else if frBad s (frBodyP s).1 = true then ([], 3) else
    if 32768 < (frBodyP s).1.length - 1 - frHd (frBodyP s).1 then ([], 2) else (((frBodyP s).1.drop 1).take ((frBodyP s).1.length - 1 - frHd (frBodyP s).1), 0)

theorem frnumL_four {l : List UInt8} (h : l.length = 4) : numL l = num4 l := by
  match l, h with
  | [a, b, c, d], _ => simp only [numL, num4, List.foldl]; omega
theorem u32Q_short {s : List UInt8} (h : s.length < 4) : u32Q s 0 = (0, s, 4) := by
  unfold u32Q fixedP
  rw [if_neg (by simp), if_pos (by omega)]
  rfl
theorem u32Q_full {s : List UInt8} (h : 4 ≤ s.length) : u32Q s 0 = (num4 (s.take 4), s.drop 4, 0) := by
  unfold u32Q fixedP
  rw [if_neg (by simp), if_neg (by omega)]
  simp only [anyR, if_true]
  rw [show (4 : Int).toNat = 4 from rfl, frnumL_four (by rw [List.length_take]; omega)]
theorem frEmpty_yes {s : List UInt8} (h : s.length = 0) : (bs s).toList.isEmpty = true := by
  obtain rfl := List.length_eq_zero_iff.1 h
  rw [ByteArray.toList_eq]; rfl
theorem frEmpty_no {s : List UInt8} (h : ¬ s.length = 0) : (bs s).toList.isEmpty = false := by
  rw [ByteArray.toList_eq]
  cases s with
  | nil => exact absurd rfl h
  | cons b r => rfl

set_option maxRecDepth 100000 in
theorem frNeed_any (s : List UInt8) (hs : s.length ≤ 1000000) (w : World) : Calls Try.prog 62 #[.string (bs s)] w fun e w' => e = .returned (.tuple #[.int .i64 ((frNeedP s).1 : Int), .int .i64 ((frNeedP s).2 : Int)]) ∧ Below w.heap.size w w' := by
  have hsz := bs_size s
  have HX := Lib.hid (fun (h : 0 < s.length) W => index_bs s 0 h W)
  by_cases hh : 0 < frHd s
  · have hl : 0 < s.length := by
      cases s with
      | nil => exact absurd hh (by decide)
      | cons b r => simp
    have hi0 : ∀ W : World, (Instr.index 9 (.string (bs s)) (.int .i64 0)).run Try.prog W = .ok (.int .u8 (frHd s : Int)) W := fun W => by
      have := HX.out hl W
      rw [show ((0 : Nat) : Int) = 0 from rfl] at this
      rw [this]
      cases s with
      | nil => exact absurd hl (by decide)
      | cons b r => rfl
    have HN : Hid (frNeedP s = (0, 2)) := if_pos hh
    have q0 := frEmpty_no (s := s) (by omega)
    have q1 : ((frHd s : Int) != 0) = true := by simp; omega
    clear HX
    generalize frHd s = n at *
    generalize bs s = S at *
    go_enter Try.func62, Try.ntmps62
    go_wp2_with fail
    go_ret2
    exact ⟨by rw [HN.out]; rfl, Below.refl _ _⟩
  · have hway : ((bs s).toList.isEmpty = true ∧ s.length = 0) ∨ ((bs s).toList.isEmpty = false ∧ ∀ W : World, (Instr.index 9 (.string (bs s)) (.int .i64 0)).run Try.prog W = .ok (.int .u8 0) W) := by
      by_cases hl : 0 < s.length
      · refine .inr ⟨frEmpty_no (by omega), fun W => ?_⟩
        have := HX.out hl W
        rw [show ((0 : Nat) : Int) = 0 from rfl] at this
        rw [this]
        cases s with
        | nil => exact absurd hl (by decide)
        | cons b r =>
          have : b.toNat = 0 := by simpa [frHd] using hh
          simp [this]
      · exact .inl ⟨frEmpty_yes (by omega), by omega⟩
    have hN : frNeedP s = if s.length < 4 then (0, 4) else if num4 (s.take 4) = 0 then (0, 3) else if 262144 < num4 (s.take 4) then (0, 2) else (4 + num4 (s.take 4), 0) := if_neg hh
    have HW := Lib.hid (fun W => wNew_any s W)
    have hU : ∀ (W : World) (R : Nat), WAt W R s 0 → Calls Try.prog 81 #[.pointer (some ⟨R, 0, none⟩)] W fun e w' => e = .returned (.int .u32 ((u32Q s 0).1 : Int)) ∧ WAt w' R (u32Q s 0).2.1 (u32Q s 0).2.2 ∧ Moves (fun k => k = R) W w' := fun W R h => rU32_any h hs
    have HE : Hid (∀ (W : World) (R : Nat) (r : List UInt8) (e0 : Int), WAt W R r e0 → Calls Try.prog 82 #[.pointer (some ⟨R, 0, none⟩)] W fun e w' => e = .returned (.int .i64 e0) ∧ w' = W) := fun W R r e0 h => err_any h
    have HR := Lib.hid hway
    clear HX hway hh
    have hle : (bs s).size ≤ 1000000 := by omega
    by_cases h4 : s.length < 4
    · rw [u32Q_short h4] at hU
      rw [if_pos h4] at hN
      have HU := Lib.hid hU
      have HN := Lib.hid hN
      clear hU hN
      generalize bs s = S at *
      rcases HR.out with ⟨q0, _⟩ | ⟨q0, hi0⟩
      all_goals
        clear HR
        go_enter Try.func62, Try.ntmps62
        go_wp2_with (first
          | (go_at_call 80; refine (HW.out _).mono ?_; rintro e w1 ⟨rfl, h1, b1⟩)
          | (go_at_call 81; refine (HU.out _ _ h1).mono ?_; rintro e w2 ⟨rfl, h2, m2⟩)
          | (go_at_call 82; refine (HE.out _ _ _ _ h2).mono ?_; rintro e w3 ⟨rfl, rfl⟩))
        go_ret2
        exact ⟨by rw [HN.out]; rfl, b1.trans (m2.below b1.size (fun i hi => by omega))⟩
    · rw [u32Q_full (by omega)] at hU
      rw [if_neg h4] at hN
      have HU := Lib.hid hU
      clear hU
      have hn : num4 (s.take 4) < 4294967296 := num4_lt _
      generalize num4 (s.take 4) = n at *
      obtain ⟨q0, hi0⟩ := HR.out.resolve_left (fun h => absurd h.2 (by omega))
      clear HR
      generalize bs s = S at *
      by_cases h0 : n = 0
      · rw [if_pos h0] at hN
        have HN := Lib.hid hN
        clear hN
        subst h0
        go_enter Try.func62, Try.ntmps62
        go_wp2_with (first
          | (go_at_call 80; refine (HW.out _).mono ?_; rintro e w1 ⟨rfl, h1, b1⟩)
          | (go_at_call 81; refine (HU.out _ _ h1).mono ?_; rintro e w2 ⟨rfl, h2, m2⟩)
          | (go_at_call 82; refine (HE.out _ _ _ _ h2).mono ?_; rintro e w3 ⟨rfl, rfl⟩))
        go_ret2
        exact ⟨by rw [HN.out]; rfl, b1.trans (m2.below b1.size (fun i hi => by omega))⟩
      · rw [if_neg h0] at hN
        have q1 : ((n : Int) == 0) = false := by rw [beq_eq_false_iff_ne]; omega
        by_cases h2 : 262144 < n
        · rw [if_pos h2] at hN
          have HN := Lib.hid hN
          have q2 : decide ((n : Int) > 262144) = true := decide_eq_true (by omega)
          clear hN h0
          go_enter Try.func62, Try.ntmps62
          go_wp2_with (first
            | (go_at_call 80; refine (HW.out _).mono ?_; rintro e w1 ⟨rfl, h1, b1⟩)
            | (go_at_call 81; refine (HU.out _ _ h1).mono ?_; rintro e w2 ⟨rfl, h2, m2⟩)
            | (go_at_call 82; refine (HE.out _ _ _ _ h2).mono ?_; rintro e w3 ⟨rfl, rfl⟩))
          go_ret2
          exact ⟨by rw [HN.out]; rfl, b1.trans (m2.below b1.size (fun i hi => by omega))⟩
        · rw [if_neg h2] at hN
          have HN := Lib.hid hN
          have q2 : decide ((n : Int) > 262144) = false := decide_eq_false (by omega)
          clear hN h0
          go_enter Try.func62, Try.ntmps62
          go_wp2_with (first
            | (go_at_call 80; refine (HW.out _).mono ?_; rintro e w1 ⟨rfl, h1, b1⟩)
            | (go_at_call 81; refine (HU.out _ _ h1).mono ?_; rintro e w2 ⟨rfl, h2, m2⟩)
            | (go_at_call 82; refine (HE.out _ _ _ _ h2).mono ?_; rintro e w3 ⟨rfl, rfl⟩))
          go_ret2
          exact ⟨by rw [HN.out]; simp, b1.trans (m2.below b1.size (fun i hi => by omega))⟩

end Go.Proofs.Ytlalkpgipenkaaa
