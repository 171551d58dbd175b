/- What is written of a value: bytes. -/
import Derived.Test.YtkdbmfgbokbnfaaGreatDoorMv2
namespace Go.Proofs.YtkdbmfgbokbnfaaGreatDoor
open Go.RowKit

def startsZ : List UInt8 → Bool
  | [] => false
  | b :: _ => decide (b = 0)
theorem hasPrefix_any (l : List UInt8) (hl : l.length ≤ 1000000) (w : World) : Calls Tryz.prog 59 #[.string (bs l), .string ⟨#[0]⟩] w fun e w' => e = .returned (.bool (startsZ l)) ∧ w' = w := by
  have hz1 : (⟨#[0]⟩ : ByteArray).size = 1 := rfl
  have hinner : Calls Tryz.prog 85 #[.string (bs l), .string ⟨#[0]⟩] w fun e w' => e = .returned (.bool (startsZ l)) ∧ w' = w := by
    cases l with
    | nil =>
      rw [show bs ([] : List UInt8) = ⟨#[]⟩ from rfl]
      go_enter Tryz.func85, Tryz.ntmps85
      go_wp2
      go_ret
      exact ⟨rfl, rfl⟩
    | cons b r =>
      have hsz := bs_size (b :: r)
      simp only [List.length_cons] at hsz hl
      have hx : (bs (b :: r)).extract 0 1 = bs [b] := by
        apply ByteArray.ext
        apply Array.toList_inj.1
        rw [ByteArray.data_extract, Array.toList_extract]
        simp [bs, List.extract]
      have hq : ((bs [b]).toList == (⟨#[0]⟩ : ByteArray).toList) = decide (b = 0) := by
        by_cases h : b = 0
        · subst h
          rw [decide_eq_true rfl]
          exact same_yes rfl
        · rw [decide_eq_false h]
          exact same_no fun e => h (by
            have e1 : bs [b] = bs [0] := e
            have := bs_inj e1
            simpa using this)
      have HS : Hid (startsZ (b :: r) = decide (b = 0)) := rfl
      rw [HS.out]
      have hle : 1 ≤ (bs (b :: r)).size := by omega
      have hle2 : (1 : Int) ≤ ((bs (b :: r)).size : Int) := by omega
      rw [← hx] at hq
      clear hx HS hsz
      generalize decide (b = 0) = z at *
      generalize bs (b :: r) = B at *
      generalize (⟨#[0]⟩ : ByteArray) = Z at *
      go_enter Tryz.func85, Tryz.ntmps85
      go_wp2
      go_ret
      exact ⟨by simp_all, rfl⟩
  have HI := Lib.hid hinner
  clear hinner
  generalize bs l = B at *
  generalize (⟨#[0]⟩ : ByteArray) = Z at *
  go_enter Tryz.func59, Tryz.ntmps59
  go_wp2_with (go_at_call 85; with_reducible refine HI.out.mono ?_; rintro e w1 ⟨rfl, hw⟩; have hw := hw.symm; subst hw)
  go_ret
  exact ⟨rfl, rfl⟩

def wrBytes (k : Int) (s : List UInt8) : Wrote := if k = 115 ∨ k = 116 then (cnt s, 0) else if k = 109 ∧ startsZ s = false then (cnt (wholeL s), 0) else if k = 99 ∧ s.length = 16 then (s, 0) else ([], 3)

set_option maxRecDepth 100000 in
theorem bytes_any (k : Int) (s : List UInt8) (hs : s.length ≤ 100000) (w : World) : Calls Tryz.prog 36 #[.int .i32 k, .string (bs s)] w fun e w' => e = wroteV (wrBytes k s) ∧ Below w.heap.size w w' := by
  unfold wroteV
  have HT := Lib.hid (fun W => wText_any s (by omega) W)
  have HW := Lib.hid (fun W => wWhole_any s hs W)
  have HP := Lib.hid (fun W => hasPrefix_any s (by omega) W)
  have hsz := bs_size s
  by_cases h115 : k = 115
  · subst h115
    have hw : wrBytes 115 s = (cnt s, 0) := rfl
    rw [hw]
    clear hw HW HP hsz hs
    generalize bs s = S at *
    go_enter Tryz.func36, Tryz.ntmps36
    go_wp2_with (go_at_call 58; with_reducible refine (HT.out _).mono ?_; rintro e w1 ⟨rfl, b1⟩)
    go_ret2
    exact ⟨rfl, b1⟩
  have q115 : (k == 115) = false := by simpa using h115
  by_cases h116 : k = 116
  · subst h116
    have hw : wrBytes 116 s = (cnt s, 0) := rfl
    rw [hw]
    clear hw HW HP hsz hs
    generalize bs s = S at *
    go_enter Tryz.func36, Tryz.ntmps36
    go_wp2_with (go_at_call 58; with_reducible refine (HT.out _).mono ?_; rintro e w1 ⟨rfl, b1⟩)
    go_ret2
    exact ⟨rfl, b1⟩
  have q116 : (k == 116) = false := by simpa using h116
  by_cases h109 : k = 109
  · subst h109
    cases hz : startsZ s with
    | true =>
      have hw : wrBytes 109 s = ([], 3) := by unfold wrBytes; rw [if_neg (by omega), if_neg (by simp [hz]), if_neg (by omega)]
      rw [hw]
      rw [hz] at HP
      clear hw HW HT hsz hs hz
      generalize bs s = S at *
      go_enter Tryz.func36, Tryz.ntmps36
      go_wp2_with (go_at_call 59; with_reducible refine (HP.out _).mono ?_; rintro e w1 ⟨rfl, hw⟩; have hw := hw.symm; subst hw)
      go_ret2
      exact ⟨rfl, Below.refl _ _⟩
    | false =>
      have hw : wrBytes 109 s = (cnt (wholeL s), 0) := by unfold wrBytes; rw [if_neg (by omega), if_pos ⟨rfl, hz⟩]
      rw [hw]
      rw [hz] at HP
      clear hw HT hsz hs hz
      generalize bs s = S at *
      go_enter Tryz.func36, Tryz.ntmps36
      go_wp2_with (first
        | (go_at_call 59; with_reducible refine (HP.out _).mono ?_; rintro e w1 ⟨rfl, hw⟩; have hw := hw.symm; subst hw)
        | (go_at_call 60; with_reducible refine (HW.out _).mono ?_; rintro e w2 ⟨rfl, b2⟩))
      go_ret2
      exact ⟨rfl, b2⟩
  have q109 : (k == 109) = false := by simpa using h109
  by_cases h99 : k = 99
  · subst h99
    have q16 : ((s.length : Int) == 16) = decide (s.length = 16) := by by_cases h : s.length = 16 <;> simp [h]; omega
    by_cases h16 : s.length = 16
    · have hw : wrBytes 99 s = (s, 0) := by unfold wrBytes; rw [if_neg (by omega), if_neg (by omega), if_pos ⟨rfl, h16⟩]
      rw [hw]
      rw [decide_eq_true h16] at q16
      clear hw HT HW HP hs h16
      generalize bs s = S at *
      generalize s.length = m at *
      go_enter Tryz.func36, Tryz.ntmps36
      go_wp2
      go_ret2
      exact ⟨rfl, Below.refl _ _⟩
    · have hw : wrBytes 99 s = ([], 3) := by unfold wrBytes; rw [if_neg (by omega), if_neg (by omega), if_neg (by omega)]
      rw [hw]
      rw [decide_eq_false h16] at q16
      clear hw HT HW HP hs h16
      generalize bs s = S at *
      generalize s.length = m at *
      go_enter Tryz.func36, Tryz.ntmps36
      go_wp2
      go_ret2
      exact ⟨rfl, Below.refl _ _⟩
  have q99 : (k == 99) = false := by simpa using h99
  have hw : wrBytes k s = ([], 3) := by unfold wrBytes; rw [if_neg (by omega), if_neg (by omega), if_neg (by omega)]
  rw [hw]
  clear hw HT HW HP hs hsz
  generalize bs s = S at *
  go_enter Tryz.func36, Tryz.ntmps36
  go_wp2
  go_ret2
  exact ⟨rfl, Below.refl _ _⟩
end Go.Proofs.YtkdbmfgbokbnfaaGreatDoor
