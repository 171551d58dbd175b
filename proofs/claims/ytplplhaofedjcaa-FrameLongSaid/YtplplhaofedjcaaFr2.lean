/- Layer 11: the program's Unpack; the document's Unit, Need, Body, Unpack. -/
import Derived.Test.YtplplhaofedjcaaFr1
import Derived.BigRegion
namespace Go.Proofs.Ytplplhaofedjcaa
open Go.RowKit

theorem frNeedP_two (s : List UInt8) : (frNeedP s).2 = 0 → 5 ≤ (frNeedP s).1 := by
  unfold frNeedP
  repeat' split
  all_goals (simp <;> try omega)
theorem frBodyP_len (s : List UInt8) : (frBodyP s).2 = 0 → (frBodyP s).1 = s.drop 4 ∧ 5 ≤ s.length := by
  have := frNeedP_two s
  unfold frBodyP
  repeat' split
  all_goals simp
  all_goals omega
theorem frHd_index (b : List UInt8) (h : 0 < b.length) (W : World) : (Instr.index 9 (.string (bs b)) (.int .i64 0)).run Try.prog W = .ok (.int .u8 (frHd b : Int)) W := by
  have := index_bs b 0 h W
  rw [show ((0 : Nat) : Int) = 0 from rfl] at this
  rw [this]
  cases b with
  | nil => exact absurd h (by decide)
  | cons c r => rfl
theorem frHd_lt (b : List UInt8) : frHd b < 256 := UInt8.toNat_lt _
theorem frMid (b : List UInt8) (m : Nat) : (bs b).extract 1 (1 + m) = bs ((b.drop 1).take m) := by
  apply ByteArray.ext
  apply Array.ext'
  rw [ByteArray.data_extract, Array.toList_extract]
  simp [bs, List.extract, Nat.add_sub_cancel_left]
theorem frSlice (b : List UInt8) (m : Nat) (hm : 1 + m ≤ b.length) (W : World) : (Instr.slice 9 (.string (bs b)) (some (.int .i64 1)) (some (.int .i64 (1 + (m : Int)))) none).run Try.prog W = .ok (.string (bs ((b.drop 1).take m))) W := by
  have h := run_slice_string (P := Try.prog) W 9 (bs b) .i64 .i64 1 (1 + (m : Int)) Try.underlying9 (by omega) (by omega) (by rw [bs_size]; omega)
  rw [h, show (1 : Int).toNat = 1 from rfl, show (1 + (m : Int)).toNat = 1 + m by omega, frMid]

set_option maxRecDepth 100000 in
theorem frUnpack_any (s : List UInt8) (hs : s.length ≤ 1000000) (w : World) : Calls Try.prog 10 #[.string (bs s)] w fun e w' => e = .returned (.tuple #[.string (bs (frUnpackP s).1), .int .i64 ((frUnpackP s).2 : Int)]) ∧ Below w.heap.size w w' := by
  have hsz := bs_size s
  have HB := Lib.hid (fun W => frBody_any s hs W)
  have HZ : Hid (bs ([] : List UInt8) = ⟨#[]⟩) := rfl
  have hP : frUnpackP s = if (frBodyP s).2 ≠ 0 then ([], (frBodyP s).2) else if frBad s (frBodyP s).1 = true then ([], 3) else
    if 32768 < (frBodyP s).1.length - 1 - frHd (frBodyP s).1 then ([], 2) else (((frBodyP s).1.drop 1).take ((frBodyP s).1.length - 1 - frHd (frBodyP s).1), 0) := rfl
  have hL := frBodyP_len s
  generalize frBodyP s = p at *
  obtain ⟨b, e0⟩ := p
  simp only at HB hP hL
  by_cases h0 : e0 = 0
  · subst h0
    obtain ⟨hb, hl5⟩ := hL rfl
    have hbl : b.length + 4 = s.length := by rw [hb, List.length_drop]; omega
    simp only [ne_eq, not_true_eq_false, if_false] at hP
    have hi := frHd_index b (by omega)
    have hlt := frHd_lt b
    have hbz := bs_size b
    have HM := Lib.hid (frSlice b)
    have hbad : frBad s b = decide (s.length % 8 ≠ 0 ∨ frHd b < 4 ∨ 64 < frHd b ∨ b.length < frHd b + 2) := rfl
    clear hL hb
    generalize frBad s b = bad at *
    by_cases h8 : s.length % 8 = 0
    · have q8 : ((s.length : Int) % 8 != 0) = false := by rw [bne_eq_false_iff_eq]; omega
      by_cases h4 : frHd b < 4
      · rw [decide_eq_true (by omega)] at hbad
        rw [hbad] at hP
        have HP := Lib.hid (hP.trans (if_pos rfl))
        have q4 : decide ((frHd b : Int) < 4) = true := decide_eq_true (by omega)
        clear hP hbad h8 HM
        generalize frHd b = n at *
        generalize bs b = B at *
        generalize bs s = S at *
        go_enter Try.func10, Try.ntmps10
        go_wp2_with (go_at_call 11; refine (HB.out _).mono ?_; rintro e w1 ⟨rfl, b1⟩)
        go_ret2
        exact ⟨by rw [HP.out, HZ.out]; rfl, b1⟩
      · have q4 : decide ((frHd b : Int) < 4) = false := decide_eq_false (by omega)
        by_cases h64 : 64 < frHd b
        · rw [decide_eq_true (by omega)] at hbad
          rw [hbad] at hP
          have HP := Lib.hid (hP.trans (if_pos rfl))
          have q64 : decide ((frHd b : Int) > 64) = true := decide_eq_true (by omega)
          clear hP hbad h8 HM
          generalize frHd b = n at *
          generalize bs b = B at *
          generalize bs s = S at *
          go_enter Try.func10, Try.ntmps10
          go_wp2_with (go_at_call 11; refine (HB.out _).mono ?_; rintro e w1 ⟨rfl, b1⟩)
          go_ret2
          exact ⟨by rw [HP.out, HZ.out]; rfl, b1⟩
        · have q64 : decide ((frHd b : Int) > 64) = false := decide_eq_false (by omega)
          by_cases h2 : b.length < frHd b + 2
          · rw [decide_eq_true (by omega)] at hbad
            rw [hbad] at hP
            have HP := Lib.hid (hP.trans (if_pos rfl))
            have q2 : decide ((b.length : Int) - 1 - (frHd b : Int) < 1) = true := decide_eq_true (by omega)
            clear hP hbad h8 HM
            generalize frHd b = n at *
            generalize bs b = B at *
            generalize bs s = S at *
            go_enter Try.func10, Try.ntmps10
            go_wp2_with (go_at_call 11; refine (HB.out _).mono ?_; rintro e w1 ⟨rfl, b1⟩)
            go_ret2
            exact ⟨by rw [HP.out, HZ.out]; rfl, b1⟩
          · rw [decide_eq_false (by omega)] at hbad
            rw [hbad] at hP
            have hP := hP.trans (if_neg (by simp))
            obtain ⟨m, hm⟩ : ∃ m, m = b.length - 1 - frHd b := ⟨_, rfl⟩
            rw [← hm] at hP
            have he : (b.length : Int) - 1 - (frHd b : Int) = (m : Int) := by omega
            have hm1 : 1 ≤ m := by omega
            have hm2 : 1 + m ≤ b.length := by omega
            have hm3 : m ≤ 1000000 := by omega
            have q2 : decide ((m : Int) < 1) = false := decide_eq_false (by omega)
            by_cases h3 : 32768 < m
            · have HP := Lib.hid (hP.trans (if_pos h3))
              have q3 : decide ((m : Int) > 32768) = true := decide_eq_true (by omega)
              clear hP hbad h8 HM hm
              generalize frHd b = n at *
              generalize bs b = B at *
              generalize bs s = S at *
              go_enter Try.func10, Try.ntmps10
              go_wp2_with (go_at_call 11; refine (HB.out _).mono ?_; rintro e w1 ⟨rfl, b1⟩)
              go_ret2
              exact ⟨by rw [HP.out, HZ.out]; rfl, b1⟩
            · have HP := Lib.hid (hP.trans (if_neg h3))
              have q3 : decide ((m : Int) > 32768) = false := decide_eq_false (by omega)
              have hx := HM.out m (by omega)
              obtain ⟨D, hD⟩ : ∃ D, D = bs ((b.drop 1).take m) := ⟨_, rfl⟩
              rw [← hD] at hx
              have HD := Lib.hid hD
              clear hP hbad h8 HM hm hD
              generalize frHd b = n at *
              generalize bs b = B at *
              generalize bs s = S at *
              go_enter Try.func10, Try.ntmps10
              go_wp2_with (go_at_call 11; refine (HB.out _).mono ?_; rintro e w1 ⟨rfl, b1⟩)
              go_ret2
              exact ⟨by rw [HP.out, ← HD.out]; rfl, b1⟩
    · have q8 : ((s.length : Int) % 8 != 0) = true := by rw [bne_iff_ne]; omega
      rw [decide_eq_true (by omega)] at hbad
      rw [hbad] at hP
      have HP := Lib.hid (hP.trans (if_pos rfl))
      clear hP hbad h8 HM
      generalize frHd b = n at *
      generalize bs b = B at *
      generalize bs s = S at *
      go_enter Try.func10, Try.ntmps10
      go_wp2_with (go_at_call 11; refine (HB.out _).mono ?_; rintro e w1 ⟨rfl, b1⟩)
      go_ret2
      exact ⟨by rw [HP.out, HZ.out]; rfl, b1⟩
  · rw [if_pos h0] at hP
    have HP := Lib.hid hP
    have q0 : ((e0 : Int) != 0) = true := by simp; omega
    clear hP hL
    generalize bs b = B at *
    generalize bs s = S at *
    go_enter Try.func10, Try.ntmps10
    go_wp2_with (go_at_call 11; refine (HB.out _).mono ?_; rintro e w1 ⟨rfl, b1⟩)
    go_ret2
    exact ⟨by rw [HP.out, HZ.out]; rfl, b1⟩
end Go.Proofs.Ytplplhaofedjcaa
