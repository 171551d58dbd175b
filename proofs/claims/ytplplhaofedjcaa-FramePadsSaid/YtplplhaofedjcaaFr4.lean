/- Layer 11: the document's Body and Unpack. -/
import Derived.Test.YtplplhaofedjcaaFr3
namespace Go.Proofs.Ytplplhaofedjcaa
open Go.RowKit

set_option maxRecDepth 100000 in
theorem rfBody_any (s : List UInt8) (hs : s.length ≤ 1000000) (w : World) : Calls Try.prog 16 #[.string (bs s)] w fun e w' => e = .returned (.tuple #[.string (bs (frBodyP s).1), .int .i64 ((frBodyP s).2 : Int)]) ∧ Below w.heap.size w w' := by
  have hsz := bs_size s
  have HN := Lib.hid (fun W => rfNeed_any s hs W)
  have HZ : Hid (bs ([] : List UInt8) = ⟨#[]⟩) := rfl
  have hB : frBodyP s = if (frNeedP s).2 ≠ 0 then ([], (frNeedP s).2) else if s.length < (frNeedP s).1 then ([], 4) else if (frNeedP s).1 < s.length then ([], 3) else (s.drop 4, 0) := rfl
  have hd := bs_drop s 4
  have hle : (bs s).size ≤ 1000000 := by omega
  have hb := frNeedP_two s
  generalize frNeedP s = p at *
  obtain ⟨n, e0⟩ := p
  simp only at HN hB hb
  by_cases h0 : e0 = 0
  · subst h0
    have hn4 := hb rfl
    simp only [ne_eq, not_true_eq_false, if_false] at hB
    clear hb
    by_cases h1 : s.length < n
    · rw [if_pos h1] at hB
      have HB := Lib.hid hB
      have q1 : decide ((s.length : Int) < (n : Int)) = true := decide_eq_true (by omega)
      clear hB hd
      generalize bs s = S at *
      go_enter Try.func16, Try.ntmps16
      go_wp2_with (go_at_call 15; refine (HN.out _).mono ?_; rintro e w1 ⟨rfl, b1⟩)
      go_ret2
      exact ⟨by rw [HB.out, HZ.out]; rfl, b1⟩
    · rw [if_neg h1] at hB
      have q1 : decide ((s.length : Int) < (n : Int)) = false := decide_eq_false (by omega)
      by_cases h2 : n < s.length
      · rw [if_pos h2] at hB
        have HB := Lib.hid hB
        have q2 : decide ((s.length : Int) > (n : Int)) = true := decide_eq_true (by omega)
        clear hB hd
        generalize bs s = S at *
        go_enter Try.func16, Try.ntmps16
        go_wp2_with (go_at_call 15; refine (HN.out _).mono ?_; rintro e w1 ⟨rfl, b1⟩)
        go_ret2
        exact ⟨by rw [HB.out, HZ.out]; rfl, b1⟩
      · rw [if_neg h2] at hB
        have HB := Lib.hid hB
        have q2 : decide ((s.length : Int) > (n : Int)) = false := decide_eq_false (by omega)
        have q4 : 4 ≤ s.length := by omega
        obtain ⟨D, hD⟩ : ∃ D, D = bs (s.drop 4) := ⟨_, rfl⟩
        rw [← hD, hsz] at hd
        have HD := Lib.hid hD
        clear hB hD
        generalize bs s = S at *
        go_enter Try.func16, Try.ntmps16
        go_wp2_with (go_at_call 15; refine (HN.out _).mono ?_; rintro e w1 ⟨rfl, b1⟩)
        go_ret2
        exact ⟨by rw [HB.out, ← HD.out]; rfl, b1⟩
  · rw [if_pos h0] at hB
    have HB := Lib.hid hB
    have q0 : ((e0 : Int) != 0) = true := by simp; omega
    clear hB hb hd
    generalize bs s = S at *
    go_enter Try.func16, Try.ntmps16
    go_wp2_with (go_at_call 15; refine (HN.out _).mono ?_; rintro e w1 ⟨rfl, b1⟩)
    go_ret2
    exact ⟨by rw [HB.out, HZ.out]; rfl, b1⟩

set_option maxRecDepth 100000 in
theorem rfUnpack_any (s : List UInt8) (hs : s.length ≤ 1000000) (w : World) : Calls Try.prog 17 #[.string (bs s)] w fun e w' => e = .returned (.tuple #[.string (bs (frUnpackP s).1), .int .i64 ((frUnpackP s).2 : Int)]) ∧ Below w.heap.size w w' := by
  have HB := Lib.hid (fun W => rfBody_any s hs W)
  have HZ : Hid (bs ([] : List UInt8) = ⟨#[]⟩) := rfl
  have hP : frUnpackP s = if (frBodyP s).2 ≠ 0 then ([], (frBodyP s).2) else if frBad s (frBodyP s).1 = true then ([], 3) else
    if 32768 < (frBodyP s).1.length - 1 - frHd (frBodyP s).1 then ([], 2) else (((frBodyP s).1.drop 1).take ((frBodyP s).1.length - 1 - frHd (frBodyP s).1), 0) := rfl
  have hL := frBodyP_len s
  generalize frBodyP s = p at *
  obtain ⟨b, e0⟩ := p
  simp only at HB hP hL
  by_cases h0 : e0 = 0
  · subst h0
    obtain ⟨hb, hl5⟩ := hL rfl
    have hbl : b.length + 4 = s.length := by rw [hb, List.length_drop]; omega
    simp only [ne_eq, not_true_eq_false, if_false] at hP
    have hi := frHd_index b (by omega)
    have hlt := frHd_lt b
    have hbz := bs_size b
    have HM := Lib.hid (frSlice b)
    have hbad : frBad s b = decide (s.length % 8 ≠ 0 ∨ frHd b < 4 ∨ 64 < frHd b ∨ b.length < frHd b + 2) := rfl
    clear hL hb
    generalize frBad s b = bad at *
    have hs' : s.length = 4 + b.length := by omega
    rw [hs'] at hbad
    by_cases h8 : (4 + b.length) % 8 = 0
    · have q8 : ((4 + (b.length : Int)) % 8 != 0) = false := by rw [bne_eq_false_iff_eq]; omega
      by_cases h4 : frHd b < 4
      · rw [decide_eq_true (by omega)] at hbad
        rw [hbad] at hP
        have HP := Lib.hid (hP.trans (if_pos rfl))
        have q4 : decide ((frHd b : Int) < 4) = true := decide_eq_true (by omega)
        clear hP hbad h8 HM hs'
        generalize frHd b = n at *
        generalize bs b = B at *
        generalize bs s = S at *
        go_enter Try.func17, Try.ntmps17
        go_wp2_with (go_at_call 16; refine (HB.out _).mono ?_; rintro e w1 ⟨rfl, b1⟩)
        go_ret2
        exact ⟨by rw [HP.out, HZ.out]; rfl, b1⟩
      · have q4 : decide ((frHd b : Int) < 4) = false := decide_eq_false (by omega)
        by_cases h64 : 64 < frHd b
        · rw [decide_eq_true (by omega)] at hbad
          rw [hbad] at hP
          have HP := Lib.hid (hP.trans (if_pos rfl))
          have q64 : decide ((frHd b : Int) > 64) = true := decide_eq_true (by omega)
          clear hP hbad h8 HM hs'
          generalize frHd b = n at *
          generalize bs b = B at *
          generalize bs s = S at *
          go_enter Try.func17, Try.ntmps17
          go_wp2_with (go_at_call 16; refine (HB.out _).mono ?_; rintro e w1 ⟨rfl, b1⟩)
          go_ret2
          exact ⟨by rw [HP.out, HZ.out]; rfl, b1⟩
        · have q64 : decide ((frHd b : Int) > 64) = false := decide_eq_false (by omega)
          by_cases h2 : b.length < frHd b + 2
          · rw [decide_eq_true (by omega)] at hbad
            rw [hbad] at hP
            have HP := Lib.hid (hP.trans (if_pos rfl))
            have q2 : decide (1 + (frHd b : Int) ≥ (b.length : Int)) = true := decide_eq_true (by omega)
            clear hP hbad h8 HM hs'
            generalize frHd b = n at *
            generalize bs b = B at *
            generalize bs s = S at *
            go_enter Try.func17, Try.ntmps17
            go_wp2_with (go_at_call 16; refine (HB.out _).mono ?_; rintro e w1 ⟨rfl, b1⟩)
            go_ret2
            exact ⟨by rw [HP.out, HZ.out]; rfl, b1⟩
          · rw [decide_eq_false (by omega)] at hbad
            rw [hbad] at hP
            have hP := hP.trans (if_neg (by simp))
            obtain ⟨m, hm⟩ : ∃ m, m = b.length - 1 - frHd b := ⟨_, rfl⟩
            rw [← hm] at hP
            have he : (b.length : Int) - (frHd b : Int) = 1 + (m : Int) := by omega
            have hm1 : 1 ≤ m := by omega
            have hm2 : 1 + m ≤ b.length := by omega
            have hm3 : m ≤ 1000000 := by omega
            have hml : ((b.drop 1).take m).length = m := by rw [List.length_take, List.length_drop]; omega
            have q2 : decide (1 + (frHd b : Int) ≥ (b.length : Int)) = false := decide_eq_false (by omega)
            have hx := HM.out m (by omega)
            have hdz := bs_size ((b.drop 1).take m)
            rw [hml] at hdz
            obtain ⟨D, hD⟩ : ∃ D, D = bs ((b.drop 1).take m) := ⟨_, rfl⟩
            rw [← hD] at hx hdz
            have HD := Lib.hid hD
            clear hml hD
            by_cases h3 : 32768 < m
            · have HP := Lib.hid (hP.trans (if_pos h3))
              have q3 : decide ((m : Int) > 32768) = true := decide_eq_true (by omega)
              clear hP hbad h8 HM hm hs'
              generalize frHd b = n at *
              generalize bs b = B at *
              generalize bs s = S at *
              go_enter Try.func17, Try.ntmps17
              go_wp2_with (go_at_call 16; refine (HB.out _).mono ?_; rintro e w1 ⟨rfl, b1⟩)
              go_ret2
              exact ⟨by rw [HP.out, HZ.out]; rfl, b1⟩
            · have HP := Lib.hid (hP.trans (if_neg h3))
              have q3 : decide ((m : Int) > 32768) = false := decide_eq_false (by omega)
              clear hP hbad h8 HM hm hs'
              generalize frHd b = n at *
              generalize bs b = B at *
              generalize bs s = S at *
              go_enter Try.func17, Try.ntmps17
              go_wp2_with (go_at_call 16; refine (HB.out _).mono ?_; rintro e w1 ⟨rfl, b1⟩)
              go_ret2
              exact ⟨by rw [HP.out, ← HD.out]; rfl, b1⟩
    · have q8 : ((4 + (b.length : Int)) % 8 != 0) = true := by rw [bne_iff_ne]; omega
      rw [decide_eq_true (by omega)] at hbad
      rw [hbad] at hP
      have HP := Lib.hid (hP.trans (if_pos rfl))
      clear hP hbad h8 HM hs'
      generalize frHd b = n at *
      generalize bs b = B at *
      generalize bs s = S at *
      go_enter Try.func17, Try.ntmps17
      go_wp2_with (go_at_call 16; refine (HB.out _).mono ?_; rintro e w1 ⟨rfl, b1⟩)
      go_ret2
      exact ⟨by rw [HP.out, HZ.out]; rfl, b1⟩
  · rw [if_pos h0] at hP
    have HP := Lib.hid hP
    have q0 : ((e0 : Int) != 0) = true := by simp; omega
    clear hP hL
    generalize bs b = B at *
    generalize bs s = S at *
    go_enter Try.func17, Try.ntmps17
    go_wp2_with (go_at_call 16; refine (HB.out _).mono ?_; rintro e w1 ⟨rfl, b1⟩)
    go_ret2
    exact ⟨by rw [HP.out, HZ.out]; rfl, b1⟩
end Go.Proofs.Ytplplhaofedjcaa
