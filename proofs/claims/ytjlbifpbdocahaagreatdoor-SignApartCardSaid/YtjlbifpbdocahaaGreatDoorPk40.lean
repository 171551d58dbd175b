/- Part 40 of what the statement wants. -/
import Derived.Test.YtjlbifpbdocahaaGreatDoorPk37
import Derived.Test.YtjlbifpbdocahaaGreatDoorPk39
namespace Go.Proofs.YtjlbifpbdocahaaGreatDoor
open Go.RowKit Go.WideShapes Go.ChangeShapes Go.Deep

set_option maxHeartbeats 4000000 in
set_option maxRecDepth 100000 in
theorem SignApart_long {w : World} (hg : TypeOfError w) {v : Value} {l : List MakeR} (hM : MakesAt w v l) (hlm : l.length ≤ maxLen) (hls : ∀ x ∈ l, x.s.length ≤ maxLen) (x0 s0 s1 a0 a1 : Int) (U0 V0 G0 U1 V1 G1 : ByteArray) (f r0 r1 : Bool) (hf : fewP l 20 = f)
    (h0 : ∀ W, Calls Tryz.prog 7 #[.agg #[.int .i64 s0, .string U0, .string V0, .string G0, .int .i64 a0]] W fun e w' => e = .returned (.bool r0) ∧ Below W.heap.size W w') (h1 : ∀ W, Calls Tryz.prog 7 #[.agg #[.int .i64 s1, .string U1, .string V1, .string G1, .int .i64 a1]] W fun e w' => e = .returned (.bool r1) ∧ Below W.heap.size W w') (hr : (!f || !r0 || !r1) = true) :
    Calls Tryz.prog 4 #[v, .agg #[.int .i64 s0, .string U0, .string V0, .string G0, .int .i64 a0, .int .i64 s1, .string U1, .string V1, .string G1, .int .i64 a1], .int .i64 x0] w fun e w' => e = .returned (.bool true) ∧ Below w.heap.size w w' := by
  have b0 : Below w.heap.size w (w.alloc (.cells #[.int .i64 s0, .string U0, .string V0, .string G0, .int .i64 a0, .int .i64 s1, .string U1, .string V1, .string G1, .int .i64 a1] 26)) := (Below.refl _ _).alloc (Nat.le_refl _) _
  have hY : Holds (w.alloc (.cells #[.int .i64 s0, .string U0, .string V0, .string G0, .int .i64 a0, .int .i64 s1, .string U1, .string V1, .string G1, .int .i64 a1] 26)) w.heap.size 26 #[.int .i64 s0, .string U0, .string V0, .string G0, .int .i64 a0, .int .i64 s1, .string U1, .string V1, .string G1, .int .i64 a1] := Holds.new w _ _
  obtain ⟨W0, hW0⟩ : ∃ W0, Hid (W0 = w.alloc (.cells #[.int .i64 s0, .string U0, .string V0, .string G0, .int .i64 a0, .int .i64 s1, .string U1, .string V1, .string G1, .int .i64 a1] 26)) := ⟨_, Lib.hid rfl⟩
  rw [← hW0.out] at b0 hY
  have hM0 := makes_below22 hM b0
  have HFw := few_any hM0 20 hls hlm
  rw [hf] at HFw
  have HFw := Lib.hid HFw
  have HF0 := Lib.hid h0
  have HF1 := Lib.hid h1
  have HAw : Hid (∀ W, Below W0.heap.size W0 W → Calls Tryz.prog 8 #[] W fun e w' => e = .returned (.bool true) ∧ Below W.heap.size W w') := fun W hb => awake22_any W (hg.later (b0.trans (hb.mono b0.size)))
  obtain ⟨ao0, cap0, rfl, _⟩ := id hM0
  have HC : Hid (∀ W, Below W0.heap.size W0 W → W.cell? ⟨w.heap.size, 5, none⟩ = some (.int .i64 s1) ∧ W.cell? ⟨w.heap.size, 6, none⟩ = some (.string U1) ∧ W.cell? ⟨w.heap.size, 7, none⟩ = some (.string V1) ∧ W.cell? ⟨w.heap.size, 8, none⟩ = some (.string G1) ∧ W.cell? ⟨w.heap.size, 9, none⟩ = some (.int .i64 a1)) := fun W hb => by
    have h := (Kept.ofBelow hb).hold _ _ _ (by decide) (by decide) hY
    exact ⟨h.cell 5, h.cell 6, h.cell 7, h.cell 8, h.cell 9⟩
  have y0 := hY.cell 0
  have y1 := hY.cell 1
  have y2 := hY.cell 2
  have y3 := hY.cell 3
  have y4 := hY.cell 4
  have HB0 := Lib.hid b0
  have BR : Below W0.heap.size W0 W0 := Below.refl _ _
  clear hM hM0 hls hlm hg hY b0 hf h0 h1
  cases f with
  | false =>
    go_enter Tryz.func4, Tryz.ntmps4
    go_wp2_with (first
      | (go_at_call 6; rw [← hW0.out]; (with_reducible refine HFw.out.mono ?_); rintro e w' ⟨rfl, hw⟩; have hw := hw.symm; subst hw)
      | (go_at_call 7; (with_reducible refine (HF0.out _).mono ?_); rintro e w3 ⟨rfl, b3⟩; obtain ⟨c5, c6, c7, c8, c9⟩ := HC.out _ b3)
      | (go_at_call 7; (with_reducible refine (HF1.out _).mono ?_); rintro e w4 ⟨rfl, b4⟩; have B4 := b3.trans (b4.mono b3.size))
      | (go_at_call 8; (with_reducible refine (HAw.out _ BR).mono ?_); rintro e w1 ⟨rfl, b1⟩; have B1 := Below.trans BR (b1.mono BR.size)))
    go_ret
    exact ⟨rfl, HB0.out.trans (B1.mono HB0.out.size)⟩
  | true =>
  cases r0 with
  | false =>
    go_enter Tryz.func4, Tryz.ntmps4
    go_wp2_with (first
      | (go_at_call 6; rw [← hW0.out]; (with_reducible refine HFw.out.mono ?_); rintro e w' ⟨rfl, hw⟩; have hw := hw.symm; subst hw)
      | (go_at_call 7; (with_reducible refine (HF0.out _).mono ?_); rintro e w3 ⟨rfl, b3⟩; obtain ⟨c5, c6, c7, c8, c9⟩ := HC.out _ b3)
      | (go_at_call 7; (with_reducible refine (HF1.out _).mono ?_); rintro e w4 ⟨rfl, b4⟩; have B4 := b3.trans (b4.mono b3.size))
      | (go_at_call 8; (with_reducible refine (HAw.out _ b3).mono ?_); rintro e w1 ⟨rfl, b1⟩; have B1 := Below.trans b3 (b1.mono b3.size)))
    go_ret
    exact ⟨rfl, HB0.out.trans (B1.mono HB0.out.size)⟩
  | true =>
  cases r1 with
  | false =>
    go_enter Tryz.func4, Tryz.ntmps4
    go_wp2_with (first
      | (go_at_call 6; rw [← hW0.out]; (with_reducible refine HFw.out.mono ?_); rintro e w' ⟨rfl, hw⟩; have hw := hw.symm; subst hw)
      | (go_at_call 7; (with_reducible refine (HF0.out _).mono ?_); rintro e w3 ⟨rfl, b3⟩; obtain ⟨c5, c6, c7, c8, c9⟩ := HC.out _ b3)
      | (go_at_call 7; (with_reducible refine (HF1.out _).mono ?_); rintro e w4 ⟨rfl, b4⟩; have B4 := b3.trans (b4.mono b3.size))
      | (go_at_call 8; (with_reducible refine (HAw.out _ B4).mono ?_); rintro e w1 ⟨rfl, b1⟩; have B1 := Below.trans B4 (b1.mono B4.size)))
    go_ret
    exact ⟨rfl, HB0.out.trans (B1.mono HB0.out.size)⟩
  | true => simp at hr
theorem SignApart_any {w : World} (hg : TypeOfError w) {v : Value} {l : List MakeR} (hM : MakesAt w v l) (hlm : l.length ≤ maxLen) (hls : ∀ x ∈ l, x.s.length ≤ maxLen) (x0 s0 s1 a0 a1 : Int) (U0 V0 G0 U1 V1 G1 : ByteArray) (m0 : U0.size ≤ maxLen) (m1 : V0.size ≤ maxLen) (m2 : G0.size ≤ maxLen) (m3 : U1.size ≤ maxLen) (m4 : V1.size ≤ maxLen) (m5 : G1.size ≤ maxLen) :
    Calls Tryz.prog 4 #[v, .agg #[.int .i64 s0, .string U0, .string V0, .string G0, .int .i64 a0, .int .i64 s1, .string U1, .string V1, .string G1, .int .i64 a1], .int .i64 x0] w fun e w' => e = .returned (.bool true) ∧ Below w.heap.size w w' := by
  by_cases h : fewP l 20 = true ∧ (U0.size ≤ 100 ∧ V0.size ≤ 100 ∧ G0.size ≤ 100) ∧ (U1.size ≤ 100 ∧ V1.size ≤ 100 ∧ G1.size ≤ 100)
  · obtain ⟨h1, ⟨h2, h3, h4⟩, h5, h6, h7⟩ := h
    obtain ⟨h8, h9⟩ := of_decide_eq_true h1
    have := SignApart_small hg hM (by omega) h9 x0 s0 s1 a0 a1 U0.data.toList V0.data.toList G0.data.toList U1.data.toList V1.data.toList G1.data.toList (by rw [Array.length_toList]; exact h2) (by rw [Array.length_toList]; exact h3) (by rw [Array.length_toList]; exact h4) (by rw [Array.length_toList]; exact h5) (by rw [Array.length_toList]; exact h6) (by rw [Array.length_toList]; exact h7)
    rwa [bs_list, bs_list, bs_list, bs_list, bs_list, bs_list] at this
  · refine SignApart_long hg hM hlm hls x0 s0 s1 a0 a1 U0 V0 G0 U1 V1 G1 _ _ _ rfl (fun W => few22_any s0 a0 U0 V0 G0 _ _ _ rfl rfl rfl m0 m1 m2 W) (fun W => few22_any s1 a1 U1 V1 G1 _ _ _ rfl rfl rfl m3 m4 m5 W) ?_
    rw [← Bool.not_eq_false]
    intro hn
    simp only [Bool.or_eq_false_iff, Bool.not_eq_false', Bool.and_eq_true, decide_eq_true_eq] at hn
    obtain ⟨⟨k1, ⟨k2, k3⟩, k4⟩, ⟨k5, k6⟩, k7⟩ := hn
    exact h ⟨k1, ⟨by omega, by omega, by omega⟩, by omega, by omega, by omega⟩
end Go.Proofs.YtjlbifpbdocahaaGreatDoor
