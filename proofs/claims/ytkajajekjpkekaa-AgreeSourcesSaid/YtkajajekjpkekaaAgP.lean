/- Layer 32: the walk of AgreeSources. -/
import Derived.Test.YtkajajekjpkekaaAgO
import Derived.Test.YtkajajekjpkekaaAgN
namespace Go.Proofs.Ytkajajekjpkekaa
open Go.RowKit

set_option maxHeartbeats 4000000 in
set_option maxRecDepth 100000 in
theorem AgreeSources_any {w : World} {v : Value} {l : List EvV} (h : EventsAt w v l) (ho : ∀ x ∈ l, ∀ u ∈ x.row.toList, CellOk u) (hc : ∀ ao cap, v = .slice ao l.length cap → l.length ≤ cap) (n : Int) :
    Calls Try.prog 3 #[v, .int .i64 n] w fun e w' => e = .returned (.bool true) ∧ Below w.heap.size w w' := by
  have hE := EvsAt.of h hc
  have HAw : Hid (∀ W, Calls Try.prog 6 #[] W fun e w' => e = .returned (.bool true) ∧ Below W.heap.size W w') := fun W => awake32_any W
  by_cases hlen : l.length ≤ 40
  case neg =>
    obtain ⟨ao, cap, rfl, _⟩ := h
    have q : decide ((l.length : Int) > 40) = true := decide_eq_true (by omega)
    clear hE ho hc
    go_enter Try.func3, Try.ntmps3
    go_wp2_with (first | (go_at_call 6; (with_reducible refine (HAw.out _).mono ?_); rintro e w1 ⟨rfl, b1⟩; have B1 := Lib.hid b1; clear b1))
    go_ret
    exact ⟨rfl, B1.out⟩
  case pos =>
    have q : decide ((l.length : Int) > 40) = false := decide_eq_false (by omega)
    have HSo : Hid (∀ W, Below w.heap.size w W → Calls Try.prog 7 #[v, .int .i64 n] W fun e w' => e = .returned (.tuple #[.int .i64 (((srcI l n).getD 0 : Nat) : Int), .bool (srcI l n).isSome]) ∧ Below W.heap.size W w') := fun W hb => agSource_any (hE.below hb) (by omega) ho n
    have HAs : Hid (∀ W, Below w.heap.size w W → Calls Try.prog 8 #[v, .int .i64 n] W fun e w' => e = .returned (.bool (askI l n)) ∧ Below W.heap.size W w') := fun W hb => agAsked_any (hE.below hb) (by omega) ho n
    by_cases hin : existsB l n = true
    case neg =>
      have hx : existsB l n = false := by simpa using hin
      have e1 : srcI l n = none := by unfold srcI; rw [hx]; rfl
      have e2 : askI l n = false := by unfold askI; rw [hx]; rfl
      rw [e1] at HSo
      rw [e2] at HAs
      have hout : n < 0 ∨ ¬ n < 0 ∧ n ≥ l.length := by
        by_cases h0 : n < 0
        · exact .inl h0
        · refine .inr ⟨h0, ?_⟩
          by_cases h1 : n < l.length
          · exact absurd (show existsB l n = true by unfold existsB; rw [decide_eq_true h1, decide_eq_true (by omega)]; rfl) hin
          · omega
      obtain ⟨ao, cap, rfl, _⟩ := h
      clear hE ho hc e1 e2 hx hin
      rcases hout with h0 | ⟨h0, h1⟩
      · have r0 : decide (n < 0) = true := decide_eq_true h0
        go_enter Try.func3, Try.ntmps3
        go_wp2_with (first
          | (go_at_call 7; (with_reducible refine (HSo.out _ (Below.refl _ _)).mono ?_); rintro e w1 ⟨rfl, b1⟩; have B1 := Lib.hid b1; clear b1)
          | (go_at_call 6; (with_reducible refine (HAw.out _).mono ?_); rintro e w2 ⟨rfl, b2⟩; have B2 := Lib.hid (B1.out.trans (b2.mono B1.out.size)); clear b2)
          | (go_at_call 8; (with_reducible refine (HAs.out _ B2.out).mono ?_); rintro e w3 ⟨rfl, b3⟩; have B3 := Lib.hid (B2.out.trans (b3.mono B2.out.size)); clear b3))
        go_ret
        exact ⟨rfl, B3.out⟩
      · have r0 : decide (n < 0) = false := decide_eq_false h0
        have r1 : decide (n ≥ (l.length : Int)) = true := decide_eq_true h1
        go_enter Try.func3, Try.ntmps3
        go_wp2_with (first
          | (go_at_call 7; (with_reducible refine (HSo.out _ (Below.refl _ _)).mono ?_); rintro e w1 ⟨rfl, b1⟩; have B1 := Lib.hid b1; clear b1)
          | (go_at_call 6; (with_reducible refine (HAw.out _).mono ?_); rintro e w2 ⟨rfl, b2⟩; have B2 := Lib.hid (B1.out.trans (b2.mono B1.out.size)); clear b2)
          | (go_at_call 8; (with_reducible refine (HAs.out _ B2.out).mono ?_); rintro e w3 ⟨rfl, b3⟩; have B3 := Lib.hid (B2.out.trans (b3.mono B2.out.size)); clear b3))
        go_ret
        exact ⟨rfl, B3.out⟩
    case pos =>
      obtain ⟨k, rfl, hk⟩ := existsB_nat hin
      have e1 : srcI l (k : Int) = srcK l k := by unfold srcI; rw [hin, Int.toNat_natCast]; rfl
      have e2 : askI l (k : Int) = askedR l k := by
        unfold askI
        rw [hin, Int.toNat_natCast, ask_is hk (fun j hj => SB_is hk hj)]
        rfl
      rw [e1] at HSo
      rw [e2] at HAs
      have HRs : Hid (∀ W, Below w.heap.size w W → Calls Try.prog 9 #[v, .int .i64 (k : Int)] W fun e w' => e = .returned (.int .i64 (match srcK l k with | some i => (i : Int) | none => -1)) ∧ Below W.heap.size W w') := fun W hb => by
        have := rsource_any (h.below hb) (by omega) hk
        rw [src_idx hk] at this
        exact this
      have HRa : Hid (∀ W, Below w.heap.size w W → Calls Try.prog 10 #[v, .int .i64 (k : Int)] W fun e w' => e = .returned (.bool (askedR l k)) ∧ w' = W) := fun W hb => rasked_any (h.below hb) (by omega) hk
      have r0 : decide ((k : Int) < 0) = false := decide_eq_false (by omega)
      have r1 : decide ((k : Int) ≥ (l.length : Int)) = false := decide_eq_false (by omega)
      have r2 : (askedR l k == askedR l k) = true := beq_self_eq_true _
      obtain ⟨ao, cap, rfl, _⟩ := h
      clear hE ho hc e1 e2 hin
      generalize askedR l k = ak at *
      cases hs : srcK l k with
      | none =>
        rw [hs] at HSo HRs
        have HSo : Hid (∀ W, Below w.heap.size w W → Calls Try.prog 7 #[.slice ao l.length cap, .int .i64 (k : Int)] W fun e w' => e = .returned (.tuple #[.int .i64 0, .bool false]) ∧ Below W.heap.size W w') := HSo
        have HRs : Hid (∀ W, Below w.heap.size w W → Calls Try.prog 9 #[.slice ao l.length cap, .int .i64 (k : Int)] W fun e w' => e = .returned (.int .i64 (-1)) ∧ Below W.heap.size W w') := HRs
        have r3 : decide ((-1 : Int) ≥ 0) = false := by decide
        have r4 : max (-1 : Int) 0 = 0 := by decide
        clear hs
        go_enter Try.func3, Try.ntmps3
        go_wp2_with (first
          | (go_at_call 7; (with_reducible refine (HSo.out _ (Below.refl _ _)).mono ?_); rintro e w1 ⟨rfl, b1⟩; have B1 := Lib.hid b1; clear b1)
          | (go_at_call 9; (with_reducible refine (HRs.out _ B1.out).mono ?_); rintro e w2 ⟨rfl, b2⟩; have B2 := Lib.hid (B1.out.trans (b2.mono B1.out.size)); clear b2)
          | (go_at_call 6; (with_reducible refine (HAw.out _).mono ?_); rintro e w3 ⟨rfl, b3⟩; have B3 := Lib.hid (B2.out.trans (b3.mono B2.out.size)); clear b3)
          | (go_at_call 8; (with_reducible refine (HAs.out _ B3.out).mono ?_); rintro e w4 ⟨rfl, b4⟩; have B4 := Lib.hid (B3.out.trans (b4.mono B3.out.size)); clear b4)
          | (go_at_call 10; (with_reducible refine (HRa.out _ B4.out).mono ?_); rintro e w5 ⟨rfl, rfl⟩))
        go_ret
        exact ⟨rfl, B4.out⟩
      | some i =>
        rw [hs] at HSo HRs
        have HSo : Hid (∀ W, Below w.heap.size w W → Calls Try.prog 7 #[.slice ao l.length cap, .int .i64 (k : Int)] W fun e w' => e = .returned (.tuple #[.int .i64 (i : Int), .bool true]) ∧ Below W.heap.size W w') := HSo
        have HRs : Hid (∀ W, Below w.heap.size w W → Calls Try.prog 9 #[.slice ao l.length cap, .int .i64 (k : Int)] W fun e w' => e = .returned (.int .i64 (i : Int)) ∧ Below W.heap.size W w') := HRs
        have r3 : decide ((i : Int) ≥ 0) = true := decide_eq_true (by omega)
        have r4 : max (i : Int) 0 = (i : Int) := by omega
        clear hs
        go_enter Try.func3, Try.ntmps3
        go_wp2_with (first
          | (go_at_call 7; (with_reducible refine (HSo.out _ (Below.refl _ _)).mono ?_); rintro e w1 ⟨rfl, b1⟩; have B1 := Lib.hid b1; clear b1)
          | (go_at_call 9; (with_reducible refine (HRs.out _ B1.out).mono ?_); rintro e w2 ⟨rfl, b2⟩; have B2 := Lib.hid (B1.out.trans (b2.mono B1.out.size)); clear b2)
          | (go_at_call 6; (with_reducible refine (HAw.out _).mono ?_); rintro e w3 ⟨rfl, b3⟩; have B3 := Lib.hid (B2.out.trans (b3.mono B2.out.size)); clear b3)
          | (go_at_call 8; (with_reducible refine (HAs.out _ B3.out).mono ?_); rintro e w4 ⟨rfl, b4⟩; have B4 := Lib.hid (B3.out.trans (b4.mono B3.out.size)); clear b4)
          | (go_at_call 10; (with_reducible refine (HRa.out _ B4.out).mono ?_); rintro e w5 ⟨rfl, rfl⟩))
        go_ret
        exact ⟨rfl, B4.out⟩
end Go.Proofs.Ytkajajekjpkekaa
