/- Layer 31: TrustSafe. -/
import Derived.Test.YtfjbpaigbphbbaaEv6a
import Derived.Test.YtfjbpaigbphbbaaEv3
import Derived.Deep.Cut
namespace Go.Proofs.Ytfjbpaigbphbbaa
open Go.RowKit

theorem safeI_out {l : List EvV} {n : Int} (hn : n < 0 ∨ n ≥ l.length) : safeI l n = false := by
  unfold safeI
  rcases hn with hn | hn
  · rw [decide_eq_false (p := n ≥ 0) (by omega)]
    rfl
  · rw [decide_eq_false (p := n < (l.length : Int)) (by omega)]
    simp
set_option maxHeartbeats 4000000 in
set_option maxRecDepth 100000 in
theorem TrustSafe_any {w : World} {v : Value} {l : List EvV} (h : EventsAt w v l) (hl : l.length ≤ maxLen) (ho : ∀ x ∈ l, ∀ u ∈ x.row.toList, CellOk u) (who n : Int) :
    Calls Try.prog 3 #[v, .int .i64 who, .int .i64 n] w fun e w' => e = .returned (.bool true) ∧ Below w.heap.size w w' := by
  have HW : Hid (∀ W, Calls Try.prog 7 #[] W fun e w' => e = .returned (.bool true) ∧ Below W.heap.size W w') := fun W => awake31_any W
  have HE := Lib.hid h
  have hvv := h
  obtain ⟨ao, cap, hv, hc⟩ := h
  by_cases h60 : 60 < l.length
  · have q : decide ((l.length : Int) > 60) = true := decide_eq_true (by omega)
    subst hv
    unfold maxLen at hl
    clear hc ho HE hvv
    go_enter Try.func3, Try.ntmps3
    go_wp2_with (first
      | (go_at_call 7; (with_reducible refine (HW.out _).mono ?_); rintro e w1 ⟨rfl, b1⟩; have B1 := Lib.hid b1; clear b1))
    go_ret
    exact ⟨rfl, B1.out⟩
  have q : decide ((l.length : Int) > 60) = false := decide_eq_false (by omega)
  have HSf := Lib.hid (safes_any hvv (by omega) ho)
  have HRs : Hid (∀ W k (hk : k < l.length), Below w.heap.size w W → Calls Try.prog 9 #[v, .int .i64 (k : Int)] W fun e w' => e = .returned (.bool (safeB l k)) ∧ w' = W) := fun W k hk hb => rsafe_any (HE.out.below hb) hl hk
  have HPs : Hid (∀ W k (hk : k < l.length), Below w.heap.size w W → Calls Try.prog 10 #[v, .int .i64 (k : Int)] W fun e w' => e = .returned (.bool (safeB l k)) ∧ Below W.heap.size W w') := fun W k hk hb => by
    have := safe_any (HE.out.below hb) hl (k : Int)
    rw [safeI_nat hk] at this
    exact this
  have HPn : Hid (∀ W, Below w.heap.size w W → (n < 0 ∨ n ≥ l.length) → Calls Try.prog 10 #[v, .int .i64 n] W fun e w' => e = .returned (.bool false) ∧ Below W.heap.size W w') := fun W hb hn => by
    have := safe_any (HE.out.below hb) hl n
    rw [safeI_out hn] at this
    exact this
  have HGd : Hid (∀ W, Below w.heap.size w W → Calls Try.prog 13 #[v, .int .i64 who] W fun e w' => e = .returned (.bool (goodB l who l.length)) ∧ Below W.heap.size W w') := fun W hb => good_any (HE.out.below hb) (by omega) ho who
  have HKp : Hid (∀ W, Below w.heap.size w W → Calls Try.prog 14 #[v, .int .i64 who, .int .i64 n] W fun e w' => e = .returned (.bool (!aheadB l who n)) ∧ Below W.heap.size W w') := fun W hb => kept_any (HE.out.below hb) hl who n
  have HAh : Hid (∀ W, Below w.heap.size w W → Calls Try.prog 15 #[v, .int .i64 who, .int .i64 n] W fun e w' => e = .returned (.bool (aheadB l who n)) ∧ w' = W) := fun W hb => ahead_any (HE.out.below hb) hl who n
  have HHs : Hid (∀ W W' v' k (hk : k < l.length), IdsAt W v' (safesL l l.length) → Below W.heap.size W W' → Calls Try.prog 11 #[v', .int .i64 (k : Int)] W' fun e w' => e = .returned (.bool (safeB l k)) ∧ w' = W') := fun W W' v' k hk hi hb => by
    have := has31_any (hi.keep hb.size fun _ _ _ _ _ hlt => hb.cell hlt) (by have := safes_len l l.length; unfold maxLen; omega) (k : Int)
    rw [mem_safes hk] at this
    exact this
  have HRi : Hid (∀ W W' v', IdsAt W v' (safesL l l.length) → Below W.heap.size W W' → Calls Try.prog 12 #[v'] W' fun e w' => e = .returned (.bool true) ∧ Below W'.heap.size W' w') := fun W W' v' hi hb =>
    rises31_any (hi.keep hb.size fun _ _ _ _ _ hlt => hb.cell hlt) (by have := safes_len l l.length; unfold maxLen; omega) (safes_rise l _)
  have HLn : Hid ((safesL l l.length).length ≤ l.length) := safes_len l l.length
  have HG0 : Hid (goodB l who 0 = false) := rfl
  have HGs : Hid (∀ k (hk : k < l.length), goodB l who (k + 1) = (goodB l who k || safeB l k && ((l[k]).se == who))) := fun k hk => by rw [goodB_step, atSess_at hk]
  have HC : Hid (∀ k (hk : k < l.length), ∃ b off, ao = some ⟨b, off, none⟩ ∧ ∀ W, Below w.heap.size w W → W.cell? ⟨b, off + k * 34 + 1, none⟩ = some (.int .i64 (l[k]).se)) := fun k hk => by
    obtain ⟨b, off, ha, hb, hcell⟩ := hc (by intro h; simp [h] at hk)
    exact ⟨b, off, ha, fun W hB => (hB.cell (p := ⟨b, off + k * 34 + 1, none⟩) hb).trans (hcell k _ (List.getElem?_eq_getElem hk) 1 _ (EvV.row_se _))⟩
  unfold maxLen at hl
  subst hv
  have h60' : l.length ≤ 60 := by omega
  clear hc ho HE hvv hl h60
  go_enter Try.func3, Try.ntmps3
  go_upto_region 4 with (first
    | (go_at_call 8; (with_reducible refine HSf.out.mono ?_); rintro e w1 ⟨v', rfl, i1, b1⟩; have B1 := Lib.hid b1; have I1 := Lib.hid i1; clear b1 i1))
  obtain ⟨a1, n1, c1, rfl, hn1⟩ : ∃ a n c, v' = .slice a n c ∧ n ≤ l.length := by
    obtain ⟨a, c, hv, _⟩ := I1.out
    exact ⟨a, _, c, hv, HLn.out⟩
  have HHx := Lib.hid (fun W' k hk (hb : Below w1.heap.size w1 W') => HHs.out w1 W' _ k hk I1.out hb)
  have HRx := Lib.hid (fun W' (hb : Below w1.heap.size w1 W') => HRi.out w1 W' _ I1.out hb)
  clear HHs HRi I1 HSf HLn
  go_wp2_with fail
  go_loopw [8, 9] (fun g i wr => ∃ k : Nat, k ≤ l.length ∧ i = .int .i64 k ∧ g = .bool (goodB l who k) ∧ Hid (Below w1.heap.size w1 wr)) (fun _ i _ => l.length - (intOf i).toNat)
  case atStart => exact ⟨0, Nat.zero_le _, rfl, rfl, Lib.hid (Below.refl _ _)⟩
  case round =>
    obtain ⟨k, hk, rfl, rfl, HB⟩ := hrel
    have HBw : Hid (Below w.heap.size w wr) := Lib.hid (B1.out.trans (HB.out.mono B1.out.size))
    by_cases hlt : k < l.length
    · have q0 : decide ((k : Int) < (l.length : Int)) = true := decide_eq_true (by omega)
      have HR := Lib.hid (HRs.out wr k hlt HBw.out)
      have HP := Lib.hid (HPs.out wr k hlt HBw.out)
      have HX := Lib.hid (fun W' (hb : Below w1.heap.size w1 W') => HHx.out W' k hlt hb)
      have HGk := Lib.hid (HGs.out k hlt)
      obtain ⟨b, off, rfl, hcell⟩ := HC.out k hlt
      have HCl := Lib.hid hcell
      generalize hY : goodB l who (k + 1) = Y1 at *
      have HYE := Lib.hid hY
      clear hY hcell HC HGs HRs HPs HPn HGd HKp HAh HHx HRx HG0
      generalize goodB l who k = Y0 at *
      generalize safeB l k = s at *
      generalize (l[k]).se = se at *
      by_cases hse : se = who
      · have q1 : (se == who) = true := by rw [hse]; exact beq_self_eq_true _
        cases s <;> cases Y0
        all_goals
          have HF := HGk.out
          simp only [q1, Bool.and_true, Bool.and_false, Bool.or_true, Bool.or_false, Bool.false_or, Bool.true_or] at HF
          have HF := Lib.hid HF
          clear HGk hse
          go_wp2_with (first
            | (go_at_call 9; (with_reducible refine HR.out.mono ?_); rintro e w2 ⟨rfl, hw⟩; have hw := hw.symm; subst hw)
            | (go_at_call 10; (with_reducible refine HP.out.mono ?_); rintro e w3 ⟨rfl, b3⟩; have B3 := Lib.hid (HB.out.trans (b3.mono HB.out.size)); have B3w := Lib.hid (HBw.out.trans (b3.mono HBw.out.size)); have k3 := HCl.out _ B3w.out; clear b3)
            | (go_at_call 11; (with_reducible refine (HX.out _ B3.out).mono ?_); rintro e w4 ⟨rfl, hw⟩; have hw := hw.symm; subst hw))
          go_roundw
          case rel => exact ⟨k + 1, by omega, by go_num, by rw [HYE.out, HF.out], B3⟩
          case measure => simp [intOf]; omega
      · have q1 : (se == who) = false := by rw [beq_eq_false_iff_ne]; exact hse
        cases s <;> cases Y0
        all_goals
          have HF := HGk.out
          simp only [q1, Bool.and_true, Bool.and_false, Bool.or_true, Bool.or_false, Bool.false_or, Bool.true_or] at HF
          have HF := Lib.hid HF
          clear HGk hse
          go_wp2_with (first
            | (go_at_call 9; (with_reducible refine HR.out.mono ?_); rintro e w2 ⟨rfl, hw⟩; have hw := hw.symm; subst hw)
            | (go_at_call 10; (with_reducible refine HP.out.mono ?_); rintro e w3 ⟨rfl, b3⟩; have B3 := Lib.hid (HB.out.trans (b3.mono HB.out.size)); have B3w := Lib.hid (HBw.out.trans (b3.mono HBw.out.size)); have k3 := HCl.out _ B3w.out; clear b3)
            | (go_at_call 11; (with_reducible refine (HX.out _ B3.out).mono ?_); rintro e w4 ⟨rfl, hw⟩; have hw := hw.symm; subst hw))
          go_roundw
          case rel => exact ⟨k + 1, by omega, by go_num, by rw [HYE.out, HF.out], B3⟩
          case measure => simp [intOf]; omega
    · have hkl : k = l.length := by omega
      subst hkl
      have q0 : decide ((l.length : Int) < (l.length : Int)) = false := decide_eq_false (by omega)
      have q2 : decide ((n1 : Int) > (l.length : Int)) = false := decide_eq_false (by omega)
      have HR := Lib.hid (HRx.out wr HB.out)
      clear HHx HRx HRs HPs HGs HC HG0 hlt
      generalize goodB l who l.length = G at *
      generalize aheadB l who n = A at *
      have q3 : (A == !A) = false := by cases A <;> rfl
      have q4 : ((!A) == A) = false := by cases A <;> rfl
      have q5 : (G == G) = true := by cases G <;> rfl
      by_cases hin : n < 0 ∨ n ≥ l.length
      · have HPn' := Lib.hid (fun W hb => HPn.out W hb hin)
        clear HPn
        by_cases hn0 : n < 0
        · have r0 : decide (n < 0) = true := decide_eq_true hn0
          clear hin
          go_wp2_with (first
            | (go_at_call 12; (with_reducible refine HR.out.mono ?_); rintro e w2 ⟨rfl, b2⟩; have B2 := Lib.hid (HBw.out.trans (b2.mono HBw.out.size)); clear b2)
            | (go_at_call 13; (with_reducible refine (HGd.out _ B2.out).mono ?_); rintro e w3 ⟨rfl, b3⟩; have B3 := Lib.hid (B2.out.trans (b3.mono B2.out.size)); clear b3)
            | (go_at_call 14; (with_reducible refine (HKp.out _ B3.out).mono ?_); rintro e w4 ⟨rfl, b4⟩; have B4 := Lib.hid (B3.out.trans (b4.mono B3.out.size)); clear b4)
            | (go_at_call 15; (with_reducible refine (HAh.out _ B4.out).mono ?_); rintro e w5 ⟨rfl, hw⟩; have hw := hw.symm; subst hw)
            | (go_at_call 7; (with_reducible refine (HW.out _).mono ?_); rintro e w6 ⟨rfl, b6⟩; have B6 := Lib.hid (B4.out.trans (b6.mono B4.out.size)); clear b6)
            | (go_at_call 10; (with_reducible refine (HPn'.out _ B6.out).mono ?_); rintro e w7 ⟨rfl, b7⟩; have B7 := Lib.hid (B6.out.trans (b7.mono B6.out.size)); clear b7))
          go_ret
          exact ⟨rfl, B7.out⟩
        · have r0 : decide (n < 0) = false := decide_eq_false hn0
          have r1 : decide (n ≥ (l.length : Int)) = true := decide_eq_true (by omega)
          clear hin
          go_wp2_with (first
            | (go_at_call 12; (with_reducible refine HR.out.mono ?_); rintro e w2 ⟨rfl, b2⟩; have B2 := Lib.hid (HBw.out.trans (b2.mono HBw.out.size)); clear b2)
            | (go_at_call 13; (with_reducible refine (HGd.out _ B2.out).mono ?_); rintro e w3 ⟨rfl, b3⟩; have B3 := Lib.hid (B2.out.trans (b3.mono B2.out.size)); clear b3)
            | (go_at_call 14; (with_reducible refine (HKp.out _ B3.out).mono ?_); rintro e w4 ⟨rfl, b4⟩; have B4 := Lib.hid (B3.out.trans (b4.mono B3.out.size)); clear b4)
            | (go_at_call 15; (with_reducible refine (HAh.out _ B4.out).mono ?_); rintro e w5 ⟨rfl, hw⟩; have hw := hw.symm; subst hw)
            | (go_at_call 7; (with_reducible refine (HW.out _).mono ?_); rintro e w6 ⟨rfl, b6⟩; have B6 := Lib.hid (B4.out.trans (b6.mono B4.out.size)); clear b6)
            | (go_at_call 10; (with_reducible refine (HPn'.out _ B6.out).mono ?_); rintro e w7 ⟨rfl, b7⟩; have B7 := Lib.hid (B6.out.trans (b7.mono B6.out.size)); clear b7))
          go_ret
          exact ⟨rfl, B7.out⟩
      · have r0 : decide (n < 0) = false := decide_eq_false (by omega)
        have r1 : decide (n ≥ (l.length : Int)) = false := decide_eq_false (by omega)
        clear hin HPn
        go_wp2_with (first
          | (go_at_call 12; (with_reducible refine HR.out.mono ?_); rintro e w2 ⟨rfl, b2⟩; have B2 := Lib.hid (HBw.out.trans (b2.mono HBw.out.size)); clear b2)
          | (go_at_call 13; (with_reducible refine (HGd.out _ B2.out).mono ?_); rintro e w3 ⟨rfl, b3⟩; have B3 := Lib.hid (B2.out.trans (b3.mono B2.out.size)); clear b3)
          | (go_at_call 14; (with_reducible refine (HKp.out _ B3.out).mono ?_); rintro e w4 ⟨rfl, b4⟩; have B4 := Lib.hid (B3.out.trans (b4.mono B3.out.size)); clear b4)
          | (go_at_call 15; (with_reducible refine (HAh.out _ B4.out).mono ?_); rintro e w5 ⟨rfl, hw⟩; have hw := hw.symm; subst hw)
          | (go_at_call 7; (with_reducible refine (HW.out _).mono ?_); rintro e w6 ⟨rfl, b6⟩; have B6 := Lib.hid (B4.out.trans (b6.mono B4.out.size)); clear b6))
        go_ret
        exact ⟨rfl, B6.out⟩
end Go.Proofs.Ytfjbpaigbphbbaa
