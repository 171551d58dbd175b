/- Part 38 of what the statement wants. -/
import Derived.Test.YtpkkeeblgbdfdaaDoorPk30
import Derived.Test.YtpkkeeblgbdfdaaDoorPk31
import Derived.Test.YtpkkeeblgbdfdaaDoorPk32
import Derived.Test.YtpkkeeblgbdfdaaDoorPk37
namespace Go.Proofs.YtpkkeeblgbdfdaaDoor
open Go.RowKit

/-- The first of the events below a place that violates a rule. -/
def pO (l : List EvV) (k : Nat) : Option Nat := (List.range k).find? fun j => (badK (SA l) l j).size != 0
def pI (l : List EvV) (k : Nat) : Int := match pO l k with
  | some j => (j : Int)
  | none => -1
def pW (l : List EvV) (k : Nat) : ByteArray := match pO l k with
  | some j => badK (SA l) l j
  | none => ⟨#[]⟩
theorem pO_next (l : List EvV) (k : Nat) : pO l (k + 1) = match pO l k with
    | some j => some j
    | none => if (badK (SA l) l k).size = 0 then none else some k := by
  unfold pO
  rw [List.range_succ, List.find?_append]
  cases (List.range k).find? fun j => (badK (SA l) l j).size != 0 with
  | some j => rfl
  | none =>
    by_cases h : (badK (SA l) l k).size = 0
    · rw [Option.none_or, List.find?_cons, h]; rfl
    · rw [Option.none_or, List.find?_cons, if_neg h, show ((badK (SA l) l k).size != 0) = true from by simpa using h]
theorem p_empty {l : List EvV} {k : Nat} (h : (badK (SA l) l k).size = 0) : pI l (k + 1) = pI l k ∧ pW l (k + 1) = pW l k := by
  unfold pI pW
  rw [pO_next]
  cases pO l k with
  | some j => exact ⟨rfl, rfl⟩
  | none => simp only [if_pos h]; exact ⟨trivial, trivial⟩
theorem p_some {l : List EvV} {k : Nat} (h : ¬ pI l k < 0) : pI l (k + 1) = pI l k ∧ pW l (k + 1) = pW l k := by
  unfold pI at h
  unfold pI pW
  rw [pO_next]
  cases hp : pO l k with
  | some j => exact ⟨rfl, rfl⟩
  | none => rw [hp] at h; exact absurd (by decide) h
theorem p_none {l : List EvV} {k : Nat} (h : pI l k < 0) (h0 : (badK (SA l) l k).size ≠ 0) : pI l (k + 1) = (k : Int) ∧ pW l (k + 1) = badK (SA l) l k := by
  unfold pI at h
  unfold pI pW
  rw [pO_next]
  cases hp : pO l k with
  | some j => rw [hp] at h; exact absurd h (by simp)
  | none => simp only [if_neg h0]; exact ⟨trivial, trivial⟩
theorem nm_small (i : Nat) : (nmR i).size ≤ 10 := by
  rcases Nat.lt_or_ge i 10 with h | h
  · exact (by decide : ∀ i, i < 10 → (nmR i).size ≤ 10) i h
  · obtain ⟨k, rfl⟩ : ∃ k, i = k + 10 := ⟨i - 10, by omega⟩
    exact (by decide : (nmR 9).size ≤ 10)
theorem bad_small (S : List Int) (l : List EvV) (k : Nat) : (badK S l k).size ≤ 10 := by
  unfold badK
  cases l[k]? with
  | none => exact Nat.zero_le _
  | some x =>
    simp only []
    unfold firstBad
    cases (List.range 10).find? _ with
    | none => exact Nat.zero_le _
    | some i => exact nm_small i
theorem wrongW_small (l : List EvV) : (wrongW (SA l) l).size ≤ 10 := by
  unfold wrongW
  cases wrongO (SA l) l with
  | none => exact Nat.zero_le _
  | some k => exact bad_small _ _ _
def atAgree (S : ByteArray) : ByteArray := ⟨#[97, 103, 114, 101, 101, 32]⟩ ++ S ++ ⟨#[32]⟩
theorem atAgree_is (S : ByteArray) : atP [agreeS, S] = atAgree S := by
  unfold atP atAgree
  simp only [List.foldl_cons, List.foldl_nil]
  rw [show (⟨#[]⟩ : ByteArray) ++ agreeS ++ ⟨#[32]⟩ = ⟨#[97, 103, 114, 101, 101, 32]⟩ from by decide +kernel]
theorem ba_empty {b : ByteArray} (h : b.size = 0) : b = ⟨#[]⟩ := by
  cases b with
  | mk d => congr; exact Array.eq_empty_of_size_eq_zero h
set_option maxHeartbeats 16000000 in
set_option maxRecDepth 100000 in
theorem AgreeRules_any {w : World} (hty : TypeOfError w) {v : Value} {l : List EvV} (h : EventsAt w v l) (ho : ∀ x ∈ l, ∀ u ∈ x.row.toList, CellOk u) (hc : ∀ ao cap, v = .slice ao l.length cap → l.length ≤ cap) (at_ : Int) :
    Calls Tryd.prog 3 #[v, .int .i64 at_] w fun e w' => e = .returned (.bool true) ∧ Below w.heap.size w w' := by
  have hE := EvsAt.of h hc
  have HAw : Hid (∀ W, Calls Tryd.prog 4 #[] W fun e w' => e = .returned (.bool true) ∧ Below W.heap.size W w') := fun W => awake32_any W
  by_cases hlen : l.length ≤ 40
  case neg =>
    obtain ⟨ao, cap, rfl, _⟩ := h
    have q : decide ((l.length : Int) > 40) = true := decide_eq_true (by omega)
    clear hE ho hc
    go_enter Tryd.func3, Tryd.ntmps3
    go_wp2_with (first | (go_at_call 4; (with_reducible refine (HAw.out _).mono ?_); rintro e w1 ⟨rfl, b1⟩; have B1 := Lib.hid b1; clear b1))
    go_ret
    exact ⟨rfl, B1.out⟩
  have q : decide ((l.length : Int) > 40) = false := decide_eq_false (by omega)
  have hbad : ∀ k, k < l.length → badK (SA l) l k = ruleR l k := fun k hk => rule_is hk (fun j hj => SA_is (by omega))
  have HRr : Hid (∀ W k, k < l.length → Below w.heap.size w W → Calls Tryd.prog 5 #[v, .int .i64 (k : Int)] W fun e w' => e = .returned (.string (badK (SA l) l k)) ∧ Below W.heap.size W w') := fun W k hk hb => by rw [hbad k hk]; exact r32Rule_any (h.below hb) (by omega) hk
  have HRp : Hid (∀ W k, k < l.length → Below w.heap.size w W → Calls Tryd.prog 6 #[v, .int .i64 (k : Int)] W fun e w' => e = .returned (.string (badK (SA l) l k)) ∧ Below W.heap.size W w') := fun W k hk hb => by rw [hbad k hk]; exact agRule_yes (hE.below hb) (by omega) ho hk
  have HRn : Hid (∀ W, existsB l at_ = false → Below w.heap.size w W → Calls Tryd.prog 6 #[v, .int .i64 at_] W fun e w' => e = .returned (.string ⟨#[]⟩) ∧ w' = W) := fun W he hb => agRule_no (hE.below hb) at_ he
  have HWr : Hid (∀ W, Below w.heap.size w W → Calls Tryd.prog 7 #[v] W fun e w' => e = .returned (.tuple #[.int .i64 (pI l l.length), .string (pW l l.length)]) ∧ Below W.heap.size W w') := fun W hb => agWrong_any (h.below hb) (by omega) ho
  have HCo : Hid (∀ W, (pW l l.length).size = 0 → Below w.heap.size w W → Calls Tryd.prog 8 #[v] W fun e w' => e = .returned .nilIface ∧ Below W.heap.size W w') := fun W hz hb => agCheck_ok (h.below hb) (by omega) ho hz
  have HCb : Hid (∀ W, (pW l l.length).size ≠ 0 → Below w.heap.size w W → Calls Tryd.prog 8 #[v] W fun e w' => ∃ t u, e = .returned (.iface t u) ∧ ErrAt w' (.iface t u) [agreeS, pW l l.length] (some 14) ∧ Below W.heap.size W w') := fun W hz hb => agCheck_bad (h.below hb) (by omega) ho hz
  have HWg : Hid (∀ (W : World) (t : TypeId) (u : Value), Below w.heap.size w W → ErrAt W (.iface t u) [agreeS, pW l l.length] (some 14) → Calls Tryd.prog 9 #[.iface t u, .agg #[.int .i64 14, .string (⟨#[97, 103, 114, 101, 101, 32]⟩ ++ pW l l.length ++ ⟨#[32]⟩)]] W fun r w' => r = .returned (.bool true) ∧ Below W.heap.size W w') := fun W t u hb he => by
    have := wrong_any (hty.later hb) he (by simp) (fun x hx => by
      simp only [List.mem_cons, List.not_mem_nil, or_false] at hx
      rcases hx with rfl | rfl
      · decide
      · have : (pW l l.length).size ≤ 10 := wrongW_small l
        omega)
    rw [atAgree_is] at this
    exact this
  have hps : (pW l l.length).size ≤ 10 := wrongW_small l
  have HP1 : Hid (∀ k, (badK (SA l) l k).size = 0 → pI l (k + 1) = pI l k ∧ pW l (k + 1) = pW l k) := fun k hz => p_empty hz
  have HP2 : Hid (∀ k, ¬ pI l k < 0 → pI l (k + 1) = pI l k ∧ pW l (k + 1) = pW l k) := fun k hz => p_some hz
  have HP3 : Hid (∀ k, pI l k < 0 → (badK (SA l) l k).size ≠ 0 → pI l (k + 1) = (k : Int) ∧ pW l (k + 1) = badK (SA l) l k) := fun k hz h0 => p_none hz h0
  obtain ⟨ao, cap, rfl, _⟩ := h
  clear hE ho hc hbad hty
  go_enter Tryd.func3, Tryd.ntmps3
  go_wp2_with fail
  go_loopw [5, 6, 7] (fun p s i wr => ∃ k : Nat, k ≤ l.length ∧ i = .int .i64 k ∧ p = .int .i64 (pI l k) ∧ s = .string (pW l k) ∧ Hid (Below w.heap.size w wr)) (fun _ _ i _ => l.length - (intOf i).toNat)
  case atStart => exact ⟨0, Nat.zero_le _, rfl, rfl, rfl, Lib.hid (Below.refl _ _)⟩
  case round =>
    obtain ⟨k, hk, rfl, rfl, rfl, HB⟩ := hrel
    by_cases hlt : k < l.length
    case pos =>
      have hki : (k : Int) < (l.length : Int) := by omega
      have H1 := Lib.hid (fun W hb => HRr.out W k hlt hb)
      have H2 := Lib.hid (fun W hb => HRp.out W k hlt hb)
      have G1 := Lib.hid (HP1.out k)
      have G2 := Lib.hid (HP2.out k)
      have G3 := Lib.hid (HP3.out k)
      clear HRr HRp HRn HWr HCo HCb HWg HP1 HP2 HP3 HAw hps
      generalize badK (SA l) l k = rk at *
      generalize hpi : pI l k = pi at *
      have HPi := Lib.hid hpi
      clear hpi
      generalize hpw : pW l k = pw at *
      have HPw := Lib.hid hpw
      clear hpw
      by_cases hz : rk.size = 0
      · have e := ba_empty hz
        subst e
        obtain ⟨g1, g2⟩ := G1.out rfl
        have HG1 := Lib.hid g1
        have HG2 := Lib.hid g2
        clear g1 g2 G1 G2 G3 hz
        go_wp2_with (first
          | (go_at_call 5; (with_reducible refine (H1.out _ HB.out).mono ?_); rintro e w1 ⟨rfl, b1⟩; have B1 := Lib.hid (HB.out.trans (b1.mono HB.out.size)); clear b1)
          | (go_at_call 6; (with_reducible refine (H2.out _ B1.out).mono ?_); rintro e w2 ⟨rfl, b2⟩; have B2 := Lib.hid (B1.out.trans (b2.mono B1.out.size)); clear b2))
        go_roundw
        case rel => exact ⟨k + 1, by omega, by go_num, by rw [HG1.out], by rw [HG2.out], B2⟩
        case measure => simp [intOf]; omega
      · have hem := empty32 hz
        by_cases hp : pi < 0
        · have qp : decide (pi < 0) = true := decide_eq_true hp
          obtain ⟨g1, g2⟩ := G3.out hp hz
          have HG1 := Lib.hid g1
          have HG2 := Lib.hid g2
          clear g1 g2 G1 G2 G3 hz
          go_wp2_with (first
            | (go_at_call 5; (with_reducible refine (H1.out _ HB.out).mono ?_); rintro e w1 ⟨rfl, b1⟩; have B1 := Lib.hid (HB.out.trans (b1.mono HB.out.size)); clear b1)
            | (go_at_call 6; (with_reducible refine (H2.out _ B1.out).mono ?_); rintro e w2 ⟨rfl, b2⟩; have B2 := Lib.hid (B1.out.trans (b2.mono B1.out.size)); clear b2))
          go_roundw
          case rel => exact ⟨k + 1, by omega, by go_num, by rw [HG1.out], by rw [HG2.out], B2⟩
          case measure => simp [intOf]; omega
        · have qp : decide (pi < 0) = false := decide_eq_false hp
          obtain ⟨g1, g2⟩ := G2.out (by omega)
          have HG1 := Lib.hid g1
          have HG2 := Lib.hid g2
          clear g1 g2 G1 G2 G3 hz
          go_wp2_with (first
            | (go_at_call 5; (with_reducible refine (H1.out _ HB.out).mono ?_); rintro e w1 ⟨rfl, b1⟩; have B1 := Lib.hid (HB.out.trans (b1.mono HB.out.size)); clear b1)
            | (go_at_call 6; (with_reducible refine (H2.out _ B1.out).mono ?_); rintro e w2 ⟨rfl, b2⟩; have B2 := Lib.hid (B1.out.trans (b2.mono B1.out.size)); clear b2))
          go_roundw
          case rel => exact ⟨k + 1, by omega, by go_num, by rw [HG1.out], by rw [HG2.out], B2⟩
          case measure => simp [intOf]; omega
    have hkl : k = l.length := by omega
    subst hkl
    clear HRr HRp HP1 HP2 HP3 hlt
    have HEx : Hid (existsB l at_ = (decide (at_ ≥ 0) && decide (at_ < (l.length : Int)))) := rfl
    generalize existsB l at_ = ex at *
    generalize hln : l.length = n at *
    clear hln
    generalize pI l n = pi at *
    generalize pW l n = pw at *
    by_cases hz : pw.size = 0
    · have HC := Lib.hid (fun W hb => HCo.out W hz hb)
      have e := ba_empty hz
      subst e
      clear HCo HCb HWg hz
      by_cases h0 : at_ < 0
      · have q0 : decide (at_ < 0) = true := decide_eq_true h0
        have HN := Lib.hid (fun W hb => HRn.out W (by rw [HEx.out, decide_eq_false (by omega)]; rfl) hb)
        clear HRn HEx
        go_wp2_with (first
          | (go_at_call 7; (with_reducible refine (HWr.out _ HB.out).mono ?_); rintro e w1 ⟨rfl, b1⟩; have B1 := Lib.hid (HB.out.trans (b1.mono HB.out.size)); clear b1)
          | (go_at_call 8; (with_reducible refine (HC.out _ B1.out).mono ?_); rintro e w2 ⟨rfl, b2⟩; have B2 := Lib.hid (B1.out.trans (b2.mono B1.out.size)); clear b2)
          | (go_at_call 6; (with_reducible refine (HN.out _ B2.out).mono ?_); rintro e w3 ⟨rfl, hw⟩; have hw := hw.symm; subst hw)
          | (go_at_call 4; (with_reducible refine (HAw.out _).mono ?_); rintro e w4 ⟨rfl, b4⟩; have B4 := Lib.hid (B2.out.trans (b4.mono B2.out.size)); clear b4))
        go_ret
        exact ⟨rfl, B4.out⟩
      have q0 : decide (at_ < 0) = false := decide_eq_false h0
      by_cases h1 : at_ ≥ (n : Int)
      · have q1 : decide (at_ ≥ (n : Int)) = true := decide_eq_true h1
        have HN := Lib.hid (fun W hb => HRn.out W (by rw [HEx.out, decide_eq_false (p := at_ < (n : Int)) (by omega), Bool.and_false]) hb)
        clear HRn HEx
        go_wp2_with (first
          | (go_at_call 7; (with_reducible refine (HWr.out _ HB.out).mono ?_); rintro e w1 ⟨rfl, b1⟩; have B1 := Lib.hid (HB.out.trans (b1.mono HB.out.size)); clear b1)
          | (go_at_call 8; (with_reducible refine (HC.out _ B1.out).mono ?_); rintro e w2 ⟨rfl, b2⟩; have B2 := Lib.hid (B1.out.trans (b2.mono B1.out.size)); clear b2)
          | (go_at_call 6; (with_reducible refine (HN.out _ B2.out).mono ?_); rintro e w3 ⟨rfl, hw⟩; have hw := hw.symm; subst hw)
          | (go_at_call 4; (with_reducible refine (HAw.out _).mono ?_); rintro e w4 ⟨rfl, b4⟩; have B4 := Lib.hid (B2.out.trans (b4.mono B2.out.size)); clear b4))
        go_ret
        exact ⟨rfl, B4.out⟩
      have q1 : decide (at_ ≥ (n : Int)) = false := decide_eq_false h1
      clear HRn HEx
      go_wp2_with (first
        | (go_at_call 7; (with_reducible refine (HWr.out _ HB.out).mono ?_); rintro e w1 ⟨rfl, b1⟩; have B1 := Lib.hid (HB.out.trans (b1.mono HB.out.size)); clear b1)
        | (go_at_call 8; (with_reducible refine (HC.out _ B1.out).mono ?_); rintro e w2 ⟨rfl, b2⟩; have B2 := Lib.hid (B1.out.trans (b2.mono B1.out.size)); clear b2)
        | (go_at_call 4; (with_reducible refine (HAw.out _).mono ?_); rintro e w4 ⟨rfl, b4⟩; have B4 := Lib.hid (B2.out.trans (b4.mono B2.out.size)); clear b4))
      go_ret
      exact ⟨rfl, B4.out⟩
    · have HC := Lib.hid (fun W hb => HCb.out W hz hb)
      have hem := empty32 hz
      have hS2 : ((⟨#[97, 103, 114, 101, 101, 32]⟩ : ByteArray) ++ pw).size ≤ 2000 := by
        rw [ByteArray.size_append]
        have : (⟨#[97, 103, 114, 101, 101, 32]⟩ : ByteArray).size = 6 := rfl
        omega
      clear HCo HCb hz
      by_cases h0 : at_ < 0
      · have q0 : decide (at_ < 0) = true := decide_eq_true h0
        have HN := Lib.hid (fun W hb => HRn.out W (by rw [HEx.out, decide_eq_false (by omega)]; rfl) hb)
        clear HRn HEx
        go_wp2_with (first
          | (go_at_call 7; (with_reducible refine (HWr.out _ HB.out).mono ?_); rintro e w1 ⟨rfl, b1⟩; have B1 := Lib.hid (HB.out.trans (b1.mono HB.out.size)); clear b1)
          | (go_at_call 8; (with_reducible refine (HC.out _ B1.out).mono ?_); rintro e w2 ⟨t2, u2, rfl, e2, b2⟩; have B2 := Lib.hid (B1.out.trans (b2.mono B1.out.size)); have E2 := Lib.hid e2; clear b2 e2)
          | (go_at_call 6; (with_reducible refine (HN.out _ B2.out).mono ?_); rintro e w3 ⟨rfl, hw⟩; have hw := hw.symm; subst hw)
          | (go_at_call 4; (with_reducible refine (HAw.out _).mono ?_); rintro e w4 ⟨rfl, b4⟩; have B4 := Lib.hid (B2.out.trans (b4.mono B2.out.size)); have E4 := Lib.hid (E2.out.later b4); clear b4)
          | (go_at_call 9; (with_reducible refine (HWg.out _ _ _ B4.out E4.out).mono ?_); rintro e w5 ⟨rfl, b5⟩; have B5 := Lib.hid (B4.out.trans (b5.mono B4.out.size)); clear b5))
        go_ret
        exact ⟨rfl, B5.out⟩
      have q0 : decide (at_ < 0) = false := decide_eq_false h0
      by_cases h1 : at_ ≥ (n : Int)
      · have q1 : decide (at_ ≥ (n : Int)) = true := decide_eq_true h1
        have HN := Lib.hid (fun W hb => HRn.out W (by rw [HEx.out, decide_eq_false (p := at_ < (n : Int)) (by omega), Bool.and_false]) hb)
        clear HRn HEx
        go_wp2_with (first
          | (go_at_call 7; (with_reducible refine (HWr.out _ HB.out).mono ?_); rintro e w1 ⟨rfl, b1⟩; have B1 := Lib.hid (HB.out.trans (b1.mono HB.out.size)); clear b1)
          | (go_at_call 8; (with_reducible refine (HC.out _ B1.out).mono ?_); rintro e w2 ⟨t2, u2, rfl, e2, b2⟩; have B2 := Lib.hid (B1.out.trans (b2.mono B1.out.size)); have E2 := Lib.hid e2; clear b2 e2)
          | (go_at_call 6; (with_reducible refine (HN.out _ B2.out).mono ?_); rintro e w3 ⟨rfl, hw⟩; have hw := hw.symm; subst hw)
          | (go_at_call 4; (with_reducible refine (HAw.out _).mono ?_); rintro e w4 ⟨rfl, b4⟩; have B4 := Lib.hid (B2.out.trans (b4.mono B2.out.size)); have E4 := Lib.hid (E2.out.later b4); clear b4)
          | (go_at_call 9; (with_reducible refine (HWg.out _ _ _ B4.out E4.out).mono ?_); rintro e w5 ⟨rfl, b5⟩; have B5 := Lib.hid (B4.out.trans (b5.mono B4.out.size)); clear b5))
        go_ret
        exact ⟨rfl, B5.out⟩
      have q1 : decide (at_ ≥ (n : Int)) = false := decide_eq_false h1
      clear HRn HEx
      go_wp2_with (first
        | (go_at_call 7; (with_reducible refine (HWr.out _ HB.out).mono ?_); rintro e w1 ⟨rfl, b1⟩; have B1 := Lib.hid (HB.out.trans (b1.mono HB.out.size)); clear b1)
        | (go_at_call 8; (with_reducible refine (HC.out _ B1.out).mono ?_); rintro e w2 ⟨t2, u2, rfl, e2, b2⟩; have B2 := Lib.hid (B1.out.trans (b2.mono B1.out.size)); have E2 := Lib.hid e2; clear b2 e2)
        | (go_at_call 4; (with_reducible refine (HAw.out _).mono ?_); rintro e w4 ⟨rfl, b4⟩; have B4 := Lib.hid (B2.out.trans (b4.mono B2.out.size)); have E4 := Lib.hid (E2.out.later b4); clear b4)
        | (go_at_call 9; (with_reducible refine (HWg.out _ _ _ B4.out E4.out).mono ?_); rintro e w5 ⟨rfl, b5⟩; have B5 := Lib.hid (B4.out.trans (b5.mono B4.out.size)); clear b5))
      go_ret
      exact ⟨rfl, B5.out⟩
end Go.Proofs.YtpkkeeblgbdfdaaDoor
