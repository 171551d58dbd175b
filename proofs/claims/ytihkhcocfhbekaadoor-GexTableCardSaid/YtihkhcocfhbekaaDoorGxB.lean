/- Layer 18: the document's Right, Pick, Name; an error that is wrong. -/
import Derived.Test.YtihkhcocfhbekaaDoorGxA
import Derived.Test.YtihkhcocfhbekaaDoorWr2
import Derived.LoopTactic
namespace Go.Proofs.YtihkhcocfhbekaaDoor
open Go.RowKit

set_option maxRecDepth 100000 in
theorem r18Right_any (a b c : Nat) (w : World) : Calls Tryd.prog 28 #[.int .i64 (a : Int), .int .i64 (b : Int), .int .i64 (c : Int)] w fun e w' => e = .returned (.bool (rightB a b c)) ∧ w' = w := by
  have HI : Hid (rightB a b c = (decide ((a : Int) ≥ (1024 : Int)) && decide ((b : Int) ≥ (a : Int)) && decide ((c : Int) ≥ (b : Int)) && decide ((c : Int) ≤ (8192 : Int)))) := by
    have e1 : decide (1024 ≤ a) = decide ((a : Int) ≥ (1024 : Int)) := decide_eq_decide.2 (by omega)
    have e2 : decide (a ≤ b) = decide ((b : Int) ≥ (a : Int)) := decide_eq_decide.2 (by omega)
    have e3 : decide (b ≤ c) = decide ((c : Int) ≥ (b : Int)) := decide_eq_decide.2 (by omega)
    have e4 : decide (c ≤ 8192) = decide ((c : Int) ≤ (8192 : Int)) := decide_eq_decide.2 (by omega)
    show rightB a b c = _
    unfold rightB
    rw [e1, e2, e3, e4]
  rw [HI.out]
  clear HI
  obtain ⟨r1, q1⟩ : ∃ r, decide ((a : Int) ≥ (1024 : Int)) = r := ⟨_, rfl⟩
  obtain ⟨r2, q2⟩ : ∃ r, decide ((b : Int) ≥ (a : Int)) = r := ⟨_, rfl⟩
  obtain ⟨r3, q3⟩ : ∃ r, decide ((c : Int) ≥ (b : Int)) = r := ⟨_, rfl⟩
  obtain ⟨r4, q4⟩ : ∃ r, decide ((c : Int) ≤ (8192 : Int)) = r := ⟨_, rfl⟩
  rw [q1, q2, q3, q4]
  generalize (a : Int) = x at *
  generalize (b : Int) = y at *
  generalize (c : Int) = z at *
  cases r1 with
  | false => (go_enter Tryd.func28, Tryd.ntmps28; go_wp2_with fail; go_ret; exact ⟨rfl, rfl⟩)
  | true =>
  cases r2 with
  | false => (go_enter Tryd.func28, Tryd.ntmps28; go_wp2_with fail; go_ret; exact ⟨rfl, rfl⟩)
  | true =>
  cases r3 with
  | false => (go_enter Tryd.func28, Tryd.ntmps28; go_wp2_with fail; go_ret; exact ⟨rfl, rfl⟩)
  | true =>
  cases r4 with
  | false => (go_enter Tryd.func28, Tryd.ntmps28; go_wp2_with fail; go_ret; exact ⟨rfl, rfl⟩)
  | true => (go_enter Tryd.func28, Tryd.ntmps28; go_wp2_with fail; go_ret; exact ⟨rfl, rfl⟩)

/-- The first of the sizes for which q holds, among the first k, if there was none yet. -/
def bestU (q : Nat → Bool) (s : Nat → Nat) (b : Nat) : Nat → Nat
  | 0 => b
  | k + 1 => if bestU q s b k = 0 ∧ q k = true then s k else bestU q s b k
def pickBits (a b c : Nat) : Nat := match pickP a b c with
  | some k => szK k
  | none => 0
theorem bestU_some (q : Nat → Bool) (s : Nat → Nat) (b : Nat) (h : b ≠ 0) : ∀ k, bestU q s b k = b
  | 0 => rfl
  | k + 1 => by
    rw [bestU, bestU_some q s b h k, if_neg (fun e => h e.1)]
theorem bestU_zero (q : Nat → Bool) (s : Nat → Nat) (hs : ∀ k, s k ≠ 0) : bestU q s 0 4 = if idxZ q ≥ 0 then s (idxZ q).toNat else 0 := by
  have e : bestU q s 0 4 = if q 0 = true then s 0 else if q 1 = true then s 1 else if q 2 = true then s 2 else if q 3 = true then s 3 else 0 := by
    have step : ∀ b k, bestU q s b (k + 1) = if bestU q s b k = 0 ∧ q k = true then s k else bestU q s b k := fun _ _ => rfl
    by_cases h0 : q 0 = true
    · have e1 : bestU q s 0 1 = s 0 := by rw [step, if_pos ⟨rfl, h0⟩]
      rw [if_pos h0, step, step, step, e1]
      simp [hs]
    · have e1 : bestU q s 0 1 = 0 := by rw [step, if_neg (fun e => h0 e.2)]; rfl
      rw [if_neg h0]
      by_cases h1 : q 1 = true
      · have e2 : bestU q s 0 2 = s 1 := by rw [step, if_pos ⟨e1, h1⟩]
        rw [if_pos h1, step, step, e2]
        simp [hs]
      · have e2 : bestU q s 0 2 = 0 := by rw [step, if_neg (fun e => h1 e.2), e1]
        rw [if_neg h1]
        by_cases h2 : q 2 = true
        · have e3 : bestU q s 0 3 = s 2 := by rw [step, if_pos ⟨e2, h2⟩]
          rw [if_pos h2, step, e3]
          simp [hs]
        · have e3 : bestU q s 0 3 = 0 := by rw [step, if_neg (fun e => h2 e.2), e2]
          rw [if_neg h2, step, e3]
          by_cases h3 : q 3 = true
          · rw [if_pos h3, if_pos ⟨rfl, h3⟩]
          · rw [if_neg h3, if_neg (fun e => h3 e.2)]
  rw [e]
  unfold idxZ
  by_cases h0 : q 0 = true
  · simp [h0]
  · by_cases h1 : q 1 = true
    · simp [h0, h1]
    · by_cases h2 : q 2 = true
      · simp [h0, h1, h2]
      · by_cases h3 : q 3 = true
        · simp [h0, h1, h2, h3]
        · simp [h0, h1, h2, h3]
theorem szK_ne (k : Nat) : szK k ≠ 0 := by unfold szK; omega
theorem pickBits_eq (a b c : Nat) (h : rightB a b c = true) : bestU (fun k => inB a c (szK (3 - k))) (fun k => szK (3 - k)) (bestU (fun k => inB b c (szK k)) szK 0 4) 4 = pickBits a b c := by
  have e1 := bestU_zero (fun k => inB b c (szK k)) szK szK_ne
  have e2 := bestU_zero (fun k => inB a c (szK (3 - k))) (fun k => szK (3 - k)) (fun k => szK_ne _)
  have hp : pickP a b c = if upZ b c ≥ 0 then some (upZ b c).toNat else if downZ a c ≥ 0 then some (3 - (downZ a c).toNat) else none := by
    unfold pickP
    rw [if_pos h]
  unfold pickBits
  rw [hp]
  change _ = if upZ b c ≥ 0 then szK (upZ b c).toNat else 0 at e1
  change _ = if downZ a c ≥ 0 then szK (3 - (downZ a c).toNat) else 0 at e2
  rw [e1]
  by_cases hu : upZ b c ≥ 0
  · rw [if_pos hu, if_pos hu, bestU_some _ _ _ (szK_ne _)]
  · rw [if_neg hu, if_neg hu, e2]
    by_cases hd : downZ a c ≥ 0
    · rw [if_pos hd, if_pos hd]
    · rw [if_neg hd, if_neg hd]

set_option maxHeartbeats 2000000 in
set_option maxRecDepth 100000 in
theorem r18Pick_any (a b c : Nat) (w : World) : Calls Tryd.prog 26 #[.int .i64 (a : Int), .int .i64 (b : Int), .int .i64 (c : Int)] w fun e w' => e = .returned (.int .i64 (pickBits a b c : Int)) ∧ w' = w := by
  have HR := Lib.hid (r18Right_any a b c)
  have hE := pickBits_eq a b c
  have hz : rightB a b c = false → pickBits a b c = 0 := fun h => by
    unfold pickBits pickP
    rw [h]
    rfl
  generalize pickBits a b c = N at *
  generalize rightB a b c = R at *
  cases R with
  | false =>
    obtain rfl := hz rfl
    go_enter Tryd.func26, Tryd.ntmps26
    go_wp2_with (go_at_call 28; (with_reducible refine (HR.out _).mono ?_); rintro e w1 ⟨rfl, rfl⟩)
    go_ret
    exact ⟨rfl, rfl⟩
  | true =>
    have HE := Lib.hid (hE rfl)
    clear hE hz
    go_enter Tryd.func26, Tryd.ntmps26
    go_wp2_with (go_at_call 28; (with_reducible refine (HR.out _).mono ?_); rintro e w1 ⟨rfl, rfl⟩)
    go_loopw [7, 8] (fun v i wr => ∃ k : Nat, k ≤ 4 ∧ i = .int .i64 (1024 * ((k : Int) + 1)) ∧ v = .int .i64 ((bestU (fun k => inB b c (szK k)) szK 0 k : Nat) : Int) ∧ wr = w1) (fun _ i _ => (6000 - intOf i).toNat)
    case atStart => exact ⟨0, Nat.zero_le _, rfl, rfl, rfl⟩
    case round =>
      obtain ⟨k, hk, rfl, rfl, rfl⟩ := hrel
      obtain ⟨V, hV⟩ : ∃ V : Int, V = ((bestU (fun k => inB b c (szK k)) szK 0 k : Nat) : Int) := ⟨_, rfl⟩
      obtain ⟨X, hXe⟩ : ∃ X : Int, X = 1024 * ((k : Int) + 1) := ⟨_, rfl⟩
      obtain ⟨L, hL⟩ : ∃ L : Int, L = (b : Int) := ⟨_, rfl⟩
      obtain ⟨U, hU⟩ : ∃ U : Int, U = (c : Int) := ⟨_, rfl⟩
      obtain ⟨A, hA⟩ : ∃ A : Int, A = (a : Int) := ⟨_, rfl⟩
      obtain ⟨b0, hb0⟩ : ∃ b0 : Nat, b0 = bestU (fun k => inB b c (szK k)) szK 0 4 := ⟨_, rfl⟩
      rw [← hV, ← hXe]
      by_cases hlt : k < 4
      · have hstep : bestU (fun k => inB b c (szK k)) szK 0 (k + 1) = if bestU (fun k => inB b c (szK k)) szK 0 k = 0 ∧ inB b c (szK k) = true then szK k else bestU (fun k => inB b c (szK k)) szK 0 k := rfl
        have hsx : ((szK k : Nat) : Int) = X := by rw [hXe]; unfold szK; omega
        obtain ⟨x1, u1⟩ : ∃ x, decide (X ≥ L) = x := ⟨_, rfl⟩
        obtain ⟨x2, u2⟩ : ∃ x, decide (X ≤ U) = x := ⟨_, rfl⟩
        have hin : inB b c (szK k) = (x1 && x2) := by
          rw [← u1, ← u2, ← hsx, hL, hU, Bool.eq_iff_iff]
          simp only [inB, Bool.and_eq_true, decide_eq_true_eq]
          omega
        rw [hin] at hstep
        obtain ⟨z, hz⟩ : ∃ z, (V == 0) = z := ⟨_, rfl⟩
        have hzz : z = true ↔ bestU (fun k => inB b c (szK k)) szK 0 k = 0 := by rw [← hz, beq_iff_eq]; omega
        have HN : Hid ((bestU (fun k => inB b c (szK k)) szK 0 (k + 1) : Int) = if z = true ∧ (x1 && x2) = true then X else V) := by
          show _ = _
          rw [hstep, ← hsx, hV]
          by_cases hc : z = true ∧ (x1 && x2) = true
          · rw [if_pos hc, if_pos ⟨hzz.1 hc.1, hc.2⟩]
          · rw [if_neg hc, if_neg (fun e => hc ⟨hzz.2 e.1, e.2⟩)]
        have hX1 : X ≤ 4096 := by omega
        have hX2 : 0 ≤ X := by omega
        have HXk : Hid (X = 1024 * ((k : Int) + 1)) := hXe
        clear hstep hsx hin hzz hXe hV hb0 HE
        rw [← hL, ← hU, ← hA]
        clear hL hU hA
        cases x1 with
        | false =>
          go_wp2_with fail
          go_roundw
          case rel => exact ⟨k + 1, by omega, by rw [HXk.out]; go_num, by rw [HN.out, if_neg (by simp)], trivial⟩
          case measure => simp [intOf]; try omega
        | true =>
        cases x2 with
        | false =>
          go_wp2_with fail
          go_roundw
          case rel => exact ⟨k + 1, by omega, by rw [HXk.out]; go_num, by rw [HN.out, if_neg (by simp)], trivial⟩
          case measure => simp [intOf]; try omega
        | true =>
        cases z with
        | false =>
          go_wp2_with fail
          go_roundw
          case rel => exact ⟨k + 1, by omega, by rw [HXk.out]; go_num, by rw [HN.out, if_neg (by simp)], trivial⟩
          case measure => simp [intOf]; try omega
        | true =>
          go_wp2_with fail
          go_roundw
          case rel => exact ⟨k + 1, by omega, by rw [HXk.out]; go_num, by rw [HN.out, if_pos (by simp)], trivial⟩
          case measure => simp [intOf]; try omega
      · obtain rfl : k = 4 := by omega
        rw [← hb0] at hV
        have HE2 : Hid (bestU (fun k => inB a c (szK (3 - k))) (fun k => szK (3 - k)) b0 4 = N) := by rw [hb0]; exact HE.out
        obtain rfl : X = 5120 := by omega
        have HV := Lib.hid hV
        clear hXe hb0 HE hV hlt hk
        go_wp2_with fail
        go_loopw [7, 9] (fun v i W2 => ∃ k : Nat, k ≤ 4 ∧ i = .int .i64 (1024 * (4 - (k : Int))) ∧ v = .int .i64 ((bestU (fun k => inB a c (szK (3 - k))) (fun k => szK (3 - k)) b0 k : Nat) : Int) ∧ W2 = wr) (fun _ i _ => (intOf i).toNat)
        case atStart => exact ⟨0, Nat.zero_le _, rfl, by rw [HV.out]; rfl, rfl⟩
        case round =>
          obtain ⟨k, hk, rfl, rfl, rfl⟩ := hrel
          obtain ⟨V, hV⟩ : ∃ V : Int, V = ((bestU (fun k => inB a c (szK (3 - k))) (fun k => szK (3 - k)) b0 k : Nat) : Int) := ⟨_, rfl⟩
          obtain ⟨X, hXe⟩ : ∃ X : Int, X = 1024 * (4 - (k : Int)) := ⟨_, rfl⟩
          rw [← hV, ← hXe]
          by_cases hlt : k < 4
          · have hstep : bestU (fun k => inB a c (szK (3 - k))) (fun k => szK (3 - k)) b0 (k + 1) = if bestU (fun k => inB a c (szK (3 - k))) (fun k => szK (3 - k)) b0 k = 0 ∧ inB a c (szK (3 - k)) = true then szK (3 - k) else bestU (fun k => inB a c (szK (3 - k))) (fun k => szK (3 - k)) b0 k := rfl
            have hsx : ((szK (3 - k) : Nat) : Int) = X := by rw [hXe]; unfold szK; omega
            obtain ⟨x1, u1⟩ : ∃ x, decide (X ≥ A) = x := ⟨_, rfl⟩
            obtain ⟨x2, u2⟩ : ∃ x, decide (X ≤ U) = x := ⟨_, rfl⟩
            have hin : inB a c (szK (3 - k)) = (x1 && x2) := by
              rw [← u1, ← u2, ← hsx, hA, hU, Bool.eq_iff_iff]
              simp only [inB, Bool.and_eq_true, decide_eq_true_eq]
              omega
            rw [hin] at hstep
            obtain ⟨z, hz⟩ : ∃ z, (V == 0) = z := ⟨_, rfl⟩
            have hzz : z = true ↔ bestU (fun k => inB a c (szK (3 - k))) (fun k => szK (3 - k)) b0 k = 0 := by rw [← hz, beq_iff_eq]; omega
            have HN : Hid ((bestU (fun k => inB a c (szK (3 - k))) (fun k => szK (3 - k)) b0 (k + 1) : Int) = if z = true ∧ (x1 && x2) = true then X else V) := by
              show _ = _
              rw [hstep, ← hsx, hV]
              by_cases hc : z = true ∧ (x1 && x2) = true
              · rw [if_pos hc, if_pos ⟨hzz.1 hc.1, hc.2⟩]
              · rw [if_neg hc, if_neg (fun e => hc ⟨hzz.2 e.1, e.2⟩)]
            have hX1 : X ≥ 1024 := by omega
            have hX2 : X ≤ 4096 := by omega
            have HXk : Hid (X = 1024 * (4 - (k : Int))) := hXe
            clear hstep hsx hin hzz hXe hV HE2
            rw [← hL, ← hU, ← hA]
            clear hL hU hA
            cases x1 with
            | false =>
              go_wp2_with fail
              go_roundw
              case rel => exact ⟨k + 1, by omega, by rw [HXk.out]; go_num, by rw [HN.out, if_neg (by simp)], trivial⟩
              case measure => simp [intOf]; try omega
            | true =>
            cases x2 with
            | false =>
              go_wp2_with fail
              go_roundw
              case rel => exact ⟨k + 1, by omega, by rw [HXk.out]; go_num, by rw [HN.out, if_neg (by simp)], trivial⟩
              case measure => simp [intOf]; try omega
            | true =>
            cases z with
            | false =>
              go_wp2_with fail
              go_roundw
              case rel => exact ⟨k + 1, by omega, by rw [HXk.out]; go_num, by rw [HN.out, if_neg (by simp)], trivial⟩
              case measure => simp [intOf]; try omega
            | true =>
              go_wp2_with fail
              go_roundw
              case rel => exact ⟨k + 1, by omega, by rw [HXk.out]; go_num, by rw [HN.out, if_pos (by simp)], trivial⟩
              case measure => simp [intOf]; try omega
          · obtain rfl : k = 4 := by omega
            rw [HE2.out] at hV
            obtain rfl : X = 0 := by omega
            have HV2 := Lib.hid hV
            clear hV HE2 hXe
            go_wp2_with fail
            go_ret
            exact ⟨by rw [← HV2.out]; rfl, rfl⟩
end Go.Proofs.YtihkhcocfhbekaaDoor
