/- The document's Scan. -/
import Derived.Test.YtlalkpgipenkaaaLn3
namespace Go.Proofs.Ytlalkpgipenkaaa
open Go.RowKit

theorem lnEmpty (r : List UInt8) : (bs r).toList.isEmpty = decide (r = []) := by
  rw [lnToList]
  cases r <;> rfl
theorem lnOne (r : List UInt8) : ((bs r).toList == [13]) = decide (r = [13]) := by
  rw [lnToList, Bool.eq_iff_iff, beq_iff_eq, decide_eq_true_iff]
/-- How the document's way parts behind the plain bytes. -/
theorem lnWays {x : List UInt8} {k : Nat} (h : lnCount x = k) (hk : k ≤ 253) :
    (decide (x.drop k = []) = true ∧ lnScan x = ([], 0, 4)) ∨ (decide (x.drop k = []) = false ∧ decide (x.drop k = [13]) = true ∧ lnScan x = ([], 0, 4)) ∨
    (decide (x.drop k = []) = false ∧ decide (x.drop k = [13]) = false ∧ ([13, 10] : List UInt8).isPrefixOf (x.drop k) = false ∧ lnScan x = ([], 0, 11)) ∨
    (decide (x.drop k = []) = false ∧ decide (x.drop k = [13]) = false ∧ ([13, 10] : List UInt8).isPrefixOf (x.drop k) = true ∧ lnScan x = (x.take k, k + 2, 0)) := by
  by_cases h1 : x.drop k = []
  · have := (lnShort_iff _).1 (.inl h1)
    exact .inl ⟨decide_eq_true h1, lnScan_short h hk this.1 this.2⟩
  · by_cases h2 : x.drop k = [13]
    · have := (lnShort_iff _).1 (.inr h2)
      exact .inr (.inl ⟨decide_eq_false h1, decide_eq_true h2, lnScan_short h hk this.1 this.2⟩)
    · cases h3 : ([13, 10] : List UInt8).isPrefixOf (x.drop k)
      · cases h4 : (x.drop k).isPrefixOf [13, 10]
        · exact .inr (.inr (.inl ⟨decide_eq_false h1, decide_eq_false h2, rfl, lnScan_wrong h hk h3 h4⟩))
        · rcases (lnShort_iff _).2 ⟨h3, h4⟩ with e | e
          · exact absurd e h1
          · exact absurd e h2
      · exact .inr (.inr (.inr ⟨decide_eq_false h1, decide_eq_false h2, rfl, lnScan_done h hk h3⟩))

set_option maxHeartbeats 2000000 in
set_option maxRecDepth 100000 in
theorem rlScan_any (x : List UInt8) (hx : x.length ≤ 1000000) (w : World) : Calls Try.prog 41 #[.string (bs x)] w fun e w' => e = .returned (.tuple #[.string (bs (lnScan x).1), .int .i64 ((lnScan x).2.1 : Int), .int .i64 ((lnScan x).2.2 : Int)]) ∧ Below w.heap.size w w' := by
  have hsz := bs_size x
  have HI := Lib.hid (fun (k : Nat) (hk : k < x.length) W => lnIndex_bs x k hk W)
  have HT : Hid (∀ k, (bs x).extract 0 k = bs (x.take k)) := fun k => bs_take x k
  have HD : Hid (∀ k, (bs x).extract k x.length = bs (x.drop k)) := fun k => by have := bs_drop x k; rw [hsz] at this; exact this
  have HZ : Hid ((bs []) = ⟨#[]⟩) := rfl
  have HA : Hid (∀ (r : List UInt8) (_ : r.length ≤ 1000000) (W : World), Calls Try.prog 61 #[.string (bs r), .string ⟨#[13, 10]⟩] W fun e w' => e = .returned (.bool (([13, 10] : List UInt8).isPrefixOf r)) ∧ w' = W) := fun r hr W => lnBegins_any r [13, 10] hr (by decide) W
  have hle : (bs x).size ≤ 1000000 := by omega
  generalize bs x = S at *
  go_enter Try.func41, Try.ntmps41
  go_wp2_with fail
  go_loopw [5] (fun i wr => ∃ k : Nat, k ≤ x.length ∧ i = .int .i64 k ∧ (∀ b ∈ x.take k, lnPlainB b = true) ∧ Below w.heap.size w wr) (fun i _ => x.length - (intOf i).toNat)
  case atStart => exact ⟨0, Nat.zero_le _, rfl, by simp, Below.refl _ _⟩
  case round =>
    obtain ⟨k, hk, rfl, htk, hbel⟩ := hrel
    have hway : (∃ (hlt : k < x.length), lnPlainB x[k] = true) ∨ lnCount x = k := by
      by_cases hlt : k < x.length
      · cases hp : lnPlainB x[k]
        · exact .inr (lnCount_at hlt htk hp)
        · exact .inl ⟨hlt, hp⟩
      · have hkl : k = x.length := by omega
        subst hkl
        rw [List.take_length] at htk
        exact .inr (lnCount_all htk)
    rcases hway with ⟨hlt, hp⟩ | hc
    · have c1 := HI.out k hlt
      have HN : Hid (∀ a ∈ x.take (k + 1), lnPlainB a = true) := fun a ha => by
        rw [List.take_succ_eq_append_getElem hlt, List.mem_append] at ha
        rcases ha with ha | ha
        · exact htk a ha
        · simp at ha
          rw [ha]; exact hp
      have hp' : 32 ≤ x[k].toNat ∧ x[k].toNat ≤ 126 := of_decide_eq_true hp
      clear HI HA HT HD hp htk
      generalize x[k].toNat = n at *
      have q1 : decide ((n : Int) ≥ 32) = true := decide_eq_true (by omega)
      have q2 : decide ((n : Int) ≤ 126) = true := decide_eq_true (by omega)
      clear hp'
      go_wp2_with fail
      go_roundw
      case rel => exact ⟨k + 1, by omega, by go_num, HN.out, hbel⟩
      case measure => simp [intOf]; omega
    · have ht := HT.out k
      have hd := HD.out k
      have HAk := Lib.hid (fun W => HA.out (x.drop k) (by simp; omega) W)
      have HW := Lib.hid (fun h => lnWays hc h)
      have HL := Lib.hid (fun (h : 253 < k) => lnScan_long (l := x) (by omega))
      have HE1 := Lib.hid (lnEmpty (x.drop k))
      have HE2 := Lib.hid (lnOne (x.drop k))
      -- the three ways in which the loop ends
      have HX : Hid ((k = x.length) ∨ (∃ n : Nat, (∀ W : World, (Instr.index 9 (.string S) (.int .i64 (k : Int))).run Try.prog W = .ok (.int .u8 n) W) ∧ k < x.length ∧ n < 32) ∨ (∃ n : Nat, (∀ W : World, (Instr.index 9 (.string S) (.int .i64 (k : Int))).run Try.prog W = .ok (.int .u8 n) W) ∧ k < x.length ∧ 126 < n)) := by
        by_cases hlt : k < x.length
        · have hp : lnPlainB x[k] = false := by
            cases hp : lnPlainB x[k]
            · rfl
            · exfalso
              have : k + 1 ≤ lnCount x := lnCount_ge (l := x) (k := k + 1) (by omega) (fun a ha => by
                rw [List.take_succ_eq_append_getElem hlt, List.mem_append] at ha
                rcases ha with ha | ha
                · exact htk a ha
                · simp at ha
                  rw [ha]; exact hp)
              omega
          have hp' : ¬ (32 ≤ x[k].toNat ∧ x[k].toNat ≤ 126) := of_decide_eq_false hp
          by_cases h32 : x[k].toNat < 32
          · exact .inr (.inl ⟨_, HI.out k hlt, hlt, h32⟩)
          · exact .inr (.inr ⟨_, HI.out k hlt, hlt, by omega⟩)
        · exact .inl (by omega)
      clear hc htk HI HA HT HD
      obtain ⟨L, hL⟩ : ∃ L, L = bs (x.take k) := ⟨_, rfl⟩
      obtain ⟨R, hR⟩ : ∃ R, R = bs (x.drop k) := ⟨_, rfl⟩
      have HL0 := Lib.hid hL
      rw [← hL] at ht
      rw [← hR] at hd HAk HE1 HE2
      clear hL hR
      have hk2 : decide ((x.length : Int) < (k : Int)) = false := decide_eq_false (by omega)
      rcases HX.out with hX | ⟨n, c1, hX, hn⟩ | ⟨n, c1, hX, hn⟩
      all_goals
        first
          | (have q0 : k < x.length := by omega)
          | (have q0 : ¬ k < x.length := by omega)
      rotate_left 1
      · have q1 : decide ((n : Int) ≥ 32) = false := decide_eq_false (by omega)
        clear HX hn
        by_cases h253 : 253 < k
        · have HE := Lib.hid (HL.out h253)
          have q3 : decide ((k : Int) > 253) = true := decide_eq_true (by omega)
          clear HW HL
          go_wp2_with fail
          go_ret3
          exact ⟨by rw [HE.out, HZ.out]; rfl, hbel⟩
        · have q3 : decide ((k : Int) > 253) = false := decide_eq_false (by omega)
          have HWk := Lib.hid (HW.out (by omega))
          clear HW HL
          rcases HWk.out with ⟨h1, h⟩ | ⟨h1, h2, h⟩ | ⟨h1, h2, h3, h⟩ | ⟨h1, h2, h3, h⟩
          · have e1 := HE1.out
            rw [h1] at e1
            have HE := Lib.hid h
            clear h1 h HWk HE1 HE2
            go_wp2_with fail
            go_ret3
            exact ⟨by rw [HE.out, HZ.out]; rfl, hbel⟩
          · have e1 := HE1.out
            have e2 := HE2.out
            rw [h1] at e1
            rw [h2] at e2
            have HE := Lib.hid h
            clear h1 h2 h HWk HE1 HE2
            go_wp2_with fail
            go_ret3
            exact ⟨by rw [HE.out, HZ.out]; rfl, hbel⟩
          · have e1 := HE1.out
            have e2 := HE2.out
            rw [h1] at e1
            rw [h2] at e2
            rw [h3] at HAk
            have HE := Lib.hid h
            clear h1 h2 h3 h HWk HE1 HE2
            go_wp2_with (go_at_call 61; with_reducible refine (HAk.out _).mono ?_; rintro e w1 ⟨rfl, rfl⟩)
            go_ret3
            exact ⟨by rw [HE.out, HZ.out]; rfl, hbel⟩
          · have e1 := HE1.out
            have e2 := HE2.out
            rw [h1] at e1
            rw [h2] at e2
            rw [h3] at HAk
            have HE := Lib.hid h
            clear h1 h2 h3 h HWk HE1 HE2
            go_wp2_with (go_at_call 61; with_reducible refine (HAk.out _).mono ?_; rintro e w1 ⟨rfl, rfl⟩)
            go_ret3
            exact ⟨by rw [HE.out, ← HL0.out]; rfl, hbel⟩
      · have q1 : decide ((n : Int) ≥ 32) = true := decide_eq_true (by omega)
        have q2 : decide ((n : Int) ≤ 126) = false := decide_eq_false (by omega)
        clear HX hn
        by_cases h253 : 253 < k
        · have HE := Lib.hid (HL.out h253)
          have q3 : decide ((k : Int) > 253) = true := decide_eq_true (by omega)
          clear HW HL
          go_wp2_with fail
          go_ret3
          exact ⟨by rw [HE.out, HZ.out]; rfl, hbel⟩
        · have q3 : decide ((k : Int) > 253) = false := decide_eq_false (by omega)
          have HWk := Lib.hid (HW.out (by omega))
          clear HW HL
          rcases HWk.out with ⟨h1, h⟩ | ⟨h1, h2, h⟩ | ⟨h1, h2, h3, h⟩ | ⟨h1, h2, h3, h⟩
          · have e1 := HE1.out
            rw [h1] at e1
            have HE := Lib.hid h
            clear h1 h HWk HE1 HE2
            go_wp2_with fail
            go_ret3
            exact ⟨by rw [HE.out, HZ.out]; rfl, hbel⟩
          · have e1 := HE1.out
            have e2 := HE2.out
            rw [h1] at e1
            rw [h2] at e2
            have HE := Lib.hid h
            clear h1 h2 h HWk HE1 HE2
            go_wp2_with fail
            go_ret3
            exact ⟨by rw [HE.out, HZ.out]; rfl, hbel⟩
          · have e1 := HE1.out
            have e2 := HE2.out
            rw [h1] at e1
            rw [h2] at e2
            rw [h3] at HAk
            have HE := Lib.hid h
            clear h1 h2 h3 h HWk HE1 HE2
            go_wp2_with (go_at_call 61; with_reducible refine (HAk.out _).mono ?_; rintro e w1 ⟨rfl, rfl⟩)
            go_ret3
            exact ⟨by rw [HE.out, HZ.out]; rfl, hbel⟩
          · have e1 := HE1.out
            have e2 := HE2.out
            rw [h1] at e1
            rw [h2] at e2
            rw [h3] at HAk
            have HE := Lib.hid h
            clear h1 h2 h3 h HWk HE1 HE2
            go_wp2_with (go_at_call 61; with_reducible refine (HAk.out _).mono ?_; rintro e w1 ⟨rfl, rfl⟩)
            go_ret3
            exact ⟨by rw [HE.out, ← HL0.out]; rfl, hbel⟩
      · clear HX hX
        by_cases h253 : 253 < k
        · have HE := Lib.hid (HL.out h253)
          have q3 : decide ((k : Int) > 253) = true := decide_eq_true (by omega)
          clear HW HL
          go_wp2_with fail
          go_ret3
          exact ⟨by rw [HE.out, HZ.out]; rfl, hbel⟩
        · have q3 : decide ((k : Int) > 253) = false := decide_eq_false (by omega)
          have HWk := Lib.hid (HW.out (by omega))
          clear HW HL
          rcases HWk.out with ⟨h1, h⟩ | ⟨h1, h2, h⟩ | ⟨h1, h2, h3, h⟩ | ⟨h1, h2, h3, h⟩
          · have e1 := HE1.out
            rw [h1] at e1
            have HE := Lib.hid h
            clear h1 h HWk HE1 HE2
            go_wp2_with fail
            go_ret3
            exact ⟨by rw [HE.out, HZ.out]; rfl, hbel⟩
          · have e1 := HE1.out
            have e2 := HE2.out
            rw [h1] at e1
            rw [h2] at e2
            have HE := Lib.hid h
            clear h1 h2 h HWk HE1 HE2
            go_wp2_with fail
            go_ret3
            exact ⟨by rw [HE.out, HZ.out]; rfl, hbel⟩
          · have e1 := HE1.out
            have e2 := HE2.out
            rw [h1] at e1
            rw [h2] at e2
            rw [h3] at HAk
            have HE := Lib.hid h
            clear h1 h2 h3 h HWk HE1 HE2
            go_wp2_with (go_at_call 61; with_reducible refine (HAk.out _).mono ?_; rintro e w1 ⟨rfl, rfl⟩)
            go_ret3
            exact ⟨by rw [HE.out, HZ.out]; rfl, hbel⟩
          · have e1 := HE1.out
            have e2 := HE2.out
            rw [h1] at e1
            rw [h2] at e2
            rw [h3] at HAk
            have HE := Lib.hid h
            clear h1 h2 h3 h HWk HE1 HE2
            go_wp2_with (go_at_call 61; with_reducible refine (HAk.out _).mono ?_; rintro e w1 ⟨rfl, rfl⟩)
            go_ret3
            exact ⟨by rw [HE.out, ← HL0.out]; rfl, hbel⟩
end Go.Proofs.Ytlalkpgipenkaaa
