/- Scan: both sides. -/
import Derived.Test.YtlalkpgipenkaaaLnA
import Derived.WalkMore
namespace Go.Proofs.Ytlalkpgipenkaaa
open Go.RowKit

def lnCount (l : List UInt8) : Nat := (l.takeWhile lnPlainB).length
theorem lnTakeWhile_eq {p : UInt8 → Bool} : ∀ {l : List UInt8} {k : Nat} (hk : k < l.length), (∀ b ∈ l.take k, p b = true) → p l[k] = false → l.takeWhile p = l.take k
  | b :: l, 0, _, _, h => by
    have h' : p b = false := h
    rw [List.takeWhile_cons, h']
    rfl
  | b :: l, k + 1, hk, ha, h => by
    have hb : p b = true := ha b (by simp)
    rw [List.takeWhile_cons, hb]
    simp only [if_true, List.take_succ_cons, List.cons.injEq, true_and]
    exact lnTakeWhile_eq (by simpa using hk) (fun x hx => ha x (by simp [hx])) (by simpa using h)
theorem lnTakeWhile_all {p : UInt8 → Bool} : ∀ {l : List UInt8}, (∀ b ∈ l, p b = true) → l.takeWhile p = l
  | [], _ => rfl
  | b :: l, h => by
    rw [List.takeWhile_cons, h b (by simp)]
    simp only [if_true, List.cons.injEq, true_and]
    exact lnTakeWhile_all (fun x hx => h x (by simp [hx]))
theorem lnTakeWhile_ge {p : UInt8 → Bool} : ∀ {l : List UInt8} {k : Nat}, k ≤ l.length → (∀ b ∈ l.take k, p b = true) → k ≤ (l.takeWhile p).length
  | _, 0, _, _ => Nat.zero_le _
  | [], k + 1, hk, _ => by simp at hk
  | b :: l, k + 1, hk, ha => by
    rw [List.takeWhile_cons, ha b (by simp)]
    simp only [if_true, List.length_cons]
    have := lnTakeWhile_ge (p := p) (l := l) (k := k) (by simpa using hk) (fun x hx => ha x (by simp [hx]))
    omega
theorem lnCount_at {l : List UInt8} {k : Nat} (hk : k < l.length) (ha : ∀ b ∈ l.take k, lnPlainB b = true) (h : lnPlainB l[k] = false) : lnCount l = k := by
  unfold lnCount
  rw [lnTakeWhile_eq hk ha h, List.length_take]
  omega
theorem lnCount_all {l : List UInt8} (ha : ∀ b ∈ l, lnPlainB b = true) : lnCount l = l.length := by
  unfold lnCount
  rw [lnTakeWhile_all ha]
theorem lnCount_ge {l : List UInt8} {k : Nat} (hk : k ≤ l.length) (ha : ∀ b ∈ l.take k, lnPlainB b = true) : k ≤ lnCount l := lnTakeWhile_ge hk ha
theorem lnCount_le (l : List UInt8) : lnCount l ≤ l.length := by
  unfold lnCount
  induction l with
  | nil => exact Nat.le_refl _
  | cons b l ih =>
    rw [List.takeWhile_cons]
    split
    · simpa using ih
    · simp
/-- What stands behind the plain bytes: 0 the end of the line, 4 not there yet, 11 wrong. -/
def lnRest (r : List UInt8) : Nat := if ([13, 10] : List UInt8).isPrefixOf r = true then 0 else if r.isPrefixOf [13, 10] = true then 4 else 11
def lnScan (l : List UInt8) : List UInt8 × Nat × Nat :=
  if 253 < lnCount l then ([], 0, 11) else if lnRest (l.drop (lnCount l)) = 0 then (l.take (lnCount l), lnCount l + 2, 0) else ([], 0, lnRest (l.drop (lnCount l)))
theorem lnScan_long {l : List UInt8} (h : 253 < lnCount l) : lnScan l = ([], 0, 11) := if_pos h
theorem lnScan_done {l : List UInt8} {k : Nat} (h : lnCount l = k) (hk : k ≤ 253) (hr : ([13, 10] : List UInt8).isPrefixOf (l.drop k) = true) : lnScan l = (l.take k, k + 2, 0) := by
  have : lnRest (l.drop k) = 0 := if_pos hr
  unfold lnScan
  rw [h, if_neg (by omega), if_pos this]
theorem lnScan_short {l : List UInt8} {k : Nat} (h : lnCount l = k) (hk : k ≤ 253) (hr : ([13, 10] : List UInt8).isPrefixOf (l.drop k) = false) (hs : (l.drop k).isPrefixOf [13, 10] = true) : lnScan l = ([], 0, 4) := by
  have : lnRest (l.drop k) = 4 := by unfold lnRest; rw [hr, hs]; rfl
  unfold lnScan
  rw [h, if_neg (by omega), this]
  rfl
theorem lnScan_wrong {l : List UInt8} {k : Nat} (h : lnCount l = k) (hk : k ≤ 253) (hr : ([13, 10] : List UInt8).isPrefixOf (l.drop k) = false) (hs : (l.drop k).isPrefixOf [13, 10] = false) : lnScan l = ([], 0, 11) := by
  have : lnRest (l.drop k) = 11 := by unfold lnRest; rw [hr, hs]; rfl
  unfold lnScan
  rw [h, if_neg (by omega), this]
  rfl
theorem lnHead_wrong {r : List UInt8} (h : 0 < r.length) (hb : r[0] ≠ 13) : ([13, 10] : List UInt8).isPrefixOf r = false ∧ r.isPrefixOf [13, 10] = false := by
  cases r with
  | nil => simp at h
  | cons b r =>
    have hb' : b ≠ 13 := hb
    constructor
    · simp [List.isPrefixOf, Ne.symm hb']
    · simp [List.isPrefixOf, hb']
/-- The document's form of the middle way. -/
theorem lnShort_iff (r : List UInt8) : (r = [] ∨ r = [13]) ↔ (([13, 10] : List UInt8).isPrefixOf r = false ∧ r.isPrefixOf [13, 10] = true) := by
  match r with
  | [] => simp [List.isPrefixOf]
  | [a] => simp [List.isPrefixOf]
  | a :: b :: c :: d => simp [List.isPrefixOf]
  | [a, b] =>
    simp only [List.isPrefixOf, Bool.and_true, reduceCtorEq, false_or, List.cons.injEq, and_false, false_iff, not_and, Bool.not_eq_true]
    intro h
    rw [Bool.and_eq_false_iff] at h ⊢
    rcases h with h | h
    · left
      rw [beq_eq_false_iff_ne] at h ⊢
      exact fun e => h e.symm
    · right
      rw [beq_eq_false_iff_ne] at h ⊢
      exact fun e => h e.symm

set_option maxHeartbeats 2000000 in
set_option maxRecDepth 100000 in
theorem lnScan_any (x : List UInt8) (hx : x.length ≤ 1000000) (w : World) : Calls Try.prog 59 #[.string (bs x)] w fun e w' => e = .returned (.tuple #[.string (bs (lnScan x).1), .int .i64 ((lnScan x).2.1 : Int), .int .i64 ((lnScan x).2.2 : Int)]) ∧ Below w.heap.size w w' := by
  have hsz := bs_size x
  have HI := Lib.hid (fun (k : Nat) (hk : k < x.length) W => lnIndex_bs x k hk W)
  have HP := Lib.hid (fun (b : UInt8) W => lnIsPlain_any b W)
  have HT : Hid (∀ k, (bs x).extract 0 k = bs (x.take k)) := fun k => bs_take x k
  have HD : Hid (∀ k, (bs x).extract k x.length = bs (x.drop k)) := fun k => by have := bs_drop x k; rw [hsz] at this; exact this
  have HZ : Hid ((bs []) = ⟨#[]⟩) := rfl
  have HA : Hid (∀ (r : List UInt8) (W : World), Calls Try.prog 79 #[.string (bs r), .string ⟨#[13, 10]⟩] W fun e w' => e = .returned (.bool (([13, 10] : List UInt8).isPrefixOf r)) ∧ w' = W) := fun r W => lnHasPrefix_any r [13, 10] W
  have HB : Hid (∀ (r : List UInt8) (W : World), Calls Try.prog 79 #[.string ⟨#[13, 10]⟩, .string (bs r)] W fun e w' => e = .returned (.bool (r.isPrefixOf [13, 10])) ∧ w' = W) := fun r W => lnHasPrefix_any [13, 10] r W
  have hle : (bs x).size ≤ 1000000 := by omega
  -- what a place where the plain bytes end gives
  have HW : Hid (∀ k, lnCount x = k → k ≤ 253 → (([13, 10] : List UInt8).isPrefixOf (x.drop k) = true ∧ lnScan x = (x.take k, k + 2, 0)) ∨ (([13, 10] : List UInt8).isPrefixOf (x.drop k) = false ∧ (x.drop k).isPrefixOf [13, 10] = true ∧ lnScan x = ([], 0, 4)) ∨ (([13, 10] : List UInt8).isPrefixOf (x.drop k) = false ∧ (x.drop k).isPrefixOf [13, 10] = false ∧ lnScan x = ([], 0, 11))) := fun k h hk => by
    cases h1 : ([13, 10] : List UInt8).isPrefixOf (x.drop k)
    · cases h2 : (x.drop k).isPrefixOf [13, 10]
      · exact .inr (.inr ⟨rfl, rfl, lnScan_wrong h hk h1 h2⟩)
      · exact .inr (.inl ⟨rfl, rfl, lnScan_short h hk h1 h2⟩)
    · exact .inl ⟨rfl, lnScan_done h hk h1⟩
  generalize bs x = S at *
  go_enter Try.func59, Try.ntmps59
  go_wp2_with fail
  go_step3
  go_wp2_with fail
  go_step3
  go_wp2_with fail
  go_loopw [5] (fun i wr => ∃ k : Nat, k ≤ x.length ∧ k ≤ 253 ∧ i = .int .i64 k ∧ (∀ b ∈ x.take k, lnPlainB b = true) ∧ Below w.heap.size w wr) (fun i _ => x.length - (intOf i).toNat)
  case atStart => exact ⟨0, Nat.zero_le _, Nat.zero_le _, rfl, by simp, Below.refl _ _⟩
  case round =>
    obtain ⟨k, hk, hk3, rfl, htk, hbel⟩ := hrel
    have ht := HT.out k
    have hd := HD.out k
    have HAk := Lib.hid (fun W => HA.out (x.drop k) W)
    have HBk := Lib.hid (fun W => HB.out (x.drop k) W)
    have hk2 : decide ((x.length : Int) < (k : Int)) = false := decide_eq_false (by omega)
    by_cases hlt : k < x.length
    · have c1 := HI.out k hlt
      obtain ⟨b, hb⟩ : ∃ b, b = x[k] := ⟨_, rfl⟩
      rw [← hb] at c1
      by_cases h13 : b = 13
      · have hc := lnCount_at hlt htk (by rw [← hb, h13]; rfl)
        have HC := Lib.hid (HW.out k hc hk3)
        have q13 : ((b.toNat : Int) == (((⟨#[13, 10]⟩ : ByteArray)[0]'(by decide)).toNat : Int)) = true := by rw [h13]; rfl
        clear hc HW HI HP HA HB HT HD hb htk h13
        generalize b.toNat = n at *
        obtain ⟨L, hL⟩ : ∃ L, L = bs (x.take k) := ⟨_, rfl⟩
        obtain ⟨R, hR⟩ : ∃ R, R = bs (x.drop k) := ⟨_, rfl⟩
        have HL := Lib.hid hL
        rw [← hL] at ht
        rw [← hR] at hd HAk HBk
        clear hL hR
        obtain ⟨h1, h⟩ | ⟨h1, h2, h⟩ | ⟨h1, h2, h⟩ := HC.out
        · rw [h1] at HAk
          have HE := Lib.hid h
          clear h1 h HC
          go_wp2_with fail
          go_region
          go_wp2_with (go_at_call 79; with_reducible refine (HAk.out _).mono ?_; rintro e w1 ⟨rfl, rfl⟩)
          try rw [Exit.noGoto_ret]
          go_ret3
          exact ⟨by rw [HE.out, ← HL.out]; rfl, hbel.drew⟩
        · rw [h1] at HAk
          rw [h2] at HBk
          have HE := Lib.hid h
          clear h1 h2 h HC
          go_wp2_with fail
          go_region
          go_wp2_with (first
            | (go_at_call 79; with_reducible refine (HAk.out _).mono ?_; rintro e w1 ⟨rfl, rfl⟩)
            | (go_at_call 79; with_reducible refine (HBk.out _).mono ?_; rintro e w1 ⟨rfl, rfl⟩))
          try rw [Exit.noGoto_ret]
          go_ret3
          exact ⟨by rw [HE.out, HZ.out]; rfl, hbel.drew⟩
        · rw [h1] at HAk
          rw [h2] at HBk
          have HE := Lib.hid h
          clear h1 h2 h HC
          go_wp2_with fail
          go_region
          go_wp2_with (first
            | (go_at_call 79; with_reducible refine (HAk.out _).mono ?_; rintro e w1 ⟨rfl, rfl⟩)
            | (go_at_call 79; with_reducible refine (HBk.out _).mono ?_; rintro e w1 ⟨rfl, rfl⟩))
          try rw [Exit.noGoto_ret]
          go_ret3
          exact ⟨by rw [HE.out, HZ.out]; rfl, hbel.drew⟩
      · have q13 : ((b.toNat : Int) == (((⟨#[13, 10]⟩ : ByteArray)[0]'(by decide)).toNat : Int)) = false := by
          show ((b.toNat : Int) == 13) = false
          rw [beq_eq_false_iff_ne]
          intro e
          exact h13 (UInt8.toNat_inj.1 (by rw [show (13 : UInt8).toNat = 13 from rfl]; omega))
        have HPb := Lib.hid (HP.out b)
        cases hp : lnPlainB b with
        | false =>
          have hc := lnCount_at hlt htk (by rw [← hb]; exact hp)
          have hw := lnHead_wrong (r := x.drop k) (by simp; omega) (by simp; rw [← hb]; exact h13)
          have HE : Hid (lnScan x = ([], 0, 11)) := lnScan_wrong hc hk3 hw.1 hw.2
          rw [hp] at HPb
          clear hc hw HW HI HP HA HB HT HD hb htk h13 HAk HBk ht hd
          generalize b.toNat = n at *
          go_wp2_with fail
          go_region
          go_wp2_with (go_at_call 78; refine (HPb.out _).mono ?_; rintro e w1 ⟨rfl, rfl⟩)
          try rw [Exit.noGoto_ret]
          go_ret3
          exact ⟨by rw [HE.out, HZ.out]; rfl, hbel.drew⟩
        | true =>
          have HN : Hid (∀ a ∈ x.take (k + 1), lnPlainB a = true) := fun a ha => by
            rw [List.take_succ_eq_append_getElem hlt, ← hb, List.mem_append] at ha
            rcases ha with ha | ha
            · exact htk a ha
            · simp at ha
              rw [ha]; exact hp
          rw [hp] at HPb
          by_cases h253 : k = 253
          · have HE : Hid (lnScan x = ([], 0, 11)) := lnScan_long (by have := lnCount_ge (l := x) (k := k + 1) (by omega) HN.out; omega)
            clear HW HI HP HA HB HT HD hb htk h13 HAk HBk ht hd
            generalize b.toNat = n at *
            have q253 : ((k : Int) == 253) = true := by rw [beq_iff_eq]; omega
            clear h253
            go_wp2_with fail
            go_region
            go_wp2_with (go_at_call 78; refine (HPb.out _).mono ?_; rintro e w1 ⟨rfl, rfl⟩)
            try rw [Exit.noGoto_ret]
            go_ret3
            exact ⟨by rw [HE.out, HZ.out]; rfl, hbel.drew⟩
          · have q253 : ((k : Int) == 253) = false := by rw [beq_eq_false_iff_ne]; omega
            clear HW HI HP HA HB HT HD hb htk h13 HAk HBk ht hd
            generalize b.toNat = n at *
            go_wp2_with fail
            go_region
            go_wp2_with (go_at_call 78; refine (HPb.out _).mono ?_; rintro e w1 ⟨rfl, rfl⟩)
            go_roundw
            case rel => exact ⟨k + 1, by omega, by omega, by go_num, HN.out, hbel.drew⟩
            case measure => simp [intOf]; omega
    · have hkl : k = x.length := by omega
      have hc : lnCount x = k := by
        rw [hkl, List.take_length] at htk
        rw [hkl]; exact lnCount_all htk
      have hz : x.drop k = [] := by rw [hkl, List.drop_length]
      have h1 : ([13, 10] : List UInt8).isPrefixOf (x.drop k) = false := by rw [hz]; rfl
      have h2 : (x.drop k).isPrefixOf [13, 10] = true := by rw [hz]; rfl
      have HE : Hid (lnScan x = ([], 0, 4)) := lnScan_short hc hk3 h1 h2
      rw [h1] at HAk
      rw [h2] at HBk
      clear hc h1 h2 hz HW HI HP HA HB HT HD htk ht hkl
      obtain ⟨R, hR⟩ : ∃ R, R = bs (x.drop k) := ⟨_, rfl⟩
      rw [← hR] at hd HAk HBk
      clear hR
      go_wp2_with (first
        | (go_at_call 79; with_reducible refine (HAk.out _).mono ?_; rintro e w1 ⟨rfl, rfl⟩)
        | (go_at_call 79; with_reducible refine (HBk.out _).mono ?_; rintro e w1 ⟨rfl, rfl⟩))
      try rw [Exit.noGoto_ret]
      go_ret3
      exact ⟨by rw [HE.out, HZ.out]; rfl, hbel⟩
end Go.Proofs.Ytlalkpgipenkaaa
