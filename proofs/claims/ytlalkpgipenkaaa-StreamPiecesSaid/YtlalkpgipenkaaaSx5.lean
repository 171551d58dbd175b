/- Layer 13: the example; few; both streams side by side; the law StreamTakes. -/
import Derived.Test.YtlalkpgipenkaaaSx4
import Derived.Deep.QuietTactic
import Derived.BigQuiet
namespace Go.Proofs.Ytlalkpgipenkaaa
open Go.RowKit

/-- 'SSH-2.0-x' -/
def stEx : List UInt8 := [83, 83, 72, 45, 50, 46, 48, 45, 120]
theorem stEx1 : stTake (lnScan (stEx ++ [13])) (stEx ++ [13]) 0 = ([], false, 0, stEx ++ [13], 0) := by decide +kernel
theorem stEx2 : stTake (lnScan (stEx ++ [13] ++ [10])) (stEx ++ [13] ++ [10]) 0 = (stEx, true, 0, [], 0) := by decide +kernel
theorem stExB : bs (stEx ++ [13]) = ⟨#[83, 83, 72, 45, 50, 46, 48, 45, 120, 13]⟩ := rfl
theorem stToList (l : List UInt8) : (bs l).toList = l := by
  rw [ByteArray.toList_eq]
  simp [bs]
theorem StLeft.below {B X : Nat} {l : List UInt8} {e : Nat} {F : Nat → Prop} {w w' : World} (h : StLeft B X l e F w w') (hF : ∀ k, F k → B ≤ k) (hB : B ≤ w.heap.size) : Below B w w' := by
  obtain ⟨F', _, m, _⟩ := h
  exact m.below hB hF

set_option maxRecDepth 100000 in
theorem awake13_any (w : World) : Calls Try.prog 7 #[] w fun e w' => e = .returned (.bool true) ∧ Below w.heap.size w w' := by
  have HN := Lib.hid (xNew_any w)
  have HF1 : Hid (∀ (F : Nat → Prop) (W : World), StAt w.heap.size w.heap.size [] 0 F W → Calls Try.prog 9 #[.pointer (some ⟨w.heap.size, 0, none⟩), .string ⟨#[83, 83, 72, 45, 50, 46, 48, 45, 120, 13]⟩] W fun r w' => r = .returned (.tuple #[]) ∧ StLeft w.heap.size w.heap.size (stEx ++ [13]) 0 F W w') := fun F W h => by
    have := xFeed_any h (stEx ++ [13]) (by simp [stEx])
    rw [if_pos rfl, List.nil_append, stExB] at this
    exact this
  have HF2 : Hid (∀ (F : Nat → Prop) (W : World), StAt w.heap.size w.heap.size (stEx ++ [13]) 0 F W → Calls Try.prog 9 #[.pointer (some ⟨w.heap.size, 0, none⟩), .string ⟨#[10]⟩] W fun r w' => r = .returned (.tuple #[]) ∧ StLeft w.heap.size w.heap.size (stEx ++ [13] ++ [10]) 0 F W w') := fun F W h => by
    have := xFeed_any h [10] (by simp [stEx])
    rw [if_pos rfl] at this
    exact this
  have HL1 : Hid (∀ (F : Nat → Prop) (W : World), StAt w.heap.size w.heap.size (stEx ++ [13]) 0 F W → Calls Try.prog 11 #[.pointer (some ⟨w.heap.size, 0, none⟩)] W fun r w' => r = .returned (.tuple #[.string ⟨#[]⟩, .bool false, .int .i64 0]) ∧ StLeft w.heap.size w.heap.size (stEx ++ [13]) 0 F W w') := fun F W h => by
    have := xLine_any h (by simp [stEx])
    rw [stEx1] at this
    exact this
  have HL2 : Hid (∀ (F : Nat → Prop) (W : World), StAt w.heap.size w.heap.size (stEx ++ [13] ++ [10]) 0 F W → Calls Try.prog 11 #[.pointer (some ⟨w.heap.size, 0, none⟩)] W fun r w' => r = .returned (.tuple #[.string (bs stEx), .bool true, .int .i64 0]) ∧ StLeft w.heap.size w.heap.size [] 0 F W w') := fun F W h => by
    have := xLine_any h (by simp [stEx])
    rw [stEx2] at this
    exact this
  have hq : ((bs stEx).toList == [83, 83, 72, 45, 50, 46, 48, 45, 120]) = true := by rw [stToList]; rfl
  generalize bs stEx = V at *
  go_enter Try.func7, Try.ntmps7
  go_wp2_with (first
    | (go_at_call 8; (with_reducible refine HN.out.mono ?_); rintro e w1 ⟨rfl, h1, b1⟩)
    | (go_at_call 9; (with_reducible refine (HF1.out _ _ h1).mono ?_); rintro e w2 ⟨rfl, F2, h2, m2, f2⟩)
    | (go_at_call 11; (with_reducible refine (HL1.out _ _ h2).mono ?_); rintro e w3 ⟨rfl, F3, h3, m3, f3⟩)
    | (go_at_call 9; (with_reducible refine (HF2.out _ _ h3).mono ?_); rintro e w4 ⟨rfl, F4, h4, m4, f4⟩)
    | (go_at_call 11; (with_reducible refine (HL2.out _ _ h4).mono ?_); rintro e w5 ⟨rfl, h5⟩))
  go_ret
  have z1 := b1.size
  have l1 := h1.lt; have l2 := h2.lt; have l3 := h3.lt; have l4 := h4.lt
  have c1 := b1.trans (m2.below (by omega) (fun k hk => (l1 k hk).1))
  have c2 := c1.trans (m3.below (by have := c1.size; omega) (fun k hk => (l2 k hk).1))
  have c3 := c2.trans (m4.below (by have := c2.size; omega) (fun k hk => (l3 k hk).1))
  exact ⟨rfl, c3.trans (h5.below (fun k hk => (l4 k hk).1) (by have := c3.size; omega))⟩

/-- A slice value that reads as these acts. -/
def Acts13 (w : World) (v : Value) (l : List (Int × List UInt8)) : Prop :=
  ∃ ao cap, v = .slice ao l.length cap ∧ (∀ p ∈ l, p.2.length ≤ 9223372036854775807) ∧ (l ≠ [] → ∃ b off, ao = some ⟨b, off, none⟩ ∧ b < w.heap.size ∧ ∀ k p, l[k]? = some p → w.cell? ⟨b, off + k * 2, none⟩ = some (.int .i64 p.1) ∧ w.cell? ⟨b, off + k * 2 + 1, none⟩ = some (.string (bs p.2)))
def fewP13 (l : List (Int × List UInt8)) (m : Nat) : Bool := decide (l.length ≤ m) && l.all fun p => decide (p.2.length ≤ 2000)
theorem fewP13_long {l : List (Int × List UInt8)} {m : Nat} (h : m < l.length) : fewP13 l m = false := by
  unfold fewP13; rw [decide_eq_false (by omega)]; rfl
theorem fewP13_no {l : List (Int × List UInt8)} {m k : Nat} {p : Int × List UInt8} (hk : l[k]? = some p) (h : 2000 < p.2.length) : fewP13 l m = false := by
  unfold fewP13
  rw [Bool.and_eq_false_iff]
  right
  rw [List.all_eq_false]
  exact ⟨p, List.mem_of_getElem? hk, by simp; omega⟩
theorem fewP13_yes {l : List (Int × List UInt8)} {m : Nat} (h : l.length ≤ m) (ha : ∀ p ∈ l, p.2.length ≤ 2000) : fewP13 l m = true := by
  unfold fewP13
  rw [decide_eq_true h, Bool.true_and, List.all_eq_true]
  exact fun p hp => decide_eq_true (ha p hp)
theorem fewP13_iff {l : List (Int × List UInt8)} {m : Nat} : fewP13 l m = true → l.length ≤ m ∧ ∀ p ∈ l, p.2.length ≤ 2000 := by
  unfold fewP13
  rw [Bool.and_eq_true, List.all_eq_true]
  exact fun ⟨h1, h2⟩ => ⟨of_decide_eq_true h1, fun p hp => of_decide_eq_true (h2 p hp)⟩

set_option maxRecDepth 100000 in
theorem few13_any {w : World} {v : Value} {l : List (Int × List UInt8)} (hv : Acts13 w v l) (hl : l.length ≤ 9223372036854775807) : Calls Try.prog 6 #[v, .int .i64 30] w fun e w' => e = .returned (.bool (fewP13 l 30)) ∧ w' = w := by
  obtain ⟨ao, cap, rfl, hs, hc⟩ := hv
  by_cases h30 : 30 < l.length
  · rw [fewP13_long h30]
    have q : decide ((l.length : Int) > 30) = true := decide_eq_true (by omega)
    clear hc hs
    generalize l.length = n at *
    go_enter Try.func6, Try.ntmps6
    go_wp2
    go_ret
    exact ⟨rfl, rfl⟩
  · have q : decide ((l.length : Int) > 30) = false := decide_eq_false (by omega)
    have HC := Lib.hid hc
    have HS := Lib.hid hs
    clear hc hs
    go_enter Try.func6, Try.ntmps6
    go_wp2_with fail
    go_loopw [5] (fun i wr => ∃ k : Nat, k ≤ l.length ∧ i = .int .i64 k ∧ (∀ j p, j < k → l[j]? = some p → p.2.length ≤ 2000) ∧ wr = w) (fun i _ => l.length - (intOf i).toNat)
    case atStart => exact ⟨0, Nat.zero_le _, rfl, fun j p h => absurd h (by omega), rfl⟩
    case round =>
      obtain ⟨k, hk, rfl, ha, rfl⟩ := hrel
      have HA := Lib.hid ha
      clear ha
      by_cases hlt : k < l.length
      · obtain ⟨b, off, rfl, hb, hat⟩ := HC.out (by intro h; simp [h] at hlt)
        obtain ⟨x, s, hxs⟩ : ∃ x s, l[k]? = some (x, s) := ⟨l[k].1, l[k].2, by simp [hlt]⟩
        obtain ⟨c1, c2⟩ := hat k _ hxs
        simp only at c1 c2
        have hsz := bs_size s
        have hsl := HS.out _ (List.mem_of_getElem? hxs)
        simp only at hsl
        have HX := Lib.hid hxs
        clear hat hxs
        generalize bs s = S at *
        by_cases h2 : 2000 < s.length
        · have q2 : decide ((s.length : Int) > 2000) = true := decide_eq_true (by omega)
          have HE := Lib.hid (fewP13_no (m := 30) HX.out (by exact h2))
          clear h2
          generalize s.length = m at *
          go_wp2_with fail
          go_ret
          exact ⟨by rw [HE.out]; rfl, rfl⟩
        · have q2 : decide ((s.length : Int) > 2000) = false := decide_eq_false (by omega)
          have HN : Hid (∀ j p, j < k + 1 → l[j]? = some p → p.2.length ≤ 2000) := fun j p hj hp => by
            rcases Nat.lt_or_ge j k with h | h
            · exact HA.out j p h hp
            · have : j = k := by omega
              subst this
              rw [HX.out] at hp
              injection hp with hp
              subst hp
              exact Nat.le_of_not_lt h2
          clear h2
          generalize s.length = m at *
          go_wp2_with fail
          go_roundw
          case rel => exact ⟨k + 1, by omega, by go_num, HN.out, trivial⟩
          case measure => simp [intOf]; omega
      · have hkl : k = l.length := by omega
        have HE : Hid (fewP13 l 30 = true) := fewP13_yes (by omega) (fun p hp => by
          obtain ⟨j, hj, e⟩ := List.getElem_of_mem hp
          exact HA.out j p (by omega) (by rw [List.getElem?_eq_getElem hj, e]))
        clear hlt
        subst hkl
        go_wp2_with fail
        go_ret
        exact ⟨by rw [HE.out]; rfl, rfl⟩
end Go.Proofs.Ytlalkpgipenkaaa
