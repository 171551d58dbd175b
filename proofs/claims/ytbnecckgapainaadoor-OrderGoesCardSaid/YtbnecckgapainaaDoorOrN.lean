/- Layer 23: what may be sent, and words, by the document. -/
import Derived.Test.YtbnecckgapainaaDoorOrM
import Derived.Test.YtbnecckgapainaaDoorTexts
namespace Go.Proofs.YtbnecckgapainaaDoor
open Go.RowKit

set_option maxHeartbeats 8000000 in
set_option maxRecDepth 100000 in
theorem r23May_any (w : World) (x : Bool) (n : Int) (b : Bool) (hb : b = mayB x n) : Calls Tryd.prog 6 #[.bool x, .int .i64 n] w fun e w' => e = .returned (.bool b) ∧ w' = w := by
  have hb1 : x = true → b = decide ((1 ≤ n ∧ n ≤ 4) ∨ (20 ≤ n ∧ n ≤ 49)) := fun e => by rw [hb]; unfold mayB; rw [if_pos e]
  have hb2 : x = false → b = decide (1 ≤ n ∧ n ≤ 255 ∧ n ≠ 21 ∧ (n < 30 ∨ n > 49)) := fun e => by rw [hb]; unfold mayB; rw [if_neg (by rw [e]; simp)]
  clear hb
  cases x with
  | true =>
    have hb3 := hb1 rfl
    clear hb1 hb2
    rcases (by omega : n < 1 ∨ (1 ≤ n ∧ n ≤ 4) ∨ (4 < n ∧ n < 20) ∨ (20 ≤ n ∧ n ≤ 49) ∨ n > 49) with h | h | h | h | h
    · obtain rfl : b = false := by rw [hb3]; exact decide_eq_false (by omega)
      have q1 : decide (n ≥ 1) = false := decide_eq_false (by omega)
      have q4 : decide (n ≤ 4) = true := decide_eq_true (by omega)
      have q20 : decide (n ≥ 20) = false := decide_eq_false (by omega)
      have q49 : decide (n ≤ 49) = true := decide_eq_true (by omega)
      clear hb3 h
      go_enter Tryd.func6, Tryd.ntmps6
      go_wp2_with fail
      go_ret
      exact ⟨rfl, rfl⟩
    · obtain rfl : b = true := by rw [hb3]; exact decide_eq_true (by omega)
      have q1 : decide (n ≥ 1) = true := decide_eq_true (by omega)
      have q4 : decide (n ≤ 4) = true := decide_eq_true (by omega)
      have q20 : decide (n ≥ 20) = false := decide_eq_false (by omega)
      have q49 : decide (n ≤ 49) = true := decide_eq_true (by omega)
      clear hb3 h
      go_enter Tryd.func6, Tryd.ntmps6
      go_wp2_with fail
      go_ret
      exact ⟨rfl, rfl⟩
    · obtain rfl : b = false := by rw [hb3]; exact decide_eq_false (by omega)
      have q1 : decide (n ≥ 1) = true := decide_eq_true (by omega)
      have q4 : decide (n ≤ 4) = false := decide_eq_false (by omega)
      have q20 : decide (n ≥ 20) = false := decide_eq_false (by omega)
      have q49 : decide (n ≤ 49) = true := decide_eq_true (by omega)
      clear hb3 h
      go_enter Tryd.func6, Tryd.ntmps6
      go_wp2_with fail
      go_ret
      exact ⟨rfl, rfl⟩
    · obtain rfl : b = true := by rw [hb3]; exact decide_eq_true (by omega)
      have q1 : decide (n ≥ 1) = true := decide_eq_true (by omega)
      have q4 : decide (n ≤ 4) = false := decide_eq_false (by omega)
      have q20 : decide (n ≥ 20) = true := decide_eq_true (by omega)
      have q49 : decide (n ≤ 49) = true := decide_eq_true (by omega)
      clear hb3 h
      go_enter Tryd.func6, Tryd.ntmps6
      go_wp2_with fail
      go_ret
      exact ⟨rfl, rfl⟩
    · obtain rfl : b = false := by rw [hb3]; exact decide_eq_false (by omega)
      have q1 : decide (n ≥ 1) = true := decide_eq_true (by omega)
      have q4 : decide (n ≤ 4) = false := decide_eq_false (by omega)
      have q20 : decide (n ≥ 20) = true := decide_eq_true (by omega)
      have q49 : decide (n ≤ 49) = false := decide_eq_false (by omega)
      clear hb3 h
      go_enter Tryd.func6, Tryd.ntmps6
      go_wp2_with fail
      go_ret
      exact ⟨rfl, rfl⟩
  | false =>
    have hb3 := hb2 rfl
    clear hb1 hb2
    rcases (by omega : n < 1 ∨ (1 ≤ n ∧ n < 21) ∨ n = 21 ∨ (21 < n ∧ n < 30) ∨ (30 ≤ n ∧ n ≤ 49) ∨ (49 < n ∧ n ≤ 255) ∨ n > 255) with h | h | rfl | h | h | h | h
    · obtain rfl : b = false := by rw [hb3]; exact decide_eq_false (by omega)
      have q1 : decide (n ≥ 1) = false := decide_eq_false (by omega)
      have q255 : decide (n ≤ 255) = true := decide_eq_true (by omega)
      have q30 : decide (n < 30) = true := decide_eq_true (by omega)
      have q49 : decide (n > 49) = false := decide_eq_false (by omega)
      have q21 : (n != 21) = true := by simp only [bne_iff_ne, ne_eq]; omega
      clear hb3 h
      go_enter Tryd.func6, Tryd.ntmps6
      go_wp2_with fail
      go_ret
      exact ⟨rfl, rfl⟩
    · obtain rfl : b = true := by rw [hb3]; exact decide_eq_true (by omega)
      have q1 : decide (n ≥ 1) = true := decide_eq_true (by omega)
      have q255 : decide (n ≤ 255) = true := decide_eq_true (by omega)
      have q30 : decide (n < 30) = true := decide_eq_true (by omega)
      have q49 : decide (n > 49) = false := decide_eq_false (by omega)
      have q21 : (n != 21) = true := by simp only [bne_iff_ne, ne_eq]; omega
      clear hb3 h
      go_enter Tryd.func6, Tryd.ntmps6
      go_wp2_with fail
      go_ret
      exact ⟨rfl, rfl⟩
    · obtain rfl : b = false := by rw [hb3]; exact decide_eq_false (by omega)
      clear hb3
      go_enter Tryd.func6, Tryd.ntmps6
      go_wp2_with fail
      go_ret
      exact ⟨rfl, rfl⟩
    · obtain rfl : b = true := by rw [hb3]; exact decide_eq_true (by omega)
      have q1 : decide (n ≥ 1) = true := decide_eq_true (by omega)
      have q255 : decide (n ≤ 255) = true := decide_eq_true (by omega)
      have q30 : decide (n < 30) = true := decide_eq_true (by omega)
      have q49 : decide (n > 49) = false := decide_eq_false (by omega)
      have q21 : (n != 21) = true := by simp only [bne_iff_ne, ne_eq]; omega
      clear hb3 h
      go_enter Tryd.func6, Tryd.ntmps6
      go_wp2_with fail
      go_ret
      exact ⟨rfl, rfl⟩
    · obtain rfl : b = false := by rw [hb3]; exact decide_eq_false (by omega)
      have q1 : decide (n ≥ 1) = true := decide_eq_true (by omega)
      have q255 : decide (n ≤ 255) = true := decide_eq_true (by omega)
      have q30 : decide (n < 30) = false := decide_eq_false (by omega)
      have q49 : decide (n > 49) = false := decide_eq_false (by omega)
      have q21 : (n != 21) = true := by simp only [bne_iff_ne, ne_eq]; omega
      clear hb3 h
      go_enter Tryd.func6, Tryd.ntmps6
      go_wp2_with fail
      go_ret
      exact ⟨rfl, rfl⟩
    · obtain rfl : b = true := by rw [hb3]; exact decide_eq_true (by omega)
      have q1 : decide (n ≥ 1) = true := decide_eq_true (by omega)
      have q255 : decide (n ≤ 255) = true := decide_eq_true (by omega)
      have q30 : decide (n < 30) = false := decide_eq_false (by omega)
      have q49 : decide (n > 49) = true := decide_eq_true (by omega)
      have q21 : (n != 21) = true := by simp only [bne_iff_ne, ne_eq]; omega
      clear hb3 h
      go_enter Tryd.func6, Tryd.ntmps6
      go_wp2_with fail
      go_ret
      exact ⟨rfl, rfl⟩
    · obtain rfl : b = false := by rw [hb3]; exact decide_eq_false (by omega)
      have q1 : decide (n ≥ 1) = true := decide_eq_true (by omega)
      have q255 : decide (n ≤ 255) = false := decide_eq_false (by omega)
      have q30 : decide (n < 30) = false := decide_eq_false (by omega)
      have q49 : decide (n > 49) = true := decide_eq_true (by omega)
      have q21 : (n != 21) = true := by simp only [bne_iff_ne, ne_eq]; omega
      clear hb3 h
      go_enter Tryd.func6, Tryd.ntmps6
      go_wp2_with fail
      go_ret
      exact ⟨rfl, rfl⟩

/-- The text with a number in a list. -/
def wordOf (l : List ByteArray) (n : Int) : ByteArray := if n < 0 then ⟨#[]⟩ else (l[n.toNat]?).getD ⟨#[]⟩
theorem wordOf_in {l : List ByteArray} {k : Nat} (h : k < l.length) : l[k]? = some (wordOf l (k : Int)) := by
  unfold wordOf
  rw [if_neg (by omega)]
  simp [List.getElem?_eq_getElem h]
theorem wordOf_out {l : List ByteArray} {n : Int} (h : n < 0 ∨ l.length ≤ n) : wordOf l n = ⟨#[]⟩ := by
  unfold wordOf
  by_cases h0 : n < 0
  · rw [if_pos h0]
  · rw [if_neg h0, List.getElem?_eq_none (by omega)]
    rfl
set_option maxRecDepth 100000 in
theorem r23Word_any {w : World} {v : Value} {l : List ByteArray} (h : TextsAt w v l) (hl : l.length ≤ 1000) (n : Int) (x : ByteArray) (hx : x = wordOf l n) : Calls Tryd.prog 8 #[v, .int .i64 n] w fun e w' => e = .returned (.string x) ∧ w' = w := by
  obtain ⟨ao, cap, rfl, hc⟩ := h
  by_cases h0 : n < 0
  · obtain rfl : x = ⟨#[]⟩ := by rw [hx]; exact wordOf_out (.inl h0)
    have q1 : decide (n < 0) = true := decide_eq_true h0
    clear hx h0 hc
    go_enter Tryd.func8, Tryd.ntmps8
    go_wp2_with fail
    go_ret
    exact ⟨rfl, rfl⟩
  · by_cases h1 : l.length ≤ n
    · obtain rfl : x = ⟨#[]⟩ := by rw [hx]; exact wordOf_out (.inr h1)
      have q1 : decide (n < 0) = false := decide_eq_false h0
      have q2 : decide (n ≥ (l.length : Int)) = true := decide_eq_true (by omega)
      clear hx h0 hc h1
      generalize l.length = m at *
      go_enter Tryd.func8, Tryd.ntmps8
      go_wp2_with fail
      go_ret
      exact ⟨rfl, rfl⟩
    · obtain ⟨k, rfl⟩ : ∃ k : Nat, n = k := ⟨n.toNat, by omega⟩
      have hk : k < l.length := by omega
      obtain ⟨b, off, rfl, _, hcell⟩ := hc (by intro h; simp [h] at hk)
      have c1 := hcell k x (by rw [hx]; exact wordOf_in hk)
      have q1 : decide ((k : Int) < 0) = false := decide_eq_false h0
      have q2 : decide ((k : Int) ≥ (l.length : Int)) = false := decide_eq_false (by omega)
      clear hx h0 hc h1 hcell
      generalize l.length = m at *
      go_enter Tryd.func8, Tryd.ntmps8
      go_wp2_with fail
      go_ret
      exact ⟨rfl, rfl⟩
end Go.Proofs.YtbnecckgapainaaDoor
