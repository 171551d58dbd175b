/- Layer 37: the census of a list may be: plain. -/
import Derived.Test.YtjphlhehhigpjaaCe2
import Derived.Test.YtjphlhehhigpjaaCe4
namespace Go.Proofs.Ytjphlhehhigpjaa
open Go.RowKit

theorem natB_sum : ∀ L : List Int, natB L = true → 0 ≤ L.sum
  | [], _ => by simp
  | n :: r, h => by
    unfold natB at h
    rw [List.all_cons, Bool.and_eq_true, decide_eq_true_iff] at h
    have := natB_sum r h.2
    rw [List.sum_cons]; omega
theorem sumB_is : ∀ (L : List Int) (w : Int), natB L = true → sumB w L = decide (L.sum = w)
  | [], w, _ => by
    unfold sumB
    rw [List.sum_nil]
    by_cases h : w = 0
    · rw [h]; rfl
    · rw [beq_eq_false_iff_ne.2 h, decide_eq_false (fun e => h e.symm)]
  | n :: r, w, h => by
    have h' := h
    unfold natB at h
    rw [List.all_cons, Bool.and_eq_true, decide_eq_true_iff] at h
    have h0 := natB_sum r h.2
    unfold sumB
    by_cases hn : n > w
    · rw [if_pos (.inr hn), decide_eq_false]; rw [List.sum_cons]; omega
    · rw [if_neg (by omega), sumB_is r (w - n) h.2, List.sum_cons, decide_eq_decide]; omega
theorem plc_one {v : Int} {p : Nat} (hp : 0 < p) (h8 : p < 8) : (plc 8 v == p) = (v == (p : Int)) := by
  unfold plc
  by_cases h : 0 ≤ v ∧ v < (8 : Nat)
  · rw [if_pos h, Bool.eq_iff_iff, beq_iff_eq, beq_iff_eq]; omega
  · rw [if_neg h, Bool.eq_iff_iff, beq_iff_eq, beq_iff_eq]; omega
theorem ind16 (x : EvV) : (if hitC 8 x = true then 1 else 0) + (if hitC 9 x = true then 1 else 0) + (if hitC 10 x = true then 1 else 0) + (if hitC 11 x = true then 1 else 0) + (if hitC 12 x = true then 1 else 0) + (if hitC 13 x = true then 1 else 0) + (if hitC 14 x = true then 1 else 0) + (if hitC 15 x = true then 1 else 0) + (if hitC 16 x = true then 1 else 0) + (if hitC 17 x = true then 1 else 0) + (if hitC 18 x = true then 1 else 0) + (if hitC 19 x = true then 1 else 0) + (if hitC 20 x = true then 1 else 0) + (if hitC 21 x = true then 1 else 0) + (if hitC 22 x = true then 1 else 0) + (if hitC 23 x = true then 1 else 0) = (if hitC 6 x = true then 1 else 0) := by
  have hq := plc_lt (m := 16) (by decide) x.nu
  have e6 : hitC 6 x = (x.ki == 6) := plc_one (p := 6) (by decide) (by decide)
  have e8 : hitC 8 x = ((x.ki == 6) && (plc 16 x.nu + 8 == 8)) := rfl
  have e9 : hitC 9 x = ((x.ki == 6) && (plc 16 x.nu + 8 == 9)) := rfl
  have e10 : hitC 10 x = ((x.ki == 6) && (plc 16 x.nu + 8 == 10)) := rfl
  have e11 : hitC 11 x = ((x.ki == 6) && (plc 16 x.nu + 8 == 11)) := rfl
  have e12 : hitC 12 x = ((x.ki == 6) && (plc 16 x.nu + 8 == 12)) := rfl
  have e13 : hitC 13 x = ((x.ki == 6) && (plc 16 x.nu + 8 == 13)) := rfl
  have e14 : hitC 14 x = ((x.ki == 6) && (plc 16 x.nu + 8 == 14)) := rfl
  have e15 : hitC 15 x = ((x.ki == 6) && (plc 16 x.nu + 8 == 15)) := rfl
  have e16 : hitC 16 x = ((x.ki == 6) && (plc 16 x.nu + 8 == 16)) := rfl
  have e17 : hitC 17 x = ((x.ki == 6) && (plc 16 x.nu + 8 == 17)) := rfl
  have e18 : hitC 18 x = ((x.ki == 6) && (plc 16 x.nu + 8 == 18)) := rfl
  have e19 : hitC 19 x = ((x.ki == 6) && (plc 16 x.nu + 8 == 19)) := rfl
  have e20 : hitC 20 x = ((x.ki == 6) && (plc 16 x.nu + 8 == 20)) := rfl
  have e21 : hitC 21 x = ((x.ki == 6) && (plc 16 x.nu + 8 == 21)) := rfl
  have e22 : hitC 22 x = ((x.ki == 6) && (plc 16 x.nu + 8 == 22)) := rfl
  have e23 : hitC 23 x = ((x.ki == 6) && (plc 16 x.nu + 8 == 23)) := rfl
  rw [e6, e8, e9, e10, e11, e12, e13, e14, e15, e16, e17, e18, e19, e20, e21, e22, e23]
  generalize plc 16 x.nu = q at *
  cases (x.ki == 6) with
  | false => rfl
  | true => exact (by decide : ∀ q, q < 16 → (if (true && (q + 8 == 8)) = true then 1 else 0) + (if (true && (q + 8 == 9)) = true then 1 else 0) + (if (true && (q + 8 == 10)) = true then 1 else 0) + (if (true && (q + 8 == 11)) = true then 1 else 0) + (if (true && (q + 8 == 12)) = true then 1 else 0) + (if (true && (q + 8 == 13)) = true then 1 else 0) + (if (true && (q + 8 == 14)) = true then 1 else 0) + (if (true && (q + 8 == 15)) = true then 1 else 0) + (if (true && (q + 8 == 16)) = true then 1 else 0) + (if (true && (q + 8 == 17)) = true then 1 else 0) + (if (true && (q + 8 == 18)) = true then 1 else 0) + (if (true && (q + 8 == 19)) = true then 1 else 0) + (if (true && (q + 8 == 20)) = true then 1 else 0) + (if (true && (q + 8 == 21)) = true then 1 else 0) + (if (true && (q + 8 == 22)) = true then 1 else 0) + (if (true && (q + 8 == 23)) = true then 1 else 0) = (if true = true then 1 else 0)) q hq
theorem ind4 (x : EvV) : (if hitC 24 x = true then 1 else 0) + (if hitC 25 x = true then 1 else 0) + (if hitC 26 x = true then 1 else 0) + (if hitC 27 x = true then 1 else 0) = (if hitC 2 x = true then 1 else 0) := by
  have hq := plc_lt (m := 4) (by decide) x.dn.me
  have e2 : hitC 2 x = (x.ki == 2) := plc_one (p := 2) (by decide) (by decide)
  have e24 : hitC 24 x = ((x.ki == 2) && (plc 4 x.dn.me + 24 == 24)) := rfl
  have e25 : hitC 25 x = ((x.ki == 2) && (plc 4 x.dn.me + 24 == 25)) := rfl
  have e26 : hitC 26 x = ((x.ki == 2) && (plc 4 x.dn.me + 24 == 26)) := rfl
  have e27 : hitC 27 x = ((x.ki == 2) && (plc 4 x.dn.me + 24 == 27)) := rfl
  rw [e2, e24, e25, e26, e27]
  generalize plc 4 x.dn.me = q at *
  cases (x.ki == 2) with
  | false => rfl
  | true => exact (by decide : ∀ q, q < 4 → (if (true && (q + 24 == 24)) = true then 1 else 0) + (if (true && (q + 24 == 25)) = true then 1 else 0) + (if (true && (q + 24 == 26)) = true then 1 else 0) + (if (true && (q + 24 == 27)) = true then 1 else 0) = (if true = true then 1 else 0)) q hq
theorem ind28 (x : EvV) : (if hitC 28 x = true then 1 else 0) ≤ (if hitC 1 x = true then 1 else 0) + (if hitC 2 x = true then 1 else 0) := by
  have e1 : hitC 1 x = (x.ki == 1) := plc_one (p := 1) (by decide) (by decide)
  have e2 : hitC 2 x = (x.ki == 2) := plc_one (p := 2) (by decide) (by decide)
  have e28 : hitC 28 x = (((x.ki == 1) || (x.ki == 2)) && !(x.nu == 0)) := rfl
  rw [e1, e2, e28]
  cases (x.ki == 1) <;> cases (x.ki == 2) <;> cases (x.nu == 0) <;> decide
theorem sum16 : ∀ l : List EvV, l.countP (hitC 8) + l.countP (hitC 9) + l.countP (hitC 10) + l.countP (hitC 11) + l.countP (hitC 12) + l.countP (hitC 13) + l.countP (hitC 14) + l.countP (hitC 15) + l.countP (hitC 16) + l.countP (hitC 17) + l.countP (hitC 18) + l.countP (hitC 19) + l.countP (hitC 20) + l.countP (hitC 21) + l.countP (hitC 22) + l.countP (hitC 23) = l.countP (hitC 6)
  | [] => rfl
  | x :: l => by
    have ih := sum16 l
    have h := ind16 x
    simp only [List.countP_cons]
    omega
theorem sum4 : ∀ l : List EvV, l.countP (hitC 24) + l.countP (hitC 25) + l.countP (hitC 26) + l.countP (hitC 27) = l.countP (hitC 2)
  | [] => rfl
  | x :: l => by
    have ih := sum4 l
    have h := ind4 x
    simp only [List.countP_cons]
    omega
theorem later_le : ∀ l : List EvV, l.countP (hitC 28) ≤ l.countP (hitC 1) + l.countP (hitC 2)
  | [] => Nat.le_refl _
  | x :: l => by
    have ih := later_le l
    have h := ind28 x
    simp only [List.countP_cons]
    omega
theorem safe_le (l : List EvV) : ∀ k, k ≤ l.length → (safesL l k).length ≤ (l.take k).countP (hitC 2) + (l.take k).countP (hitC 4)
  | 0, _ => Nat.zero_le _
  | k + 1, hk => by
    have ih := safe_le l k (by omega)
    have hlt : k < l.length := by omega
    rw [List.take_succ_eq_append_getElem hlt]
    simp only [List.countP_append, List.countP_cons, List.countP_nil]
    cases e : safeB l k with
    | false => rw [safes_no e]; omega
    | true =>
      rw [safes_yes e, List.length_append]
      have e2 : hitC 2 l[k] = ((l[k]).ki == 2) := plc_one (p := 2) (by decide) (by decide)
      have e4 : hitC 4 l[k] = ((l[k]).ki == 4) := plc_one (p := 4) (by decide) (by decide)
      unfold safeB at e
      rw [List.getElem?_eq_getElem hlt] at e
      simp only [Bool.and_eq_true, claimsP, Bool.or_eq_true] at e
      rw [e2, e4]
      rcases e.1 with h | h
      · rw [h]; simp; omega
      · rw [h]; simp; omega
theorem cenC_at (l : List EvV) {i : Nat} (h : i ≠ 29) : cenC l i = ((l.countP (hitC i) : Nat) : Int) := by
  unfold cenC cenF
  rw [if_neg h, List.take_length]
theorem cenC_29 (l : List EvV) : cenC l 29 = ((safesL l l.length).length : Int) := rfl
theorem cenC_bd (l : List EvV) (i : Nat) : 0 ≤ cenC l i ∧ cenC l i ≤ l.length := by
  by_cases h : i = 29
  · subst h
    rw [cenC_29]
    have := safes_len l l.length
    omega
  · rw [cenC_at l h]
    have : l.countP (hitC i) ≤ l.length := List.countP_le_length
    omega
theorem cenC_chk (l : List EvV) : chkW (cenC l) = ⟨#[]⟩ := by
  have hb := fun i => (cenC_bd l i).1
  have hA : ckA (cenC l) = true := by unfold ckA natB; simp [hb]
  have nB : natB [cenC l 8, cenC l 9, cenC l 10, cenC l 11, cenC l 12, cenC l 13, cenC l 14, cenC l 15, cenC l 16, cenC l 17, cenC l 18, cenC l 19, cenC l 20, cenC l 21, cenC l 22, cenC l 23] = true := by unfold natB; simp [hb]
  have nC : natB [cenC l 24, cenC l 25, cenC l 26, cenC l 27] = true := by unfold natB; simp [hb]
  have hB : ckB (cenC l) = true := by
    unfold ckB
    rw [sumB_is _ _ nB, decide_eq_true_iff]
    have := sum16 l
    simp only [List.sum_cons, List.sum_nil, cenC_at l (show 6 ≠ 29 by decide), cenC_at l (show 8 ≠ 29 by decide), cenC_at l (show 9 ≠ 29 by decide), cenC_at l (show 10 ≠ 29 by decide), cenC_at l (show 11 ≠ 29 by decide), cenC_at l (show 12 ≠ 29 by decide), cenC_at l (show 13 ≠ 29 by decide), cenC_at l (show 14 ≠ 29 by decide), cenC_at l (show 15 ≠ 29 by decide), cenC_at l (show 16 ≠ 29 by decide), cenC_at l (show 17 ≠ 29 by decide), cenC_at l (show 18 ≠ 29 by decide), cenC_at l (show 19 ≠ 29 by decide), cenC_at l (show 20 ≠ 29 by decide), cenC_at l (show 21 ≠ 29 by decide), cenC_at l (show 22 ≠ 29 by decide), cenC_at l (show 23 ≠ 29 by decide)]
    omega
  have hC : ckC (cenC l) = true := by
    unfold ckC
    rw [sumB_is _ _ nC, decide_eq_true_iff]
    have := sum4 l
    simp only [List.sum_cons, List.sum_nil, cenC_at l (show 2 ≠ 29 by decide), cenC_at l (show 24 ≠ 29 by decide), cenC_at l (show 25 ≠ 29 by decide), cenC_at l (show 26 ≠ 29 by decide), cenC_at l (show 27 ≠ 29 by decide)]
    omega
  have hD : ckD (cenC l) = false := by
    unfold ckD
    have n : natB [cenC l 28] = true := by unfold natB; simp [hb]
    rw [n, Bool.not_true, Bool.false_or, decide_eq_false_iff_not]
    have := later_le l
    simp only [cenC_at l (show 1 ≠ 29 by decide), cenC_at l (show 2 ≠ 29 by decide), cenC_at l (show 28 ≠ 29 by decide)]
    omega
  have hE : ckE (cenC l) = false := by
    unfold ckE
    have n : natB [cenC l 29] = true := by unfold natB; simp [hb]
    rw [n, Bool.not_true, Bool.false_or, decide_eq_false_iff_not, cenC_29]
    have := safe_le l l.length (Nat.le_refl _)
    rw [List.take_length] at this
    simp only [cenC_at l (show 2 ≠ 29 by decide), cenC_at l (show 4 ≠ 29 by decide)]
    omega
  unfold chkW
  rw [hA, hB, hC, hD, hE]
  rfl
end Go.Proofs.Ytjphlhehhigpjaa
