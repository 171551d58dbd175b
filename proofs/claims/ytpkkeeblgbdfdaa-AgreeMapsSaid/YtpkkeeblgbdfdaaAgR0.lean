/- Layer 32: what a history says of its beginnings: plain. -/
import Derived.Test.YtpkkeeblgbdfdaaAgL
import Derived.Test.YtpkkeeblgbdfdaaAgO
namespace Go.Proofs.Ytpkkeeblgbdfdaa
open Go.RowKit

section
variable {S T : List Int} {l m : List EvV} {n : Nat}
theorem fst_congr (H : ∀ i, i < n → l[i]? = m[i]?) (x : MarkV) : ∀ k, k ≤ n → fstM l x k = fstM m x k
  | 0, _ => rfl
  | k + 1, hk => by
    have ih := fst_congr H x k (by omega)
    unfold fstM
    rw [ih, H k (by omega)]
theorem sess_congr (H : ∀ i, i < n → l[i]? = m[i]?) (HS : ∀ i, i < n → decide ((i : Int) ∈ S) = decide ((i : Int) ∈ T)) (z : Int) : ∀ k, k ≤ n → sessS S l z k = sessS T m z k
  | 0, _ => rfl
  | k + 1, hk => by
    have ih := sess_congr H HS z k (by omega)
    have ha : ∀ x s, afterV S k x s = afterV T k x s := fun x s => by
      unfold afterV
      rw [HS k (by omega)]
    unfold sessS
    rw [H k (by omega), ih]
    cases m[k]? with
    | none => rfl
    | some x => simp only [ha]
theorem take_congr (H : ∀ i, i < n → l[i]? = m[i]?) {k : Nat} (hk : k ≤ n) : l.take k = m.take k := by
  apply List.ext_getElem?
  intro i
  rw [List.getElem?_take, List.getElem?_take]
  by_cases h : i < k
  · rw [if_pos h, if_pos h, H i (by omega)]
  · rw [if_neg h, if_neg h]
theorem src_congr (H : ∀ i, i < n → l[i]? = m[i]?) {k : Nat} (hk : k < n) : srcK l k = srcK m k := by
  unfold srcK
  rw [H k hk]
  cases m[k]? with
  | none => rfl
  | some x =>
    simp only []
    congr 1
    funext y
    exact fst_congr H y k (by omega)
theorem ask_congr (H : ∀ i, i < n → l[i]? = m[i]?) (HS : ∀ i, i < n → decide ((i : Int) ∈ S) = decide ((i : Int) ∈ T)) {k : Nat} (hk : k < n) : askK S l k = askK T m k := by
  unfold askK
  rw [H k hk]
  cases m[k]? with
  | none => rfl
  | some x =>
    simp only [askedV]
    rw [sess_congr H HS x.se k (by omega), HS k hk]
theorem usd_congr (H : ∀ i, i < n → l[i]? = m[i]?) (HS : ∀ i, i < n → decide ((i : Int) ∈ S) = decide ((i : Int) ∈ T)) (z : Int) : ∀ k, k ≤ n → usdK S l k z = usdK T m k z
  | 0, _ => rfl
  | k + 1, hk => by
    have ih := usd_congr H HS z k (by omega)
    unfold usdK
    rw [ih, ask_congr H HS (by omega : k < n), src_congr H (by omega : k < n)]
theorem rule_congr (H : ∀ i, i < n → l[i]? = m[i]?) (HS : ∀ i, i < n → decide ((i : Int) ∈ S) = decide ((i : Int) ∈ T)) {k : Nat} (hk : k < n) (x : EvV) (i : Nat) : ruleB S l k x i = ruleB T m k x i := by
  have h1 := sess_congr H HS x.se k (by omega)
  have h2 := ask_congr H HS hk
  have h3 := src_congr H hk
  have h4 : aheadB l x.wh (k : Int) = aheadB m x.wh (k : Int) := by unfold aheadB; rw [Int.toNat_natCast, take_congr H (by omega)]
  have h5 : ∀ z, usdK S l k z = usdK T m k z := fun z => usd_congr H HS z k (by omega)
  unfold ruleB
  rw [h1, h2, h3, h4]
  simp only [h5]
theorem bad_congr (H : ∀ i, i < n → l[i]? = m[i]?) (HS : ∀ i, i < n → decide ((i : Int) ∈ S) = decide ((i : Int) ∈ T)) {k : Nat} (hk : k < n) : badK S l k = badK T m k := by
  unfold badK
  rw [H k hk]
  cases m[k]? with
  | none => rfl
  | some x =>
    simp only []
    congr 1
    funext i
    exact rule_congr H HS hk x i
theorem first_cases (P : Nat → Prop) [DecidablePred P] : ∀ n, (∀ j, j < n → P j) ∨ ∃ i, i < n ∧ (∀ j, j < i → P j) ∧ ¬ P i
  | 0 => .inl fun j hj => absurd hj (by omega)
  | n + 1 => by
    rcases first_cases P n with h | ⟨i, h1, h2, h3⟩
    · by_cases hp : P n
      · refine .inl fun j hj => ?_
        rcases Nat.lt_or_eq_of_le (Nat.le_of_lt_succ hj) with h' | rfl
        · exact h j h'
        · exact hp
      · exact .inr ⟨n, by omega, h, hp⟩
    · exact .inr ⟨i, by omega, h2, h3⟩
end
theorem SA_is {l : List EvV} {j : Nat} (hj : j < l.length) : decide ((j : Int) ∈ SA l) = safeB l j := mem_safes hj
/-- A beginning's first violation is the whole's, where it lies in the beginning. -/
theorem wrong_upto {l : List EvV} {k : Nat} (hk : k ≤ l.length) :
    (∃ i : Nat, i < k ∧ wrongI (SA l) l = (i : Int) ∧ wrongI (SA (l.take k)) (l.take k) = (i : Int) ∧ wrongW (SA (l.take k)) (l.take k) = wrongW (SA l) l ∧ (wrongW (SA l) l).size ≠ 0) ∨
    ((wrongI (SA l) l = -1 ∨ ∃ i : Nat, k ≤ i ∧ wrongI (SA l) l = (i : Int)) ∧ wrongI (SA (l.take k)) (l.take k) = -1 ∧ wrongW (SA (l.take k)) (l.take k) = ⟨#[]⟩) := by
  have hl : (l.take k).length = k := by rw [List.length_take]; omega
  have H : ∀ i, i < k → (l.take k)[i]? = l[i]? := fun i hi => by rw [List.getElem?_take, if_pos hi]
  have HS : ∀ i, i < k → decide ((i : Int) ∈ SA (l.take k)) = decide ((i : Int) ∈ SA l) := fun i hi => by
    rw [SA_is (by rw [hl]; exact hi), SA_is (by omega)]
    obtain ⟨n, rfl⟩ : ∃ n, k = n + 1 := ⟨k - 1, by omega⟩
    exact safe_take (by omega) (by omega)
  have hb : ∀ j, j < k → badK (SA (l.take k)) (l.take k) j = badK (SA l) l j := fun j hj => bad_congr H HS hj
  rcases first_cases (fun j => (badK (SA l) l j).size = 0) l.length with h | ⟨i, h1, h2, h3⟩
  · refine .inr ⟨.inl ?_, ?_⟩
    · unfold wrongI; rw [wrongO_none h]
    · have e : wrongO (SA (l.take k)) (l.take k) = none := wrongO_none fun j hj => by rw [hl] at hj; rw [hb j hj]; exact h j (by omega)
      unfold wrongI wrongW
      rw [e]
      exact ⟨rfl, rfl⟩
  · have ei := wrongO_hit h2 h1 h3
    by_cases hik : i < k
    · have e : wrongO (SA (l.take k)) (l.take k) = some i := wrongO_hit (fun j hj => by rw [hb j (by omega)]; exact h2 j hj) (by rw [hl]; exact hik) (by rw [hb i hik]; exact h3)
      refine .inl ⟨i, hik, ?_, ?_, ?_, ?_⟩
      · unfold wrongI; rw [ei]
      · unfold wrongI; rw [e]
      · unfold wrongW; rw [ei, e]; exact hb i hik
      · unfold wrongW; rw [ei]; exact h3
    · refine .inr ⟨.inr ⟨i, by omega, ?_⟩, ?_⟩
      · unfold wrongI; rw [ei]
      · have e : wrongO (SA (l.take k)) (l.take k) = none := wrongO_none fun j hj => by rw [hl] at hj; rw [hb j hj]; exact h2 j (by omega)
        unfold wrongI wrongW
        rw [e]
        exact ⟨rfl, rfl⟩
end Go.Proofs.Ytpkkeeblgbdfdaa
