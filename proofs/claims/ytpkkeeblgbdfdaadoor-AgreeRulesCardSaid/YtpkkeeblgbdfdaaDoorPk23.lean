/- Part 23 of what the statement wants. -/
import Derived.Test.YtpkkeeblgbdfdaaDoorPk12
import Derived.Test.YtpkkeeblgbdfdaaDoorPk22
namespace Go.Proofs.YtpkkeeblgbdfdaaDoor
open Go.RowKit

theorem bytes_beq32 (a b : ByteArray) : (a.toList == b.toList) = decide (a = b) := by
  by_cases h : a = b
  · subst h
    simp
  · have : a.toList ≠ b.toList := fun e => h (by
      rw [ByteArray.toList_eq, ByteArray.toList_eq] at e
      cases a with
      | mk x =>
        cases b with
        | mk y =>
          congr
          exact Array.toList_inj.1 e)
    simp [h, this]
section
variable {S : List Int} {l : List EvV} {k : Nat}
theorem take_step (hk : k < l.length) : l.take (k + 1) = l.take k ++ [l[k]] := by
  rw [List.take_add_one, List.getElem?_eq_getElem hk]
  rfl
theorem same_mark (x y : EvV) (n : Int) (hn : n ≠ 1) : ((y.ki == n) && sameB y x) = decide (markE y.ki y = markE n x) := by
  have hm : markE n x = MarkV.mk n x.wh x.us x.sv x.al x.sid zeroD := by unfold markE; rw [if_neg hn]
  by_cases h1 : y.ki = 1
  · have e : (y.ki == n) = false := by rw [beq_eq_false_iff_ne, h1]; exact fun e => hn e.symm
    rw [e, Bool.false_and, hm]
    symm
    refine decide_eq_false fun e2 => hn ?_
    have := congrArg MarkV.ki e2
    unfold markE at this
    rw [if_pos h1] at this
    simp at this
    omega
  · have hy : markE y.ki y = MarkV.mk y.ki y.wh y.us y.sv y.al y.sid zeroD := by unfold markE; rw [if_neg h1]
    rw [hy, hm]
    by_cases h2 : y.ki = n
    · simp only [h2, MarkV.mk.injEq, true_and, and_true, sameB]
      by_cases a1 : y.wh = x.wh <;> by_cases a2 : y.us = x.us <;> by_cases a3 : y.sv = x.sv <;> by_cases a4 : y.al = x.al <;> by_cases a5 : y.sid = x.sid <;> simp [a1, a2, a3, a4, a5, bytes_beq32]
    · have e : (y.ki == n) = false := by rw [beq_eq_false_iff_ne]; exact h2
      rw [e, Bool.false_and]
      symm
      exact decide_eq_false fun e2 => h2 (congrArg MarkV.ki e2)
theorem srcB_is (x : EvV) : (∃ m, (∀ g, sourceO g x = g m) ∧ ∀ y, srcB x y = decide (markE y.ki y = m)) ∨ ((∀ g, sourceO g x = none) ∧ ∀ y, srcB x y = false) := by
  by_cases h2 : x.ki = 2
  · refine .inl ⟨markE 1 x, fun g => by unfold sourceO; rw [if_pos h2], fun y => ?_⟩
    have e : srcB x y = ((y.ki == 1) && ((y.wh == x.wh) && decide (y.dn = x.dn))) := by unfold srcB; rw [h2]; simp
    rw [e]
    have hm : markE 1 x = MarkV.mk 1 x.wh ⟨#[]⟩ ⟨#[]⟩ ⟨#[]⟩ 0 x.dn := rfl
    by_cases h1 : y.ki = 1
    · have hy : markE y.ki y = MarkV.mk 1 y.wh ⟨#[]⟩ ⟨#[]⟩ ⟨#[]⟩ 0 y.dn := by unfold markE; rw [if_pos h1, h1]
      rw [hy, hm, h1]
      by_cases a1 : y.wh = x.wh <;> by_cases a2 : y.dn = x.dn <;> simp [a1, a2]
    · have e1 : (y.ki == 1) = false := by rw [beq_eq_false_iff_ne]; exact h1
      rw [e1, Bool.false_and]
      symm
      refine decide_eq_false fun e2 => h1 ?_
      have := congrArg MarkV.ki e2
      unfold markE at this
      rw [if_neg h1] at this
      simpa using this
  · by_cases h4 : x.ki = 4
    · refine .inl ⟨markE 3 x, fun g => by unfold sourceO; rw [if_neg h2, if_pos h4], fun y => ?_⟩
      rw [← same_mark x y 3 (by decide)]
      unfold srcB
      rw [h4]
      simp
    · by_cases h5 : x.ki = 5
      · refine .inl ⟨markE 4 x, fun g => by unfold sourceO; rw [if_neg h2, if_neg h4, if_pos h5], fun y => ?_⟩
        rw [← same_mark x y 4 (by decide)]
        unfold srcB
        rw [h5]
        simp
      · refine .inr ⟨fun g => by unfold sourceO; rw [if_neg h2, if_neg h4, if_neg h5], fun y => ?_⟩
        unfold srcB
        simp [h2, h4, h5]
theorem fst_find (m : MarkV) : ∀ k, k ≤ l.length → fstM l m k = (l.take k).findIdx? (fun y => decide (markE y.ki y = m))
  | 0, _ => by simp [fstM]
  | k + 1, hk => by
    have ih := fst_find m k (by omega)
    rw [take_step (by omega : k < l.length), List.findIdx?_append, ← ih]
    conv => lhs; unfold fstM
    rw [List.getElem?_eq_getElem (by omega : k < l.length)]
    cases hf : fstM l m k with
    | some i => rfl
    | none =>
      simp only [Option.none_or]
      by_cases e : markE (l[k]).ki l[k] = m
      · simp [e, List.findIdx?_cons, List.length_take, Nat.min_eq_left (by omega : k ≤ l.length)]
      · simp [e, List.findIdx?_cons]
theorem src_find (hk : k < l.length) : srcK l k = (l.take k).findIdx? (srcB l[k]) := by
  unfold srcK
  rw [List.getElem?_eq_getElem hk]
  simp only []
  rcases srcB_is l[k] with ⟨m, h1, h2⟩ | ⟨h1, h2⟩
  · rw [h1, fst_find m k (by omega)]
    congr 1
    funext y
    exact (h2 y).symm
  · rw [h1]
    symm
    rw [List.findIdx?_eq_none_iff]
    intro x _
    exact h2 x
theorem src_idx (hk : k < l.length) : idxP (srcB l[k]) (l.take k) = match srcK l k with | some i => (i : Int) | none => -1 := by
  rw [src_find hk]
  rfl
/-- What became of a session, by the document. -/
structure SessI (S : List Int) (l : List EvV) (z : Int) (k : Nat) : Prop where
  ex : (sessS S l z k).ex = (((l.take k).countP (exchP z) : Nat) : Int)
  co : (sessS S l z k).co = (match (l.take k).findIdx? (exchP z) with
    | some i => (match l[i]? with
      | some y => y.ki == 2 && safeB l i
      | none => false)
    | none => false)
  id : (sessS S l z k).id = (match (l.take k).find? (exchP z) with
    | some y => y.dn.ks
    | none => 0)
  ac : (sessS S l z k).ac = (l.take k).any (fun y => (y.ki == 4) && (y.se == z))
  le : (sessS S l z k).le = (l.take k).any (fun y => (y.ki == 5) && (y.se == z))
  en : (sessS S l z k).en = (l.take k).any (fun y => (y.ki == 6) && (y.se == z))
theorem count_zero (z : Int) (k : Nat) (h : ((l.take k).countP (exchP z)) = 0) : (l.take k).findIdx? (exchP z) = none ∧ (l.take k).find? (exchP z) = none := by
  rw [List.countP_eq_zero] at h
  exact ⟨by rw [List.findIdx?_eq_none_iff]; intro x hx; simpa using h x hx, List.find?_eq_none.2 h⟩
theorem count_pos (z : Int) (k : Nat) (h : ((l.take k).countP (exchP z)) ≠ 0) : (∃ i, (l.take k).findIdx? (exchP z) = some i) ∧ ∃ y, (l.take k).find? (exchP z) = some y := by
  have hp : 0 < (l.take k).countP (exchP z) := Nat.pos_of_ne_zero h
  rw [List.countP_pos_iff] at hp
  obtain ⟨a, ha, hb⟩ := hp
  constructor
  · cases hf : (l.take k).findIdx? (exchP z) with
    | some i => exact ⟨i, rfl⟩
    | none =>
      rw [List.findIdx?_eq_none_iff] at hf
      rw [hf a ha] at hb
      cases hb
  · cases hf : (l.take k).find? (exchP z) with
    | some y => exact ⟨y, rfl⟩
    | none => exact absurd hb (List.find?_eq_none.1 hf a ha)
theorem safe_kind (hk : k < l.length) (h : (l[k]).ki = 1) : safeB l k = false := by
  rw [safeB_claim hk]
  simp [claimsP, h]
theorem sess_is (z : Int) : ∀ k, k ≤ l.length → (∀ j, j < k → decide ((j : Int) ∈ S) = safeB l j) → SessI S l z k
  | 0, _, _ => ⟨by simp [sessS, zeroS], by simp [sessS, zeroS], by simp [sessS, zeroS], by simp [sessS, zeroS], by simp [sessS, zeroS], by simp [sessS, zeroS]⟩
  | k + 1, hk, hS => by
    have ih := sess_is z k (by omega) (fun j hj => hS j (by omega))
    have hlt : k < l.length := by omega
    have hts := take_step hlt
    have e0 : sessS S l z (k + 1) = if (l[k]).se = z ∧ (l[k]).ki ≠ 7 then afterV S k l[k] (sessS S l z k) else sessS S l z k := by
      conv => lhs; unfold sessS
      rw [List.getElem?_eq_getElem hlt]
    have hlen : (l.take k).length = k := by rw [List.length_take]; omega
    have hSk := hS k (by omega)
    by_cases hz : (l[k]).se = z
    · by_cases hx : (l[k]).ki = 1 ∨ (l[k]).ki = 2
      · have h7 : (l[k]).ki ≠ 7 := by rcases hx with h | h <;> omega
        have hex : exchP z l[k] = true := by unfold exchP; rcases hx with h | h <;> simp [hz, h]
        rw [if_pos ⟨hz, h7⟩] at e0
        have hA : afterV S k l[k] (sessS S l z k) = ⟨(sessS S l z k).ex + 1, if (sessS S l z k).ex = 0 then (l[k]).dn.ks else (sessS S l z k).id, if (sessS S l z k).ex = 0 then decide ((k : Int) ∈ S) else (sessS S l z k).co, (sessS S l z k).ac, (sessS S l z k).le, (sessS S l z k).en⟩ := by
          unfold afterV; rw [if_pos hx]
        rw [hA] at e0
        have hne : ∀ n : Int, n ≠ 1 → n ≠ 2 → ((l[k]).ki == n) = false := fun n h1 h2 => by rw [beq_eq_false_iff_ne]; rcases hx with h | h <;> omega
        refine ⟨?_, ?_, ?_, ?_, ?_, ?_⟩
        · rw [e0, hts, List.countP_append, ih.ex]
          simp [hex]
        · rw [e0, hts, List.findIdx?_append]
          by_cases h0 : (l.take k).countP (exchP z) = 0
          · have := (count_zero z k h0).1
            rw [this]
            have he : (sessS S l z k).ex = 0 := by rw [ih.ex, h0]; rfl
            simp only [he, if_true, Option.none_or, List.findIdx?_cons, hex, Option.map_some, hlen, Nat.zero_add, List.getElem?_eq_getElem hlt, hSk]
            rcases hx with h | h
            · rw [safe_kind hlt h, Bool.and_false]
            · rw [h]; rfl
          · obtain ⟨i, hi⟩ := (count_pos z k h0).1
            have he : (sessS S l z k).ex ≠ 0 := by rw [ih.ex]; omega
            rw [hi]
            simp only [if_neg he, Option.some_or]
            rw [ih.co, hi]
        · rw [e0, hts, List.find?_append]
          by_cases h0 : (l.take k).countP (exchP z) = 0
          · rw [(count_zero z k h0).2]
            have he : (sessS S l z k).ex = 0 := by rw [ih.ex, h0]; rfl
            simp [he, hex]
          · obtain ⟨y, hy⟩ := (count_pos z k h0).2
            have he : (sessS S l z k).ex ≠ 0 := by rw [ih.ex]; omega
            rw [hy]
            simp only [if_neg he, Option.some_or]
            rw [ih.id, hy]
        · rw [e0, hts, List.any_append, ← ih.ac]; simp [hne 4 (by decide) (by decide)]
        · rw [e0, hts, List.any_append, ← ih.le]; simp [hne 5 (by decide) (by decide)]
        · rw [e0, hts, List.any_append, ← ih.en]; simp [hne 6 (by decide) (by decide)]
      · have hex : exchP z l[k] = false := by
          unfold exchP
          have h1 : ((l[k]).ki == 1) = false := by rw [beq_eq_false_iff_ne]; exact fun e => hx (.inl e)
          have h2 : ((l[k]).ki == 2) = false := by rw [beq_eq_false_iff_ne]; exact fun e => hx (.inr e)
          rw [h1, h2]; simp
        have hz' : ((l[k]).se == z) = true := by rw [hz]; exact beq_self_eq_true _
        have hE : (sessS S l z (k + 1)).ex = (sessS S l z k).ex ∧ (sessS S l z (k + 1)).co = (sessS S l z k).co ∧ (sessS S l z (k + 1)).id = (sessS S l z k).id ∧ (sessS S l z (k + 1)).ac = ((sessS S l z k).ac || ((l[k]).ki == 4)) ∧ (sessS S l z (k + 1)).le = ((sessS S l z k).le || ((l[k]).ki == 5)) ∧ (sessS S l z (k + 1)).en = ((sessS S l z k).en || ((l[k]).ki == 6)) := by
          rw [e0]
          by_cases h7 : (l[k]).ki = 7
          · rw [if_neg (fun e => e.2 h7), h7]
            simp
          · rw [if_pos ⟨hz, h7⟩]
            unfold afterV
            rw [if_neg hx]
            by_cases h4 : (l[k]).ki = 4
            · rw [if_pos h4, h4]; simp
            · rw [if_neg h4]
              by_cases h5 : (l[k]).ki = 5
              · rw [if_pos h5, h5]; simp
              · rw [if_neg h5]
                by_cases h6 : (l[k]).ki = 6
                · rw [if_pos h6, h6]; simp
                · rw [if_neg h6]
                  have a4 : ((l[k]).ki == 4) = false := by rw [beq_eq_false_iff_ne]; exact h4
                  have a5 : ((l[k]).ki == 5) = false := by rw [beq_eq_false_iff_ne]; exact h5
                  have a6 : ((l[k]).ki == 6) = false := by rw [beq_eq_false_iff_ne]; exact h6
                  simp [a4, a5, a6]
        refine ⟨?_, ?_, ?_, ?_, ?_, ?_⟩
        · rw [hE.1, hts, List.countP_append, ih.ex]; simp [hex]
        · rw [hE.2.1, hts, List.findIdx?_append, ih.co]; simp [hex, List.findIdx?_cons]
        · rw [hE.2.2.1, hts, List.find?_append, ih.id]; simp [hex]
        · rw [hE.2.2.2.1, hts, List.any_append, ih.ac]; simp [hz']
        · rw [hE.2.2.2.2.1, hts, List.any_append, ih.le]; simp [hz']
        · rw [hE.2.2.2.2.2, hts, List.any_append, ih.en]; simp [hz']
    · have hz' : ((l[k]).se == z) = false := by rw [beq_eq_false_iff_ne]; exact hz
      have hex : exchP z l[k] = false := by unfold exchP; rw [hz', Bool.false_and]
      rw [if_neg (fun e => hz e.1)] at e0
      refine ⟨?_, ?_, ?_, ?_, ?_, ?_⟩
      · rw [e0, hts, List.countP_append, ih.ex]; simp [hex]
      · rw [e0, hts, List.findIdx?_append, ih.co]; simp [hex, List.findIdx?_cons]
      · rw [e0, hts, List.find?_append, ih.id]; simp [hex]
      · rw [e0, hts, List.any_append, ih.ac]; simp [hz']
      · rw [e0, hts, List.any_append, ih.le]; simp [hz']
      · rw [e0, hts, List.any_append, ih.en]; simp [hz']
theorem ask_is (hk : k < l.length) (hS : ∀ j, j ≤ k → decide ((j : Int) ∈ S) = safeB l j) : askK S l k = askedR l k := by
  unfold askK askedR
  rw [List.getElem?_eq_getElem hk]
  simp only []
  unfold askedV
  by_cases h5 : (l[k]).ki = 5
  · rw [if_pos h5, if_pos h5]
    exact (sess_is (l[k]).se k (by omega) (fun j hj => hS j (by omega))).co
  · rw [if_neg h5, if_neg h5]
    exact hS k (Nat.le_refl _)
theorem safe_take {j n : Nat} (hj : j ≤ n) (hn : n < l.length) : safeB (l.take (n + 1)) j = safeB l j := by
  unfold safeB
  rw [List.getElem?_take, if_pos (by omega)]
  have e : ∀ who, aheadB (l.take (n + 1)) who (j : Int) = aheadB l who (j : Int) := fun who => by
    unfold aheadB
    rw [Int.toNat_natCast, List.take_take, Nat.min_eq_left (by omega)]
  cases l[j]? with
  | none => rfl
  | some y => simp only [e]
theorem SB_is {n j : Nat} (hn : n < l.length) (hj : j ≤ n) : decide ((j : Int) ∈ SB l n) = safeB l j := by
  have hl : (l.take (n + 1)).length = n + 1 := by rw [List.length_take]; omega
  have := mem_safes (l := l.take (n + 1)) (k := j) (by rw [hl]; omega)
  rw [hl] at this
  rw [← safe_take hj hn]
  exact this
end
end Go.Proofs.YtpkkeeblgbdfdaaDoor

namespace Go.Proofs.YtpkkeeblgbdfdaaDoor
open Go.RowKit

section
variable {S T : List Int} {l m : List EvV} {n : Nat}
end
theorem SA_is {l : List EvV} {j : Nat} (hj : j < l.length) : decide ((j : Int) ∈ SA l) = safeB l j := mem_safes hj
end Go.Proofs.YtpkkeeblgbdfdaaDoor

namespace Go.Proofs.YtpkkeeblgbdfdaaDoor
open Go.RowKit

end Go.Proofs.YtpkkeeblgbdfdaaDoor
