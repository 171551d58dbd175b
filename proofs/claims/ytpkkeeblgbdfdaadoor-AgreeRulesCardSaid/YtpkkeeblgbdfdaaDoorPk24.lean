/- Part 24 of what the statement wants. -/
import Derived.Test.YtpkkeeblgbdfdaaDoorPk23
namespace Go.Proofs.YtpkkeeblgbdfdaaDoor
open Go.RowKit

/-- How many events of a kind, of a session, lie below a place. -/
def cntR (l : List EvV) (ki se : Int) (n : Nat) : Nat := (l.take n).countP (fun y => (y.ki == ki) && (y.se == se))
/-- Does one of the events below come from this place, of the same kind? -/
def twiceR (l : List EvV) (ki : Int) (s : Nat) (n : Nat) : Bool := (List.range n).any fun i => match l[i]? with
  | some y => (y.ki == ki) && (askedR l i && decide (srcK l i = some s))
  | none => false
/-- The rules on sources. -/
def srcsR (l : List EvV) (n : Nat) : ByteArray := match l[n]? with
  | some x => if askedR l n = false then ⟨#[]⟩ else match srcK l n with
    | none => if x.ki = 2 then nmR 6 else if x.ki = 4 then nmR 7 else nmR 8
    | some s => if twiceR l x.ki s n = true then nmR 9 else ⟨#[]⟩
  | none => ⟨#[]⟩
/-- What a session's first exchange told: its identifier. -/
def wantR (l : List EvV) (x : EvV) (n : Nat) : Int := match (l.take n).find? (exchP x.se) with
  | some y => y.dn.ks
  | none => x.dn.kh
def earlyR (l : List EvV) (x : EvV) (n : Nat) : Bool := match (l.take n).find? (exchP x.se) with
  | some y => y.dn.ks == x.sid
  | none => false
def ruleR (l : List EvV) (n : Nat) : ByteArray := match l[n]? with
  | some x =>
    if (!(x.ki == 7) && decide (0 < cntR l 6 x.se n)) = true then nmR 0
    else if ((x.ki == 7) && aheadB l x.wh n) = true then nmR 1
    else if (exchK x && !(x.nu == ((cntR l 1 x.se n : Nat) : Int) + ((cntR l 2 x.se n : Nat) : Int))) = true then nmR 2
    else if (exchK x && !(x.dn.ks == wantR l x n)) = true then nmR 3
    else if (loginK x && !earlyR l x n) = true then nmR 4
    else if (((x.ki == 4) || (x.ki == 5)) && decide (0 < cntR l x.ki x.se n)) = true then nmR 5
    else srcsR l n
  | none => ⟨#[]⟩
theorem firstBad_chain (nm : Nat → ByteArray) (hb : Nat → Bool) : firstBad nm hb 10 = if hb 0 = false then nm 0 else if hb 1 = false then nm 1 else if hb 2 = false then nm 2 else if hb 3 = false then nm 3 else if hb 4 = false then nm 4
    else if hb 5 = false then nm 5 else if hb 6 = false then nm 6 else if hb 7 = false then nm 7 else if hb 8 = false then nm 8 else if hb 9 = false then nm 9 else ⟨#[]⟩ := by
  unfold firstBad
  rw [show List.range 10 = [0, 1, 2, 3, 4, 5, 6, 7, 8, 9] from rfl]
  simp only [List.find?_cons, List.find?_nil]
  generalize hb 0 = b0, hb 1 = b1, hb 2 = b2, hb 3 = b3, hb 4 = b4, hb 5 = b5, hb 6 = b6, hb 7 = b7, hb 8 = b8, hb 9 = b9
  cases b0
  · rfl
  cases b1
  · rfl
  cases b2
  · rfl
  cases b3
  · rfl
  cases b4
  · rfl
  cases b5
  · rfl
  cases b6
  · rfl
  cases b7
  · rfl
  cases b8
  · rfl
  cases b9 <;> rfl
section
variable {S : List Int} {l : List EvV} {n : Nat}
theorem cnt_any (ki se : Int) (m : List EvV) : (m.any fun y => (y.ki == ki) && (y.se == se)) = decide (0 < m.countP fun y => (y.ki == ki) && (y.se == se)) := by
  rw [Bool.eq_iff_iff, List.any_eq_true, decide_eq_true_iff, List.countP_pos_iff]
theorem cnt_exch (se : Int) : ∀ m : List EvV, m.countP (exchP se) = m.countP (fun y => (y.ki == 1) && (y.se == se)) + m.countP (fun y => (y.ki == 2) && (y.se == se))
  | [] => rfl
  | y :: m => by
    have ih := cnt_exch se m
    rw [List.countP_cons, List.countP_cons, List.countP_cons, ih]
    have e : (if exchP se y = true then 1 else 0) = (if ((y.ki == 1) && (y.se == se)) = true then 1 else 0) + (if ((y.ki == 2) && (y.se == se)) = true then 1 else 0) := by
      unfold exchP
      by_cases h1 : y.ki = 1
      · rw [h1]; by_cases h2 : y.se = se <;> simp [h2]
      · by_cases h3 : y.ki = 2
        · rw [h3]; by_cases h2 : y.se = se <;> simp [h2]
        · simp [h1, h3]
    omega
theorem find_pos (se : Int) (m : List EvV) : (0 < m.countP (exchP se)) ↔ ∃ y, m.find? (exchP se) = some y := by
  rw [List.countP_pos_iff]
  constructor
  · rintro ⟨a, ha, hp⟩
    cases h : m.find? (exchP se) with
    | none => exact absurd hp (List.find?_eq_none.1 h a ha)
    | some y => exact ⟨y, rfl⟩
  · rintro ⟨y, h⟩
    exact ⟨y, List.mem_of_find?_eq_some h, List.find?_some h⟩
theorem twice_is (hn : n < l.length) (hS : ∀ j, j ≤ n → decide ((j : Int) ∈ S) = safeB l j) {s : Nat} (hs : srcK l n = some s) : ∀ k, k ≤ n → usdK S l k (s : Int) = (List.range k).any fun i => match l[i]? with
    | some y => (y.ki == (l[n]).ki) && (askedR l i && decide (srcK l i = some s))
    | none => false
  | 0, _ => rfl
  | k + 1, hk => by
    have ih := twice_is hn hS hs k (by omega)
    have hkl : k < l.length := by omega
    unfold usdK
    rw [ih, List.range_succ, List.any_append, List.any_cons, List.any_nil, Bool.or_false, Bool.or_comm]
    congr 1
    rw [List.getElem?_eq_getElem hkl]
    simp only []
    rw [ask_is hkl fun j hj => hS j (by omega)]
    by_cases e : srcK l k = some s
    · have hki : (l[k]).ki = (l[n]).ki := by
        have h1 := hs
        rw [src_find hn] at h1
        obtain ⟨h3, h4, _⟩ := List.findIdx?_eq_some_iff_getElem.1 h1
        rw [List.getElem_take] at h4
        have h1' := e
        rw [src_find hkl] at h1'
        obtain ⟨h3', h4', _⟩ := List.findIdx?_eq_some_iff_getElem.1 h1'
        rw [List.getElem_take] at h4'
        unfold srcB at h4 h4'
        simp only [Bool.or_eq_true, Bool.and_eq_true, beq_iff_eq] at h4 h4'
        rcases h4 with h | h | h <;> rcases h4' with h' | h' | h' <;> omega
      rw [e, hki]
      simp
    · rw [decide_eq_false e, Bool.and_false, Bool.and_false, decide_eq_false, Bool.and_false]
      intro h
      apply e
      cases hc : srcK l k with
      | none => rw [hc] at h; cases h
      | some t =>
        rw [hc] at h
        have h : (t : Int) = (s : Int) := Option.some.inj h
        exact congrArg some (by omega)
theorem rule_is (hn : n < l.length) (hS : ∀ j, j ≤ n → decide ((j : Int) ∈ S) = safeB l j) : badK S l n = ruleR l n := by
  unfold badK ruleR
  rw [List.getElem?_eq_getElem hn]
  simp only []
  rw [firstBad_chain]
  have s := sess_is (l[n]).se n (by omega) (fun j hj => hS j (by omega))
  have hask := ask_is hn hS
  have hex : (sessS S l (l[n]).se n).ex = ((cntR l 1 (l[n]).se n : Nat) : Int) + ((cntR l 2 (l[n]).se n : Nat) : Int) := by
    rw [s.ex, cnt_exch]; unfold cntR; omega
  have hpos : (sessS S l (l[n]).se n).ex > 0 ↔ ∃ y, (l.take n).find? (exchP (l[n]).se) = some y := by
    rw [s.ex, ← find_pos]; omega
  have e0 : ruleB S l n l[n] 0 = !(!((l[n]).ki == 7) && decide (0 < cntR l 6 (l[n]).se n)) := by
    simp only [ruleB, s.en, cnt_any]; unfold cntR; simp
  have e1 : ruleB S l n l[n] 1 = !(((l[n]).ki == 7) && aheadB l (l[n]).wh n) := by simp only [ruleB]; simp
  have e2 : ruleB S l n l[n] 2 = !(exchK l[n] && !((l[n]).nu == ((cntR l 1 (l[n]).se n : Nat) : Int) + ((cntR l 2 (l[n]).se n : Nat) : Int))) := by simp only [ruleB, hex]; simp
  have e3 : ruleB S l n l[n] 3 = !(exchK l[n] && !((l[n]).dn.ks == wantR l l[n] n)) := by
    simp only [ruleB]
    have : (if (sessS S l (l[n]).se n).ex > 0 then (sessS S l (l[n]).se n).id else (l[n]).dn.kh) = wantR l l[n] n := by
      unfold wantR
      rw [s.id]
      cases h : (l.take n).find? (exchP (l[n]).se) with
      | none => rw [if_neg fun hp => by obtain ⟨y, hy⟩ := hpos.1 hp; rw [h] at hy; cases hy]
      | some y => rw [if_pos (hpos.2 ⟨y, h⟩)]
    rw [this]; simp
  have e4 : ruleB S l n l[n] 4 = !(loginK l[n] && !earlyR l l[n] n) := by
    simp only [ruleB]
    have : (decide ((sessS S l (l[n]).se n).ex > 0) && ((l[n]).sid == (sessS S l (l[n]).se n).id)) = earlyR l l[n] n := by
      unfold earlyR
      rw [s.id]
      cases h : (l.take n).find? (exchP (l[n]).se) with
      | none => rw [decide_eq_false fun hp => by obtain ⟨y, hy⟩ := hpos.1 hp; rw [h] at hy; cases hy]; rfl
      | some y => rw [decide_eq_true (hpos.2 ⟨y, h⟩), Bool.true_and]; exact Bool.beq_comm
    rw [this]; simp
  have e5 : ruleB S l n l[n] 5 = !((((l[n]).ki == 4) || ((l[n]).ki == 5)) && decide (0 < cntR l (l[n]).ki (l[n]).se n)) := by
    simp only [ruleB, s.ac, s.le, cnt_any]
    unfold cntR
    by_cases h4 : (l[n]).ki = 4
    · rw [h4]; simp
    · by_cases h5 : (l[n]).ki = 5
      · rw [h5]; simp
      · rw [beq_eq_false_iff_ne.2 h4, beq_eq_false_iff_ne.2 h5]; rfl
  have tail : (if ruleB S l n l[n] 6 = false then nmR 6 else if ruleB S l n l[n] 7 = false then nmR 7 else if ruleB S l n l[n] 8 = false then nmR 8 else if ruleB S l n l[n] 9 = false then nmR 9 else ⟨#[]⟩) = srcsR l n := by
    unfold srcsR
    rw [List.getElem?_eq_getElem hn]
    simp only [ruleB, hask]
    cases ha : askedR l n with
    | false => simp
    | true =>
      cases hs : srcK l n with
      | none =>
        by_cases h2 : (l[n]).ki = 2
        · rw [h2]; simp
        · by_cases h4 : (l[n]).ki = 4
          · rw [h4]; simp
          · have h5 : (l[n]).ki = 5 := by
              unfold askedR at ha
              rw [List.getElem?_eq_getElem hn] at ha
              simp only [] at ha
              by_cases h5 : (l[n]).ki = 5
              · exact h5
              · rw [if_neg h5] at ha
                unfold safeB at ha
                rw [List.getElem?_eq_getElem hn] at ha
                simp only [Bool.and_eq_true, claimsP] at ha
                simp [h2, h4] at ha
            rw [h5]; simp
      | some t =>
        simp only [Option.isSome_some, Option.getD_some]
        have tw : usdK S l n (t : Int) = twiceR l (l[n]).ki t n := twice_is hn hS hs n (Nat.le_refl _)
        simp only [tw]
        cases twiceR l (l[n]).ki t n <;> simp
  rw [e0, e1, e2, e3, e4, e5, tail]
  simp only [Bool.not_eq_false']
end
end Go.Proofs.YtpkkeeblgbdfdaaDoor
