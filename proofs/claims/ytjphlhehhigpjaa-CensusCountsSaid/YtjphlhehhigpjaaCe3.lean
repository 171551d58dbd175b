/- Layer 37: the document's counts. -/
import Derived.Test.YtjphlhehhigpjaaCe2
import Derived.Test.YtjphlhehhigpjaaEv2s
import Derived.Deep.DeepCutAuto
namespace Go.Proofs.Ytjphlhehhigpjaa
open Go.RowKit

/-- What an event tells of a kind of thing. -/
def vW (what : Int) (e : EvV) : Int := if what = 2 then e.dn.me else if what = 1 then e.nu else e.ki
def clamp (most v : Int) : Int := if v < 0 ∨ v > most then 0 else v
def cntP (kind what place most : Int) (e : EvV) : Bool := ((kind == 0) || (e.ki == kind)) && (clamp most (vW what e) == place)
theorem cntP_step {l : List EvV} {k : Nat} (hk : k < l.length) (P : EvV → Bool) : (((l.take (k + 1)).countP P : Nat) : Int) = (((l.take k).countP P : Nat) : Int) + (if P l[k] = true then 1 else 0) := by
  rw [List.take_succ_eq_append_getElem hk, List.countP_append, List.countP_cons, List.countP_nil]
  split <;> simp_all
theorem cntP_le {l : List EvV} (P : EvV → Bool) (k : Nat) : (l.take k).countP P ≤ l.length :=
  Nat.le_trans List.countP_le_length (List.length_take_le' _ _)
theorem clamp_plc (m : Nat) (hm : 0 < m) (v : Int) : clamp ((m : Int) - 1) v = ((plc m v : Nat) : Int) := by
  unfold plc clamp
  by_cases h : 0 ≤ v ∧ v < m
  · rw [if_pos h, if_neg (by omega)]; omega
  · rw [if_neg h, if_pos (by omega)]; rfl
set_option maxHeartbeats 8000000 in
set_option maxRecDepth 100000 in
theorem r37Count_any {w : World} {v : Value} {l : List EvV} (h : EventsAt w v l) (hl : l.length ≤ 900) (kind what place most : Int) :
    Calls Try.prog 9 #[v, .int .i64 kind, .int .i64 what, .int .i64 place, .int .i64 most] w fun e w' => e = .returned (.int .i64 ((l.countP (cntP kind what place most) : Nat) : Int)) ∧ w' = w := by
  obtain ⟨ao, cap, rfl, hc⟩ := h
  have HC := Lib.hid hc
  have HS : Hid (∀ k (hk : k < l.length), (((l.take (k + 1)).countP (cntP kind what place most) : Nat) : Int) = (((l.take k).countP (cntP kind what place most) : Nat) : Int) + (if (((kind == 0) || ((l[k]).ki == kind)) && (clamp most (vW what l[k]) == place)) = true then 1 else 0)) := fun k hk => cntP_step hk _
  have HL : Hid (∀ k, (l.take k).countP (cntP kind what place most) ≤ l.length) := fun k => cntP_le _ k
  have HT : Hid ((l.take l.length).countP (cntP kind what place most) = l.countP (cntP kind what place most)) := by show _ = _; rw [List.take_length]
  clear hc
  go_enter Try.func9, Try.ntmps9
  go_wp2_with fail
  go_loopw [11, 12] (fun c i wr => ∃ k : Nat, k ≤ l.length ∧ i = .int .i64 k ∧ c = .int .i64 (((l.take k).countP (cntP kind what place most) : Nat) : Int) ∧ wr = w) (fun _ i _ => l.length - (intOf i).toNat)
  case atStart => exact ⟨0, Nat.zero_le _, rfl, rfl, rfl⟩
  case round =>
    obtain ⟨k, hk, rfl, rfl, hwr⟩ := hrel
    have hw := hwr.symm
    subst hw
    have hcl := HL.out k
    by_cases hlt : k < l.length
    · have HLT := Lib.hid hlt
      have q0 : (k : Int) < (l.length : Int) := by omega
      obtain ⟨b, off, rfl, hb, hcell⟩ := HC.out (by intro h; simp [h] at hlt)
      have c0 : w.cell? ⟨b, off + k * 34, none⟩ = some (.int .i64 (l[k]).ki) := hcell k _ (List.getElem?_eq_getElem hlt) 0 _ (EvV.row_ki _)
      have c2 : w.cell? ⟨b, off + k * 34 + 2, none⟩ = some (.int .i64 (l[k]).nu) := hcell k _ (List.getElem?_eq_getElem hlt) 2 _ rfl
      have c20 : w.cell? ⟨b, off + k * 34 + 20, none⟩ = some (.int .i64 (l[k]).dn.me) := hcell k _ (List.getElem?_eq_getElem hlt) 20 _ rfl
      have HF := Lib.hid (HS.out k hlt)
      have HV : Hid (vW what l[k] = if what = 2 then (l[k]).dn.me else if what = 1 then (l[k]).nu else (l[k]).ki) := rfl
      clear hcell HC HS HL HT
      generalize vW what l[k] = vv at *
      generalize (l[k]).ki = ki at *
      generalize (l[k]).nu = nu at *
      generalize (l[k]).dn.me = me at *
      generalize hcn : (l.take k).countP (cntP kind what place most) = cn at *
      clear hcn
      have hcb : (cn : Int) ≤ 900 := by omega
      obtain ⟨v1, hv1⟩ : ∃ v1, Hid (v1 = if what = 1 then nu else ki) := ⟨_, Lib.hid rfl⟩
      rw [← hv1.out] at HV
      go_upto_if 26 with fail
      go_cut [13] (fun u wx => u = .int .i64 v1 ∧ wx = w)
      case first =>
        by_cases h1 : what = 1
        · subst h1
          clear HF HV
          go_wp2_with fail
          go_meet
          case rel => exact ⟨by rw [hv1.out]; simp, rfl⟩
        · have q1 : (what == 1) = false := beq_eq_false_iff_ne.2 h1
          clear HF HV
          go_wp2_with fail
          go_meet
          case rel => exact ⟨by rw [hv1.out, if_neg h1], rfl⟩
      case rest =>
      obtain ⟨rfl, hw2⟩ := hcut
      have hw2 := hw2.symm
      subst hw2
      clear hv1
      go_upto_if 33 with fail
      go_cut [13] (fun u wx => u = .int .i64 vv ∧ wx = w)
      case first =>
        clear HF
        by_cases h1 : what = 2
        · subst h1
          go_wp2_with fail
          go_meet
          case rel => exact ⟨by rw [HV.out]; simp, rfl⟩
        · have q1 : (what == 2) = false := beq_eq_false_iff_ne.2 h1
          go_wp2_with fail
          go_meet
          case rel => exact ⟨by rw [HV.out, if_neg h1], rfl⟩
      case rest =>
      obtain ⟨rfl, hw2⟩ := hcut
      have hw2 := hw2.symm
      subst hw2
      clear HV c2 c20
      go_upto_region 10 with fail
      go_cut [46] (fun u wx => u = .bool (decide (vv < 0) || decide (vv > most)) ∧ wx = w)
      case first =>
        clear HF
        by_cases h1 : vv < 0
        · have q1 : decide (vv < 0) = true := decide_eq_true h1
          go_wp2_with fail
          go_meet
          case rel => exact ⟨by first | rfl | (rw [q1]; rfl), rfl⟩
        · have q1 : decide (vv < 0) = false := decide_eq_false h1
          go_wp2_with fail
          go_meet
          case rel => exact ⟨by first | rfl | (rw [q1]; rfl) | simp, rfl⟩
      case rest =>
      obtain ⟨rfl, hw2⟩ := hcut
      have hw2 := hw2.symm
      subst hw2
      go_upto_if 46 with fail
      go_cut [13] (fun u wx => u = .int .i64 (clamp most vv) ∧ wx = w)
      case first =>
        clear HF
        by_cases h1 : vv < 0 ∨ vv > most
        · have e : clamp most vv = 0 := by unfold clamp; rw [if_pos h1]
          have q : (decide (vv < 0) || decide (vv > most)) = true := by simpa using h1
          rw [q]
          go_wp2_with fail
          go_meet
          case rel => exact ⟨by rw [e], rfl⟩
        · have e : clamp most vv = vv := by unfold clamp; rw [if_neg h1]
          have q : (decide (vv < 0) || decide (vv > most)) = false := by simpa using h1
          rw [q]
          go_wp2_with fail
          go_meet
          case rel => exact ⟨by rw [e], rfl⟩
      case rest =>
      obtain ⟨rfl, hw2⟩ := hcut
      have hw2 := hw2.symm
      subst hw2
      generalize clamp most vv = cv at *
      go_upto_region 12 with fail
      go_cut [62] (fun u wx => u = .bool (((kind == 0) || (ki == kind)) && (cv == place)) ∧ wx = w)
      case first =>
        clear HF
        by_cases h1 : kind = 0
        · subst h1
          go_wp2_with fail
          go_meet
          case rel => exact ⟨by first | rfl | simp, rfl⟩
        · have q1 : (kind == 0) = false := beq_eq_false_iff_ne.2 h1
          by_cases h2 : ki = kind
          · subst h2
            go_wp2_with fail
            go_meet
            case rel => exact ⟨by first | rfl | simp, rfl⟩
          · have q2 : (ki == kind) = false := beq_eq_false_iff_ne.2 h2
            go_wp2_with fail
            go_meet
            case rel => exact ⟨by first | rfl | simp [q1, q2], rfl⟩
      case rest =>
      obtain ⟨rfl, hw2⟩ := hcut
      have hw2 := hw2.symm
      subst hw2
      clear c0
      generalize (((kind == 0) || (ki == kind)) && (cv == place)) = hb at *
      cases hb with
      | true =>
        have HF2 : Hid ((((l.take (k + 1)).countP (cntP kind what place most) : Nat) : Int) = (cn : Int) + 1) := HF.out.trans (by simp)
        clear HF
        go_wp2_with fail
        go_roundw
        case rel => exact ⟨k + 1, by have := HLT.out; omega, by go_num, by rw [HF2.out] <;> go_num, trivial⟩
        case measure => have := HLT.out; simp [intOf]; omega
      | false =>
        have HF2 : Hid ((((l.take (k + 1)).countP (cntP kind what place most) : Nat) : Int) = (cn : Int)) := HF.out.trans (by simp)
        clear HF
        go_wp2_with fail
        go_roundw
        case rel => exact ⟨k + 1, by have := HLT.out; omega, by go_num, by rw [HF2.out], trivial⟩
        case measure => have := HLT.out; simp [intOf]; omega
    · have hkl : k = l.length := by omega
      subst hkl
      have HT2 := HT.out
      clear HC HS HL HT
      rw [HT2]
      clear HT2
      go_wp2_with fail
      go_ret
      exact ⟨rfl, rfl⟩
set_option maxHeartbeats 4000000 in
set_option maxRecDepth 100000 in
theorem r37Safe_any {w : World} {v : Value} {l : List EvV} (h : EventsAt w v l) (hl : l.length ≤ 900) :
    Calls Try.prog 11 #[v] w fun e w' => e = .returned (.int .i64 (((safesL l l.length).length : Nat) : Int)) ∧ w' = w := by
  have HSf : Hid (∀ k (hk : k < l.length), Calls Try.prog 24 #[v, .int .i64 (k : Int)] w fun e w' => e = .returned (.bool (safeB l k)) ∧ w' = w) := fun k hk => rsafe_any h (by unfold maxLen; omega) hk
  have HN : Hid (∀ k, (safesL l (k + 1)).length = (safesL l k).length + (if safeB l k = true then 1 else 0)) := fun k => by
    cases e : safeB l k with
    | true => rw [safes_yes e, List.length_append]; rfl
    | false => rw [safes_no e]; rfl
  have HL : Hid (∀ k, (safesL l k).length ≤ k) := fun k => safes_len l k
  have H0 : Hid (safesL l 0 = []) := rfl
  obtain ⟨ao, cap, rfl, _⟩ := h
  go_enter Try.func11, Try.ntmps11
  go_wp2_with fail
  go_loopw [3, 4] (fun c i wr => ∃ k : Nat, k ≤ l.length ∧ i = .int .i64 k ∧ c = .int .i64 (((safesL l k).length : Nat) : Int) ∧ wr = w) (fun _ i _ => l.length - (intOf i).toNat)
  case atStart => exact ⟨0, Nat.zero_le _, rfl, by rw [H0.out]; rfl, rfl⟩
  case round =>
    obtain ⟨k, hk, rfl, rfl, hwr⟩ := hrel
    have hw := hwr.symm
    subst hw
    have hcl := HL.out k
    by_cases hlt : k < l.length
    · have HLT := Lib.hid hlt
      have q0 : (k : Int) < (l.length : Int) := by omega
      have HSk := Lib.hid (HSf.out k hlt)
      have HF := Lib.hid (HN.out k)
      clear HSf HN HL H0
      generalize hcn : (safesL l k).length = cn at *
      clear hcn
      have hcb : (cn : Int) ≤ 900 := by omega
      cases hb : safeB l k with
      | true =>
        rw [hb] at HSk HF
        have HF2 : Hid ((((safesL l (k + 1)).length : Nat) : Int) = (cn : Int) + 1) := by show _ = _; rw [HF.out]; simp
        clear HF hb
        go_wp2_with (first | (go_at_call 24; (with_reducible refine HSk.out.mono ?_); rintro e w1 ⟨rfl, hw⟩; have hw := hw.symm; subst hw))
        go_roundw
        case rel => exact ⟨k + 1, by have := HLT.out; omega, by go_num, by rw [HF2.out] <;> go_num, trivial⟩
        case measure => have := HLT.out; simp [intOf]; omega
      | false =>
        rw [hb] at HSk HF
        have HF2 : Hid ((((safesL l (k + 1)).length : Nat) : Int) = (cn : Int)) := by show _ = _; rw [HF.out]; simp
        clear HF hb
        go_wp2_with (first | (go_at_call 24; (with_reducible refine HSk.out.mono ?_); rintro e w1 ⟨rfl, hw⟩; have hw := hw.symm; subst hw))
        go_roundw
        case rel => exact ⟨k + 1, by have := HLT.out; omega, by go_num, by rw [HF2.out], trivial⟩
        case measure => have := HLT.out; simp [intOf]; omega
    · have hkl : k = l.length := by omega
      subst hkl
      clear hlt HSf HN HL H0
      go_wp2_with fail
      go_ret
      exact ⟨rfl, rfl⟩
set_option maxHeartbeats 4000000 in
set_option maxRecDepth 100000 in
theorem r37Later_any {w : World} {v : Value} {l : List EvV} (h : EventsAt w v l) (hl : l.length ≤ 900) :
    Calls Try.prog 10 #[v] w fun e w' => e = .returned (.int .i64 ((l.countP (hitC 28) : Nat) : Int)) ∧ w' = w := by
  obtain ⟨ao, cap, rfl, hc⟩ := h
  have HC := Lib.hid hc
  have HS : Hid (∀ k (hk : k < l.length), (((l.take (k + 1)).countP (hitC 28) : Nat) : Int) = (((l.take k).countP (hitC 28) : Nat) : Int) + (if ((((l[k]).ki == 1) || ((l[k]).ki == 2)) && !((l[k]).nu == 0)) = true then 1 else 0)) := fun k hk => cntP_step hk _
  have HL : Hid (∀ k, (l.take k).countP (hitC 28) ≤ l.length) := fun k => cntP_le _ k
  have HT : Hid ((l.take l.length).countP (hitC 28) = l.countP (hitC 28)) := by show _ = _; rw [List.take_length]
  clear hc
  go_enter Try.func10, Try.ntmps10
  go_wp2_with fail
  go_loopw [3, 4] (fun c i wr => ∃ k : Nat, k ≤ l.length ∧ i = .int .i64 k ∧ c = .int .i64 (((l.take k).countP (hitC 28) : Nat) : Int) ∧ wr = w) (fun _ i _ => l.length - (intOf i).toNat)
  case atStart => exact ⟨0, Nat.zero_le _, rfl, rfl, rfl⟩
  case round =>
    obtain ⟨k, hk, rfl, rfl, hwr⟩ := hrel
    have hw := hwr.symm
    subst hw
    have hcl := HL.out k
    by_cases hlt : k < l.length
    · have HLT := Lib.hid hlt
      have q0 : (k : Int) < (l.length : Int) := by omega
      obtain ⟨b, off, rfl, hb, hcell⟩ := HC.out (by intro h; simp [h] at hlt)
      have c0 : w.cell? ⟨b, off + k * 34, none⟩ = some (.int .i64 (l[k]).ki) := hcell k _ (List.getElem?_eq_getElem hlt) 0 _ (EvV.row_ki _)
      have c2 : w.cell? ⟨b, off + k * 34 + 2, none⟩ = some (.int .i64 (l[k]).nu) := hcell k _ (List.getElem?_eq_getElem hlt) 2 _ rfl
      have HF := Lib.hid (HS.out k hlt)
      clear hcell HC HS HL HT
      generalize (l[k]).ki = ki at *
      generalize (l[k]).nu = nu at *
      generalize hcn : (l.take k).countP (hitC 28) = cn at *
      clear hcn
      have hcb : (cn : Int) ≤ 900 := by omega
      go_upto_region 5 with fail
      go_cut [32] (fun u wx => u = .bool (((ki == 1) || (ki == 2)) && !(nu == 0)) ∧ wx = w)
      case first =>
        clear HF
        by_cases h1 : ki = 1
        · subst h1
          go_wp2_with fail
          go_meet
          case rel => exact ⟨by first | rfl | simp [bne], rfl⟩
        · have q1 : (ki == 1) = false := beq_eq_false_iff_ne.2 h1
          by_cases h2 : ki = 2
          · subst h2
            go_wp2_with fail
            go_meet
            case rel => exact ⟨by first | rfl | simp [bne], rfl⟩
          · have q2 : (ki == 2) = false := beq_eq_false_iff_ne.2 h2
            go_wp2_with fail
            go_meet
            case rel => exact ⟨by first | rfl | simp [q1, q2], rfl⟩
      case rest =>
      obtain ⟨rfl, hw2⟩ := hcut
      have hw2 := hw2.symm
      subst hw2
      clear c0 c2
      generalize (((ki == 1) || (ki == 2)) && !(nu == 0)) = hb at *
      cases hb with
      | true =>
        have HF2 : Hid ((((l.take (k + 1)).countP (hitC 28) : Nat) : Int) = (cn : Int) + 1) := HF.out.trans (by simp)
        clear HF
        go_wp2_with fail
        go_roundw
        case rel => exact ⟨k + 1, by have := HLT.out; omega, by go_num, by rw [HF2.out] <;> go_num, trivial⟩
        case measure => have := HLT.out; simp [intOf]; omega
      | false =>
        have HF2 : Hid ((((l.take (k + 1)).countP (hitC 28) : Nat) : Int) = (cn : Int)) := HF.out.trans (by simp)
        clear HF
        go_wp2_with fail
        go_roundw
        case rel => exact ⟨k + 1, by have := HLT.out; omega, by go_num, by rw [HF2.out], trivial⟩
        case measure => have := HLT.out; simp [intOf]; omega
    · have hkl : k = l.length := by omega
      subst hkl
      have HT2 := HT.out
      clear HC HS HL HT
      rw [HT2]
      clear HT2
      go_wp2_with fail
      go_ret
      exact ⟨rfl, rfl⟩
end Go.Proofs.Ytjphlhehhigpjaa
