/- Part 28 of what the statement wants. -/
import Derived.Test.YtpkkeeblgbdfdaaDoorPk03
import Derived.Test.YtpkkeeblgbdfdaaDoorPk22
namespace Go.Proofs.YtpkkeeblgbdfdaaDoor
open Go.RowKit

set_option maxHeartbeats 2000000 in
set_option maxRecDepth 100000 in
theorem rsafe_any {w : World} {v : Value} {l : List EvV} (h : EventsAt w v l) (hl : l.length ≤ maxLen) {k : Nat} (hk : k < l.length) :
    Calls Tryd.prog 45 #[v, .int .i64 (k : Int)] w fun e w' => e = .returned (.bool (safeB l k)) ∧ w' = w := by
  have HA := Lib.hid (ahead_any h hl (l[k]).wh k)
  obtain ⟨ao, cap, rfl, hc⟩ := h
  unfold maxLen at hl
  obtain ⟨b, off, rfl, hb, hcell⟩ := hc (by intro h; simp [h] at hk)
  have c0 : w.cell? ⟨b, off + k * 34, none⟩ = some (.int .i64 (l[k]).ki) := hcell k _ (List.getElem?_eq_getElem hk) 0 _ (EvV.row_ki _)
  have c3 := hcell k _ (List.getElem?_eq_getElem hk) 3 _ (EvV.row_wh _)
  have HZ : Hid (safeB l k = (((l[k]).ki == 2 || (l[k]).ki == 4) && !aheadB l (l[k]).wh k)) := by
    show safeB l k = _
    unfold safeB; rw [List.getElem?_eq_getElem hk]; rfl
  clear hcell hc
  generalize safeB l k = z at *
  generalize (l[k]).wh = who at *
  generalize (l[k]).ki = ki at *
  generalize aheadB l who k = q at *
  by_cases h2 : ki = 2
  · subst h2
    go_enter Tryd.func45, Tryd.ntmps45
    go_wp2_with (first
      | (go_at_call 11; (with_reducible refine HA.out.mono ?_); rintro e w1 ⟨rfl, hw⟩; have hw := hw.symm; subst hw))
    go_ret
    exact ⟨by rw [HZ.out]; rfl, rfl⟩
  · have q2 : (ki == 2) = false := by rw [beq_eq_false_iff_ne]; exact h2
    by_cases h4 : ki = 4
    · subst h4
      go_enter Tryd.func45, Tryd.ntmps45
      go_wp2_with (first
        | (go_at_call 11; (with_reducible refine HA.out.mono ?_); rintro e w1 ⟨rfl, hw⟩; have hw := hw.symm; subst hw))
      go_ret
      exact ⟨by rw [HZ.out]; rfl, rfl⟩
    · have q4 : (ki == 4) = false := by rw [beq_eq_false_iff_ne]; exact h4
      clear HA
      go_enter Tryd.func45, Tryd.ntmps45
      go_wp2_with fail
      go_ret
      exact ⟨by rw [HZ.out, q2, q4]; rfl, rfl⟩
end Go.Proofs.YtpkkeeblgbdfdaaDoor

namespace Go.Proofs.YtpkkeeblgbdfdaaDoor
open Go.RowKit

set_option maxHeartbeats 4000000 in
set_option maxRecDepth 100000 in
theorem r32first_any {w : World} {v : Value} {l : List EvV} (h : EventsAt w v l) (hl : l.length ≤ 1000) (s : Int) {n : Nat} (hn : n ≤ l.length) :
    Calls Tryd.prog 12 #[v, .int .i64 s, .int .i64 (n : Int)] w fun e w' => e = .returned (.int .i64 (idxP (exchP s) (l.take n))) ∧ w' = w := by
  obtain ⟨ao, cap, rfl, hc⟩ := h
  have HC := Lib.hid hc
  have HY : Hid (∀ k (hk : k < n), exchP s (l[k]'(by omega)) = true → (∀ y ∈ l.take k, exchP s y = false) → idxP (exchP s) (l.take n) = k) := fun k hk h1 h0 => idxP_hit (by rw [List.length_take]; omega) (by rw [List.getElem_take]; exact h1) (by rw [List.take_take, Nat.min_eq_left (by omega)]; exact h0)
  have HN : Hid ((∀ y ∈ l.take n, exchP s y = false) → idxP (exchP s) (l.take n) = -1) := idxP_miss
  clear hc
  generalize idxP (exchP s) (l.take n) = z at *
  go_enter Tryd.func12, Tryd.ntmps12
  go_wp2_with fail
  go_loopw [7] (fun i wr => ∃ k : Nat, k ≤ n ∧ i = .int .i64 k ∧ Hid (∀ y ∈ l.take k, exchP s y = false) ∧ wr = w) (fun i _ => n - (intOf i).toNat)
  case atStart => exact ⟨0, Nat.zero_le _, rfl, Lib.hid (by simp), rfl⟩
  case round =>
    obtain ⟨k, hk, rfl, HT, hwr⟩ := hrel
    have hw := hwr.symm
    subst hw
    by_cases hlt : k < n
    · have HLT := Lib.hid hlt
      have hkl : k < l.length := by omega
      have q0 : decide ((k : Int) < (n : Int)) = true := decide_eq_true (by omega)
      obtain ⟨b, off, rfl, hb, hcell⟩ := HC.out (by intro h; simp [h] at hkl)
      have c0 : w.cell? ⟨b, off + k * 34, none⟩ = some (.int .i64 (l[k]).ki) := hcell k _ (List.getElem?_eq_getElem hkl) 0 _ (EvV.row_ki _)
      have c1 := hcell k _ (List.getElem?_eq_getElem hkl) 1 _ (EvV.row_se _)
      have H1 : Hid (exchP s l[k] = true → z = k) := fun e => HY.out k hlt e HT.out
      have H0 : Hid (exchP s l[k] = false → ∀ y ∈ l.take (k + 1), exchP s y = false) := fun e => evTake hkl HT.out e
      have HP : Hid (exchP s l[k] = (((l[k]).se == s) && (((l[k]).ki == 1) || ((l[k]).ki == 2)))) := rfl
      clear hcell HC HY HN HT
      generalize exchP s l[k] = q at *
      generalize (l[k]).ki = ki at *
      generalize (l[k]).se = se at *
      by_cases hse : se = s
      case neg =>
        have q1 : (se == s) = false := by rw [beq_eq_false_iff_ne]; exact hse
        have HF := Lib.hid (H0.out (by rw [HP.out, q1]; rfl))
        clear H1 H0 HP hse
        go_wp2_with fail
        go_roundw
        case rel => exact ⟨k + 1, by have := HLT.out; omega, by go_num, HF, trivial⟩
        case measure => have := HLT.out; simp [intOf]; omega
      have q1 : (se == s) = true := by rw [hse]; exact beq_self_eq_true _
      by_cases h1 : ki = 1
      case pos =>
        subst h1
        have HF := Lib.hid (H1.out (by rw [HP.out, q1]; rfl))
        clear H1 H0 HP hse
        go_wp2_with fail
        go_ret
        exact ⟨by rw [HF.out]; rfl, rfl⟩
      have q3 : (ki == 1) = false := by rw [beq_eq_false_iff_ne]; exact h1
      by_cases h2 : ki = 2
      case pos =>
        subst h2
        have HF := Lib.hid (H1.out (by rw [HP.out, q1]; rfl))
        clear H1 H0 HP hse
        go_wp2_with fail
        go_ret
        exact ⟨by rw [HF.out]; rfl, rfl⟩
      have q4 : (ki == 2) = false := by rw [beq_eq_false_iff_ne]; exact h2
      have HF := Lib.hid (H0.out (by rw [HP.out, q1, q3, q4]; rfl))
      clear H1 H0 HP hse h1 h2
      go_wp2_with fail
      go_roundw
      case rel => exact ⟨k + 1, by have := HLT.out; omega, by go_num, HF, trivial⟩
      case measure => have := HLT.out; simp [intOf]; omega
    · have hkl : k = n := by omega
      subst hkl
      have HF := Lib.hid (HN.out HT.out)
      clear hlt HC HT HN HY
      go_wp2_with fail
      go_ret
      exact ⟨by rw [HF.out]; rfl, rfl⟩
set_option maxHeartbeats 4000000 in
set_option maxRecDepth 100000 in
theorem rasked_any {w : World} {v : Value} {l : List EvV} (h : EventsAt w v l) (hl : l.length ≤ 1000) {n : Nat} (hn : n < l.length) :
    Calls Tryd.prog 25 #[v, .int .i64 (n : Int)] w fun e w' => e = .returned (.bool (askedR l n)) ∧ w' = w := by
  have HSf : Hid (∀ k (hk : k < l.length), Calls Tryd.prog 45 #[v, .int .i64 (k : Int)] w fun e w' => e = .returned (.bool (safeB l k)) ∧ w' = w) := fun k hk => rsafe_any h (by unfold maxLen; omega) hk
  have HF1 := Lib.hid (r32first_any h hl (l[n]).se (n := n) (by omega))
  obtain ⟨ao, cap, rfl, hc⟩ := h
  obtain ⟨b, off, rfl, hb, hcell⟩ := hc (by intro h; simp [h] at hn)
  have c0 : w.cell? ⟨b, off + n * 34, none⟩ = some (.int .i64 (l[n]).ki) := hcell n _ (List.getElem?_eq_getElem hn) 0 _ (EvV.row_ki _)
  have c1 := hcell n _ (List.getElem?_eq_getElem hn) 1 _ (EvV.row_se _)
  have HA : askedR l n = if (l[n]).ki = 5 then (match (l.take n).findIdx? (exchP (l[n]).se) with
      | some i => (match l[i]? with
        | some y => y.ki == 2 && safeB l i
        | none => false)
      | none => false) else safeB l n := by
    unfold askedR
    rw [List.getElem?_eq_getElem hn]
    try rfl
  by_cases h5 : (l[n]).ki = 5
  case neg =>
    rw [if_neg h5] at HA
    have HA := Lib.hid HA
    have HS := Lib.hid (HSf.out n hn)
    have q5 : ((l[n]).ki == 5) = false := by rw [beq_eq_false_iff_ne]; exact h5
    clear HSf HF1 hc hcell h5
    generalize askedR l n = z at *
    generalize safeB l n = y at *
    generalize (l[n]).ki = ki at *
    generalize (l[n]).se = se at *
    go_enter Tryd.func25, Tryd.ntmps25
    go_wp2_with (first
      | (go_at_call 45; (with_reducible refine HS.out.mono ?_); rintro e w1 ⟨rfl, hw⟩; have hw := hw.symm; subst hw))
    go_ret
    exact ⟨by rw [HA.out]; rfl, rfl⟩
  rw [if_pos h5] at HA
  rw [h5] at c0
  cases hq : (l.take n).findIdx? (exchP (l[n]).se) with
  | none =>
    rw [hq] at HA
    have hz : idxP (exchP (l[n]).se) (l.take n) = -1 := by unfold idxP; rw [hq]
    rw [hz] at HF1
    have HA := Lib.hid HA
    clear HSf hc hcell h5 hq hz
    generalize askedR l n = z at *
    generalize (l[n]).se = se at *
    go_enter Tryd.func25, Tryd.ntmps25
    go_wp2_with (first
      | (go_at_call 12; (with_reducible refine HF1.out.mono ?_); rintro e w1 ⟨rfl, hw⟩; have hw := hw.symm; subst hw))
    go_ret
    exact ⟨by rw [HA.out]; rfl, rfl⟩
  | some i =>
    rw [hq] at HA
    have hz : idxP (exchP (l[n]).se) (l.take n) = (i : Int) := by unfold idxP; rw [hq]
    rw [hz] at HF1
    have hin : i < l.length := by
      have := (List.findIdx?_eq_some_iff_getElem.1 hq).1
      rw [List.length_take] at this
      omega
    simp only [List.getElem?_eq_getElem hin] at HA
    have HA := Lib.hid HA
    have HS := Lib.hid (HSf.out i hin)
    have d0 : w.cell? ⟨b, off + i * 34, none⟩ = some (.int .i64 (l[i]).ki) := hcell i _ (List.getElem?_eq_getElem hin) 0 _ (EvV.row_ki _)
    have qi : decide ((i : Int) ≥ 0) = true := decide_eq_true (by omega)
    clear HSf hc hcell h5 hq hz
    generalize askedR l n = z at *
    generalize safeB l i = y at *
    generalize (l[n]).se = se at *
    generalize (l[i]).ki = ki at *
    by_cases h2 : ki = 2
    · subst h2
      go_enter Tryd.func25, Tryd.ntmps25
      go_wp2_with (first
        | (go_at_call 12; (with_reducible refine HF1.out.mono ?_); rintro e w1 ⟨rfl, hw⟩; have hw := hw.symm; subst hw)
        | (go_at_call 45; (with_reducible refine HS.out.mono ?_); rintro e w2 ⟨rfl, hw⟩; have hw := hw.symm; subst hw))
      go_ret
      exact ⟨by rw [HA.out]; rfl, rfl⟩
    · have q2 : (ki == 2) = false := by rw [beq_eq_false_iff_ne]; exact h2
      clear HS h2
      go_enter Tryd.func25, Tryd.ntmps25
      go_wp2_with (first
        | (go_at_call 12; (with_reducible refine HF1.out.mono ?_); rintro e w1 ⟨rfl, hw⟩; have hw := hw.symm; subst hw))
      go_ret
      exact ⟨by rw [HA.out, q2]; rfl, rfl⟩
end Go.Proofs.YtpkkeeblgbdfdaaDoor
