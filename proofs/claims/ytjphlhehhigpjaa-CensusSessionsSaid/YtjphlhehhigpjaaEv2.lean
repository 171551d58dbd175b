/- Layer 31: the document's Ahead and Safe; the page's example. -/
import Derived.Test.YtjphlhehhigpjaaEv2p
import Derived.Deep.RegionHeld3
namespace Go.Proofs.Ytjphlhehhigpjaa
open Go.RowKit

set_option maxHeartbeats 2000000 in
set_option maxRecDepth 100000 in
theorem ahead_any {w : World} {v : Value} {l : List EvV} (h : EventsAt w v l) (hl : l.length ≤ maxLen) (who n : Int) :
    Calls Try.prog 34 #[v, .int .i64 who, .int .i64 n] w fun e w' => e = .returned (.bool (aheadB l who n)) ∧ w' = w := by
  obtain ⟨ao, cap, rfl, hc⟩ := h
  unfold maxLen at hl
  have HC := Lib.hid hc
  have HY : Hid (∀ k (hk : k < l.length), (k : Int) < n → takenP who l[k] = true → aheadB l who n = true) := fun k hk h1 h2 => ahead_yes hk h1 h2
  have HN : Hid (∀ k, (k = l.length ∨ n ≤ (k : Int)) → (∀ x ∈ l.take k, takenP who x = false) → aheadB l who n = false) := fun k hk h => ahead_no hk h
  clear hc
  generalize aheadB l who n = z at *
  go_enter Try.func34, Try.ntmps34
  go_wp2_with fail
  go_loopw [7] (fun i wr => ∃ k : Nat, k ≤ l.length ∧ i = .int .i64 k ∧ Hid (∀ x ∈ l.take k, takenP who x = false) ∧ wr = w) (fun i _ => l.length - (intOf i).toNat)
  case atStart => exact ⟨0, Nat.zero_le _, rfl, Lib.hid (by simp), rfl⟩
  case round =>
    obtain ⟨k, hk, rfl, HT, hwr⟩ := hrel
    have hw := hwr.symm
    subst hw
    by_cases hlt : k < l.length
    · have q0 : decide ((k : Int) < (l.length : Int)) = true := decide_eq_true (by omega)
      by_cases hn : (k : Int) < n
      · have q1 : decide ((k : Int) < n) = true := decide_eq_true hn
        obtain ⟨b, off, rfl, hb, hcell⟩ := HC.out (by intro h; simp [h] at hlt)
        have c0 : w.cell? ⟨b, off + k * 34, none⟩ = some (.int .i64 (l[k]).ki) := hcell k _ (List.getElem?_eq_getElem hlt) 0 _ (EvV.row_ki _)
        have c3 := hcell k _ (List.getElem?_eq_getElem hlt) 3 _ (EvV.row_wh _)
        have H1 : Hid (takenP who l[k] = true → z = true) := fun e => HY.out k hlt hn e
        have H0 : Hid (takenP who l[k] = false → ∀ y ∈ l.take (k + 1), takenP who y = false) := fun e => evTake hlt HT.out e
        have HP : Hid (takenP who l[k] = ((l[k]).ki == 7 && (l[k]).wh == who)) := rfl
        clear hcell HC HY HN
        generalize takenP who l[k] = q at *
        generalize (l[k]).ki = ki at *
        generalize (l[k]).wh = wh at *
        by_cases h7 : ki = 7
        · have HQ : Hid (q = (wh == who)) := by show q = (wh == who); rw [HP.out, h7]; rfl
          subst h7
          clear HP
          by_cases hw : wh = who
          · subst hw
            have q2 : (wh == wh) = true := beq_self_eq_true _
            have HF := Lib.hid (H1.out (by rw [HQ.out]; exact q2))
            clear H1 H0 HQ
            go_wp2_with fail
            go_ret
            exact ⟨by rw [HF.out]; rfl, rfl⟩
          · have q2 : (wh == who) = false := by rw [beq_eq_false_iff_ne]; exact hw
            have HF := Lib.hid (H0.out (by rw [HQ.out]; exact q2))
            clear H1 H0 HQ hw
            go_wp2_with fail
            go_roundw
            case rel => exact ⟨k + 1, by omega, by go_num, HF, trivial⟩
            case measure => simp [intOf]; omega
        · have q3 : (ki == 7) = false := by rw [beq_eq_false_iff_ne]; exact h7
          have HF := Lib.hid (H0.out (by rw [HP.out, q3]; rfl))
          clear H1 H0 HP h7
          go_wp2_with fail
          go_roundw
          case rel => exact ⟨k + 1, by omega, by go_num, HF, trivial⟩
          case measure => simp [intOf]; omega
      · have q1 : decide ((k : Int) < n) = false := decide_eq_false hn
        have HF := Lib.hid (HN.out k (.inr (by omega)) HT.out)
        clear HC HT HN HY
        go_wp2_with fail
        go_ret
        exact ⟨by rw [HF.out]; rfl, rfl⟩
    · have q0 : decide ((k : Int) < (l.length : Int)) = false := decide_eq_false (by omega)
      have HF := Lib.hid (HN.out k (.inl (by omega)) HT.out)
      clear HC HT HN HY
      go_wp2_with fail
      go_ret
      exact ⟨by rw [HF.out]; rfl, rfl⟩
end Go.Proofs.Ytjphlhehhigpjaa
