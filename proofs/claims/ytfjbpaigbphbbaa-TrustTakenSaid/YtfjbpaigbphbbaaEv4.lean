/- Layer 31: TrustTaken. -/
import Derived.Test.YtfjbpaigbphbbaaEv3
namespace Go.Proofs.Ytfjbpaigbphbbaa
open Go.RowKit

set_option maxHeartbeats 4000000 in
set_option maxRecDepth 100000 in
theorem TrustTaken_any {w : World} {v : Value} {l : List EvV} (h : EventsAt w v l) (hl : l.length ≤ maxLen) (who : Int) :
    Calls Try.prog 4 #[v, .int .i64 who] w fun e w' => e = .returned (.bool true) ∧ Below w.heap.size w w' := by
  have HT := Lib.hid (takenAt_any h hl who)
  have HW : Hid (∀ W, Calls Try.prog 7 #[] W fun e w' => e = .returned (.bool true) ∧ Below W.heap.size W w') := fun W => awake31_any W
  have HA : Hid (∀ W n, Below w.heap.size w W → Calls Try.prog 15 #[v, .int .i64 who, .int .i64 n] W fun e w' => e = .returned (.bool (aheadB l who n)) ∧ w' = W) := fun W n hb => ahead_any (h.below hb) hl who n
  have HK : Hid (∀ W n, Below w.heap.size w W → Calls Try.prog 14 #[v, .int .i64 who, .int .i64 n] W fun e w' => e = .returned (.bool (!aheadB l who n)) ∧ Below W.heap.size W w') := fun W n hb => kept_any (h.below hb) hl who n
  have B0 := Lib.hid (Below.refl w.heap.size w)
  obtain ⟨ao, cap, rfl, hc⟩ := h
  unfold maxLen at hl
  by_cases h60 : 60 < l.length
  · have q : decide ((l.length : Int) > 60) = true := decide_eq_true (by omega)
    clear HT HA HK hc
    go_enter Try.func4, Try.ntmps4
    go_wp2_with (first
      | (go_at_call 7; (with_reducible refine (HW.out _).mono ?_); rintro e w1 ⟨rfl, b1⟩; have B1 := Lib.hid b1; clear b1))
    go_ret
    exact ⟨rfl, B1.out⟩
  have q : decide ((l.length : Int) > 60) = false := decide_eq_false (by omega)
  rcases idxP_cases (takenP who) l with ⟨hz, h0⟩ | ⟨k, hk, hz, h1, h0⟩
  · have hA := ahead_no (l := l) (who := who) (n := (l.length : Int)) (k := l.length) (.inl rfl) (by rwa [List.take_length])
    have HAl := Lib.hid (fun W hb => HA.out W (l.length : Int) hb)
    have HKl := Lib.hid (fun W hb => HK.out W (l.length : Int) hb)
    rw [hA] at HAl HKl
    rw [hz] at HT
    clear hz h0 hA HA HK hc
    go_enter Try.func4, Try.ntmps4
    go_wp2_with (first
      | (go_at_call 16; (with_reducible refine HT.out.mono ?_); rintro e w1 ⟨rfl, b1⟩; have B1 := Lib.hid b1; clear b1)
      | (go_at_call 7; (with_reducible refine (HW.out _).mono ?_); rintro e w2 ⟨rfl, b2⟩; have B2 := Lib.hid (B1.out.trans (b2.mono B1.out.size)); clear b2)
      | (go_at_call 15; (with_reducible refine (HAl.out _ B2.out).mono ?_); rintro e w3 ⟨rfl, hw⟩; have hw := hw.symm; subst hw)
      | (go_at_call 14; (with_reducible refine (HKl.out _ B2.out).mono ?_); rintro e w4 ⟨rfl, b4⟩; have B4 := Lib.hid (B2.out.trans (b4.mono B2.out.size)); clear b4))
    go_ret
    exact ⟨rfl, B4.out⟩
  · have hA := ahead_no (l := l) (who := who) (n := (k : Int)) (k := k) (.inr (by omega)) h0
    have hY := ahead_yes (n := (k : Int) + 1) hk (by omega) h1
    have HAl := Lib.hid (fun W hb => HA.out W (k : Int) hb)
    have HKl := Lib.hid (fun W hb => HK.out W (k : Int) hb)
    have HKm := Lib.hid (fun W hb => HK.out W ((k : Int) + 1) hb)
    rw [hA] at HAl HKl
    rw [hY] at HKm
    rw [hz] at HT
    have hp : (l[k]).ki = 7 ∧ (l[k]).wh = who := by
      unfold takenP at h1
      simpa using h1
    obtain ⟨b, off, rfl, hb, hcell⟩ := hc (by intro h; simp [h] at hk)
    have H0 : Hid (∀ W, Below w.heap.size w W → W.cell? ⟨b, off + k * 34, none⟩ = some (.int .i64 7)) := fun W hB => by
      rw [← hp.1]
      exact (hB.cell (p := ⟨b, off + k * 34, none⟩) hb).trans (hcell k _ (List.getElem?_eq_getElem hk) 0 _ (EvV.row_ki _))
    have H3 : Hid (∀ W, Below w.heap.size w W → W.cell? ⟨b, off + k * 34 + 3, none⟩ = some (.int .i64 who)) := fun W hB => by
      rw [← hp.2]
      exact (hB.cell (p := ⟨b, off + k * 34 + 3, none⟩) hb).trans (hcell k _ (List.getElem?_eq_getElem hk) 3 _ (EvV.row_wh _))
    have q1 : ((k : Int) == -1) = false := by rw [beq_eq_false_iff_ne]; omega
    have q2 : decide ((k : Int) ≥ 0) = true := decide_eq_true (by omega)
    have q3 : decide ((k : Int) < (l.length : Int)) = true := decide_eq_true (by omega)
    have q4 : (who == who) = true := beq_self_eq_true _
    clear hz h0 hA HA HK hY hp h1 hcell hc
    go_enter Try.func4, Try.ntmps4
    go_wp2_with (first
      | (go_at_call 16; (with_reducible refine HT.out.mono ?_); rintro e w1 ⟨rfl, b1⟩; have B1 := Lib.hid b1; clear b1)
      | (go_at_call 7; (with_reducible refine (HW.out _).mono ?_); rintro e w2 ⟨rfl, b2⟩; have B2 := Lib.hid (B1.out.trans (b2.mono B1.out.size)); clear b2; have c0 := H0.out w2 B2.out; have c3 := H3.out w2 B2.out)
      | (go_at_call 15; (with_reducible refine (HAl.out _ B2.out).mono ?_); rintro e w3 ⟨rfl, hw⟩; have hw := hw.symm; subst hw)
      | (go_at_call 14; (with_reducible refine (HKl.out _ B2.out).mono ?_); rintro e w4 ⟨rfl, b4⟩; have B4 := Lib.hid (B2.out.trans (b4.mono B2.out.size)); clear b4)
      | (go_at_call 14; (with_reducible refine (HKm.out _ B4.out).mono ?_); rintro e w5 ⟨rfl, b5⟩; have B5 := Lib.hid (B4.out.trans (b5.mono B4.out.size)); clear b5))
    go_ret
    exact ⟨rfl, B5.out⟩
end Go.Proofs.Ytfjbpaigbphbbaa
