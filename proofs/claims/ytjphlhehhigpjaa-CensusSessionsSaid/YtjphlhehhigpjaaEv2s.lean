/- The document's Safe. -/
import Derived.Test.YtjphlhehhigpjaaEv2
namespace Go.Proofs.Ytjphlhehhigpjaa
open Go.RowKit

set_option maxHeartbeats 2000000 in
set_option maxRecDepth 100000 in
theorem rsafe_any {w : World} {v : Value} {l : List EvV} (h : EventsAt w v l) (hl : l.length ≤ maxLen) {k : Nat} (hk : k < l.length) :
    Calls Try.prog 24 #[v, .int .i64 (k : Int)] w fun e w' => e = .returned (.bool (safeB l k)) ∧ w' = w := by
  have HA := Lib.hid (ahead_any h hl (l[k]).wh k)
  obtain ⟨ao, cap, rfl, hc⟩ := h
  unfold maxLen at hl
  obtain ⟨b, off, rfl, hb, hcell⟩ := hc (by intro h; simp [h] at hk)
  have c0 : w.cell? ⟨b, off + k * 34, none⟩ = some (.int .i64 (l[k]).ki) := hcell k _ (List.getElem?_eq_getElem hk) 0 _ (EvV.row_ki _)
  have c3 := hcell k _ (List.getElem?_eq_getElem hk) 3 _ (EvV.row_wh _)
  have HZ : Hid (safeB l k = (((l[k]).ki == 2 || (l[k]).ki == 4) && !aheadB l (l[k]).wh k)) := by
    show safeB l k = _
    unfold safeB; rw [List.getElem?_eq_getElem hk]; rfl
  clear hcell hc
  generalize safeB l k = z at *
  generalize (l[k]).wh = who at *
  generalize (l[k]).ki = ki at *
  generalize aheadB l who k = q at *
  by_cases h2 : ki = 2
  · subst h2
    go_enter Try.func24, Try.ntmps24
    go_wp2_with (first
      | (go_at_call 34; (with_reducible refine HA.out.mono ?_); rintro e w1 ⟨rfl, hw⟩; have hw := hw.symm; subst hw))
    go_ret
    exact ⟨by rw [HZ.out]; rfl, rfl⟩
  · have q2 : (ki == 2) = false := by rw [beq_eq_false_iff_ne]; exact h2
    by_cases h4 : ki = 4
    · subst h4
      go_enter Try.func24, Try.ntmps24
      go_wp2_with (first
        | (go_at_call 34; (with_reducible refine HA.out.mono ?_); rintro e w1 ⟨rfl, hw⟩; have hw := hw.symm; subst hw))
      go_ret
      exact ⟨by rw [HZ.out]; rfl, rfl⟩
    · have q4 : (ki == 4) = false := by rw [beq_eq_false_iff_ne]; exact h4
      clear HA
      go_enter Try.func24, Try.ntmps24
      go_wp2_with fail
      go_ret
      exact ⟨by rw [HZ.out, q2, q4]; rfl, rfl⟩
end Go.Proofs.Ytjphlhehhigpjaa
