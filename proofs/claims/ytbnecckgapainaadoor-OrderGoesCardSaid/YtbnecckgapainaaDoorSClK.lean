/- Known and Class, by the program. -/
import Derived.Test.YtbnecckgapainaaDoorFitP
namespace Go.Proofs.YtbnecckgapainaaDoor
open Go.RowKit


set_option maxRecDepth 100000 in
theorem known_any (w : World) (n : Int) : Calls Tryd.prog 49 #[.int .i64 n] w fun e w' => e = .returned (.bool (decide ((formsP n).length > 0))) ∧ Below w.heap.size w w' := by
  have hF : Calls Tryd.prog 55 #[.int .i64 n] w fun e w' => ∃ ao cap, e = .returned (.slice ao (formsP n).length cap) ∧ Below w.heap.size w w' :=
    (forms_any w n).mono fun e w' ⟨v, he, ⟨ao, cap, hv, hc⟩, hb⟩ => ⟨ao, cap, by rw [he, hv], hb⟩
  generalize formsP n = l at *
  go_enter Tryd.func49, Tryd.ntmps49
  go_wp2_with (go_at_call 55; with_reducible refine hF.mono ?_; rintro e w1 ⟨ao, cap, rfl, hbel⟩)
  go_ret
  exact ⟨by simp, hbel⟩

def classP (n : Int) : Int := if n < 1 ∨ n > 255 then 0 else if n < 20 then 1 else if n < 30 then 2 else if n < 50 then 3 else if n < 80 then 4 else 5

set_option maxHeartbeats 2000000 in
set_option maxRecDepth 100000 in
theorem sClass_any (w : World) (n : Int) : Calls Tryd.prog 24 #[.int .i64 n] w fun e w' => e = .returned (.int .i64 (classP n)) ∧ w' = w := by
  by_cases h0 : n < 1
  · have q0 : decide (n < 1) = true := decide_eq_true h0
    have hc : Hid (classP n = 0) := by
      show _ = _
      unfold classP
      split <;> (repeat' split) <;> omega
    go_enter Tryd.func24, Tryd.ntmps24
    go_wp2_with fail
    go_ret
    exact ⟨by rw [hc.out]; rfl, rfl⟩
  have q0 : decide (n < 1) = false := decide_eq_false h0
  by_cases h1 : n > 255
  · have q1 : decide (n > 255) = true := decide_eq_true h1
    have hc : Hid (classP n = 0) := by
      show _ = _
      unfold classP
      split <;> (repeat' split) <;> omega
    go_enter Tryd.func24, Tryd.ntmps24
    go_wp2_with fail
    go_ret
    exact ⟨by rw [hc.out]; rfl, rfl⟩
  have q1 : decide (n > 255) = false := decide_eq_false h1
  by_cases h2 : n < 20
  · have q2 : decide (n < 20) = true := decide_eq_true h2
    have hc : Hid (classP n = 1) := by
      show _ = _
      unfold classP
      split <;> (repeat' split) <;> omega
    go_enter Tryd.func24, Tryd.ntmps24
    go_wp2_with fail
    go_ret
    exact ⟨by rw [hc.out]; rfl, rfl⟩
  have q2 : decide (n < 20) = false := decide_eq_false h2
  by_cases h3 : n < 30
  · have q3 : decide (n < 30) = true := decide_eq_true h3
    have hc : Hid (classP n = 2) := by
      show _ = _
      unfold classP
      split <;> (repeat' split) <;> omega
    go_enter Tryd.func24, Tryd.ntmps24
    go_wp2_with fail
    go_ret
    exact ⟨by rw [hc.out]; rfl, rfl⟩
  have q3 : decide (n < 30) = false := decide_eq_false h3
  by_cases h4 : n < 50
  · have q4 : decide (n < 50) = true := decide_eq_true h4
    have hc : Hid (classP n = 3) := by
      show _ = _
      unfold classP
      split <;> (repeat' split) <;> omega
    go_enter Tryd.func24, Tryd.ntmps24
    go_wp2_with fail
    go_ret
    exact ⟨by rw [hc.out]; rfl, rfl⟩
  have q4 : decide (n < 50) = false := decide_eq_false h4
  by_cases h5 : n < 80
  · have q5 : decide (n < 80) = true := decide_eq_true h5
    have hc : Hid (classP n = 4) := by
      show _ = _
      unfold classP
      split <;> (repeat' split) <;> omega
    go_enter Tryd.func24, Tryd.ntmps24
    go_wp2_with fail
    go_ret
    exact ⟨by rw [hc.out]; rfl, rfl⟩
  have q5 : decide (n < 80) = false := decide_eq_false h5
  have hc : Hid (classP n = 5) := by
    show _ = _
    unfold classP
    split <;> (repeat' split) <;> omega
  go_enter Tryd.func24, Tryd.ntmps24
  go_wp2_with fail
  go_ret
  exact ⟨by rw [hc.out]; rfl, rfl⟩
end Go.Proofs.YtbnecckgapainaaDoor
