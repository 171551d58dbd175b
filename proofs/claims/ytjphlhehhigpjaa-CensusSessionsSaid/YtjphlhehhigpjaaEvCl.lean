/- Off Ev1. -/
import Derived.Test.YtjphlhehhigpjaaEvP
import Derived.Shelf.Abstract
namespace Go.Proofs.Ytjphlhehhigpjaa
open Go.RowKit

set_option maxHeartbeats 1000000 in
set_option maxRecDepth 100000 in
theorem claims_any (x : EvV) (w : World) : Calls Try.prog 33 #[.agg x.row] w fun e w' => e = .returned (.bool (claimsP x)) ∧ Below w.heap.size w w' := by
  have HS : Hid (x.row.size = 34) := x.row_size
  have g0 := x.row_ki
  have HT : Hid (claimsP x = (x.ki == 2 || x.ki == 4)) := rfl
  obtain ⟨R, hR⟩ : ∃ R, x.row = R := ⟨_, rfl⟩
  rw [hR] at HS g0 ⊢
  clear hR
  have c0 := ((cell_of_row _ w.heap.size 0 R 46 (0, 0) (heap_alloc_new w (.cells R 46))).trans g0)
  generalize claimsP x = z at *
  generalize x.ki = ki at *
  clear g0
  have BB : Hid (Below w.heap.size w (w.alloc (.cells R 46))) := Lib.hid ((Below.refl _ w).alloc (Nat.le_refl _) _)
  by_cases h2 : ki = 2
  · subst h2
    go_enter Try.func33, Try.ntmps33
    go_wp2_with fail
    go_ret
    exact ⟨by rw [HT.out]; rfl, BB.out⟩
  · have q : (ki == 2) = false := by rw [beq_eq_false_iff_ne]; exact h2
    go_enter Try.func33, Try.ntmps33
    go_wp2_with fail
    go_ret
    exact ⟨by rw [HT.out, q]; rfl, BB.out⟩
end Go.Proofs.Ytjphlhehhigpjaa
