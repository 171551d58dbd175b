/- Strings compared. -/
import Derived.Test.YtambeipbpemlkaaDoorMem
namespace Go.Proofs.YtambeipbpemlkaaDoor
open Go.RowKit

theorem ba_beq (a b : ByteArray) : (a == b) = (a.data == b.data) := rfl
instance ba_law : LawfulBEq ByteArray where
  eq_of_beq := by
    intro a b h
    rw [ba_beq] at h
    cases a; cases b
    exact congrArg _ (eq_of_beq h)
  rfl := by
    intro a
    rw [ba_beq]
    exact beq_self_eq_true _

theorem ba_toList (a : ByteArray) : a.toList = a.data.toList := ByteArray.toList_eq a
/-- The model's test of two strings. -/
theorem same_yes {a b : ByteArray} (h : a = b) : (a.toList == b.toList) = true := by simp [h]
theorem same_no {a b : ByteArray} (h : a ≠ b) : (a.toList == b.toList) = false := by
  rw [beq_eq_false_iff_ne, ba_toList, ba_toList]
  intro e
  apply h
  cases a; cases b
  simpa using e
end Go.Proofs.YtambeipbpemlkaaDoor
