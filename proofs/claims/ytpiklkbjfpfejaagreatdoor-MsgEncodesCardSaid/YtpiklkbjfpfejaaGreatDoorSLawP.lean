/- The formats of a number have different lengths (the plain part). -/
import Derived.Test.YtpiklkbjfpfejaaGreatDoorFit
namespace Go.Proofs.YtpiklkbjfpfejaaGreatDoor
open Go.RowKit

theorem formsP_apart (n : Int) : ((formsP n).map (·.size)).Nodup := by
  have h : ∀ r ∈ tableP, (r.2.2.map (·.size)).Nodup := by decide
  rcases formsP_mem n with e | ⟨r, hr, e⟩
  · rw [e]; simp
  · rw [e]; exact h r hr
theorem apart_ne {l : List ByteArray} (h : (l.map (·.size)).Nodup) {k i : Nat} (hk : k < i) (hi : i < l.length) : ((((l[k]'(by omega)).size : Nat) : Int) == ((l[i].size : Nat) : Int)) = false := by
  rw [beq_eq_false_iff_ne]
  intro e
  have e' : (l[k]'(by omega)).size = l[i].size := by omega
  have := (List.getElem_inj (xs := l.map (fun x => x.size)) (i := k) (j := i) (h₀ := by simp; omega) (h₁ := by simpa using hi) h).1 (by simpa using e')
  omega
theorem fitP_self {l : List ByteArray} (h : (l.map (·.size)).Nodup) {i : Nat} (hi : i < l.length) : fitP l ((l[i].size : Nat) : Int) = (l[i], true) := by
  refine fitP_hit hi (fun x hx => ?_) (by simp)
  obtain ⟨k, hk, rfl⟩ := List.mem_iff_getElem.1 hx
  simp only [List.length_take] at hk
  rw [List.getElem_take]
  exact apart_ne h (by omega) hi
end Go.Proofs.YtpiklkbjfpfejaaGreatDoor
