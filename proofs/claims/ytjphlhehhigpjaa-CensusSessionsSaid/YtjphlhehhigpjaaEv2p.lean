/- Who is ahead, plainly. -/
import Derived.Test.YtjphlhehhigpjaaEvP
import Derived.Deep.RegionHeld3
namespace Go.Proofs.Ytjphlhehhigpjaa
open Go.RowKit

theorem ahead_step {l : List EvV} {who : Int} {k : Nat} (hk : k < l.length) (h0 : ∀ x ∈ l.take k, takenP who x = false) (h1 : takenP who l[k] = false) : ∀ x ∈ l.take (k + 1), takenP who x = false := evTake hk h0 h1
theorem ahead_yes {l : List EvV} {who n : Int} {k : Nat} (hk : k < l.length) (hn : (k : Int) < n) (h1 : takenP who l[k] = true) : aheadB l who n = true :=
  List.any_eq_true.2 ⟨l[k], List.mem_take_iff_getElem.2 ⟨k, by omega, rfl⟩, h1⟩
theorem ahead_no {l : List EvV} {who n : Int} {k : Nat} (hk : k = l.length ∨ n ≤ k) (h0 : ∀ x ∈ l.take k, takenP who x = false) : aheadB l who n = false :=
  List.any_eq_false.2 fun x hx => by
    rw [h0 x ?_]; · simp
    obtain ⟨j, hj, rfl⟩ := List.mem_take_iff_getElem.1 hx
    exact List.mem_take_iff_getElem.2 ⟨j, by omega, rfl⟩
end Go.Proofs.Ytjphlhehhigpjaa
