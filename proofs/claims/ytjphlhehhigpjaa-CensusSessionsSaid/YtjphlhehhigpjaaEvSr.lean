/- Off Ev6a. -/
import Derived.Test.YtjphlhehhigpjaaEv5
import Derived.Shelf.Abstract
namespace Go.Proofs.Ytjphlhehhigpjaa
open Go.RowKit

theorem mem_safes {l : List EvV} {k : Nat} (hk : k < l.length) : decide ((k : Int) ∈ safesL l l.length) = safeB l k := by
  have h : (k : Int) ∈ safesL l l.length ↔ safeB l k = true := by
    unfold safesL safesN
    rw [List.mem_map]
    constructor
    · rintro ⟨n, hn, he⟩
      have : n = k := Int.ofNat.inj he
      subst this
      exact (List.mem_filter.1 hn).2
    · exact fun h => ⟨k, List.mem_filter.2 ⟨List.mem_range.2 hk, h⟩, rfl⟩
  cases hs : safeB l k with
  | true => exact decide_eq_true (h.2 hs)
  | false => exact decide_eq_false fun e => by rw [h.1 e] at hs; cases hs
theorem safes_rise (l : List EvV) (n : Nat) : (safesL l n).Pairwise (· < ·) := by
  unfold safesL safesN
  rw [List.pairwise_map]
  exact (List.Pairwise.filter _ List.pairwise_lt_range).imp fun h => by simpa using h
end Go.Proofs.Ytjphlhehhigpjaa
