/- Off Ev1. -/
import Derived.Test.YtjphlhehhigpjaaEv0
import Derived.Shelf.Abstract
namespace Go.Proofs.Ytjphlhehhigpjaa
open Go.RowKit

/-- The taking of a key. -/
def takenP (who : Int) (e : EvV) : Bool := e.ki == 7 && e.wh == who
/-- A commit or an accept. -/
def claimsP (e : EvV) : Bool := e.ki == 2 || e.ki == 4
/-- Was a key taken ahead of a place? -/
def aheadB (l : List EvV) (who n : Int) : Bool := (l.take n.toNat).any (takenP who)
theorem kept_is (l : List EvV) (who n : Int) : (idxP (takenP who) l == -1 || decide (idxP (takenP who) l ≥ n)) = !aheadB l who n := by
  unfold aheadB
  rcases idxP_cases (takenP who) l with ⟨h, h0⟩ | ⟨k, hk, h, h1, h0⟩
  · have : (l.take n.toNat).any (takenP who) = false := List.any_eq_false.2 fun x hx => by rw [h0 x (List.mem_of_mem_take hx)]; simp
    rw [h, this]
    rfl
  · by_cases hn : n ≤ k
    · have : (l.take n.toNat).any (takenP who) = false := List.any_eq_false.2 fun x hx => by
        rw [h0 x ?_]; · simp
        obtain ⟨j, hj, rfl⟩ := List.mem_take_iff_getElem.1 hx
        exact List.mem_take_iff_getElem.2 ⟨j, by omega, rfl⟩
      rw [h, this, decide_eq_true (by omega)]
      simp
    · have : (l.take n.toNat).any (takenP who) = true := List.any_eq_true.2 ⟨l[k], List.mem_take_iff_getElem.2 ⟨k, by omega, rfl⟩, h1⟩
      rw [h, this, decide_eq_false (by omega)]
      simp
/-- Is an event safe? -/
def safeI (l : List EvV) (n : Int) : Bool := decide (n ≥ 0) && decide (n < l.length) && match l[n.toNat]? with
  | some e => claimsP e && !aheadB l e.wh n
  | none => false
def safeB (l : List EvV) (k : Nat) : Bool := match l[k]? with
  | some e => claimsP e && !aheadB l e.wh k
  | none => false
theorem safeI_nat {l : List EvV} {k : Nat} (hk : k < l.length) : safeI l k = safeB l k := by
  unfold safeI safeB
  rw [decide_eq_true (by omega), decide_eq_true (by omega), Int.toNat_natCast]
  rfl
end Go.Proofs.Ytjphlhehhigpjaa
