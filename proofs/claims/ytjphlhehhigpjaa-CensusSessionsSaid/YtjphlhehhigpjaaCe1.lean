/- Layer 37: a census as numbers by place; how one is counted up. -/
import Derived.Test.YtjphlhehhigpjaaEv5
namespace Go.Proofs.Ytjphlhehhigpjaa
open Go.RowKit

/-- The place of a number among so many. -/
def plc (m : Nat) (v : Int) : Nat := if 0 ≤ v ∧ v < m then v.toNat else 0
theorem plc_lt {m : Nat} (hm : 0 < m) (v : Int) : plc m v < m := by unfold plc; split <;> omega
/-- Does an event count at a place? -/
def hitC (i : Nat) (e : EvV) : Bool :=
  if i < 8 then plc 8 e.ki == i else if i < 24 then (e.ki == 6) && (plc 16 e.nu + 8 == i) else if i < 28 then (e.ki == 2) && (plc 4 e.dn.me + 24 == i) else ((e.ki == 1) || (e.ki == 2)) && !(e.nu == 0)
/-- The cells of a census. -/
def cenRow (c : Nat → Int) : Array Value := #[.int .i64 (c 0), .int .i64 (c 1), .int .i64 (c 2), .int .i64 (c 3), .int .i64 (c 4), .int .i64 (c 5), .int .i64 (c 6), .int .i64 (c 7), .int .i64 (c 8), .int .i64 (c 9), .int .i64 (c 10), .int .i64 (c 11), .int .i64 (c 12), .int .i64 (c 13), .int .i64 (c 14), .int .i64 (c 15), .int .i64 (c 16), .int .i64 (c 17), .int .i64 (c 18), .int .i64 (c 19), .int .i64 (c 20), .int .i64 (c 21), .int .i64 (c 22), .int .i64 (c 23), .int .i64 (c 24), .int .i64 (c 25), .int .i64 (c 26), .int .i64 (c 27), .int .i64 (c 28), .int .i64 (c 29)]
theorem cenRow_get (c : Nat → Int) {i : Nat} (h : i < 30) : (cenRow c)[i]? = some (.int .i64 (c i)) := by
  have : cenRow c = ((List.range 30).map fun i => Value.int .i64 (c i)).toArray := rfl
  rw [this]
  simp [h]
theorem cenRow_size (c : Nat → Int) : (cenRow c).size = 30 := rfl
theorem cenRow_set (c : Nat → Int) {i : Nat} (h : i < 30) (x : Int) : (cenRow c).setIfInBounds i (.int .i64 x) = cenRow (fun j => if j = i then x else c j) := by
  apply Array.ext_getElem?
  intro j
  by_cases hj : j < 30
  · rw [cenRow_get _ hj, Array.getElem?_setIfInBounds]
    by_cases e : i = j
    · subst e
      rw [if_pos rfl, if_pos (by rw [cenRow_size]; omega), if_pos rfl]
    · rw [if_neg e, cenRow_get _ hj, if_neg (fun h => e h.symm)]
  · rw [Array.getElem?_eq_none (by rw [Array.size_setIfInBounds, cenRow_size]; omega), Array.getElem?_eq_none (by rw [cenRow_size]; omega)]
set_option maxHeartbeats 2000000 in
set_option maxRecDepth 100000 in
theorem count_any {w : World} {b off m : Nat} {t : TypeId} {R : Array Value} (h : Holds w b t R) (hm : 0 < m) (n x : Int) (hx : R[off + plc m n]? = some (.int .i64 x)) (h0 : 0 ≤ x) (h1 : x ≤ 1000) (hmm : m ≤ 1000) :
    Calls Try.prog 22 #[.slice (some ⟨b, off, none⟩) m m, .int .i64 n] w fun e w' => e = .returned (.tuple #[]) ∧ w' = w.setCell ⟨b, off + plc m n, none⟩ (.int .i64 (x + 1)) := by
  have hc := (h.cell (off + plc m n)).trans hx
  have hf := h.frozen (off + plc m n)
  clear h hx
  by_cases q0 : n < 0
  · have e : plc m n = 0 := by unfold plc; rw [if_neg (by omega)]
    rw [e, Nat.add_zero] at hc hf ⊢
    have d0 : decide (n < 0) = true := decide_eq_true q0
    have hm2 : (0 : Int) < (m : Int) := by omega
    go_enter Try.func22, Try.ntmps22
    go_wp2_with fail
    go_end0
    exact ⟨rfl, rfl⟩
  · have d0 : decide (n < 0) = false := decide_eq_false q0
    by_cases q1 : n ≥ (m : Int)
    · have e : plc m n = 0 := by unfold plc; rw [if_neg (by omega)]
      rw [e, Nat.add_zero] at hc hf ⊢
      have d1 : decide (n ≥ (m : Int)) = true := decide_eq_true q1
      have hm2 : (0 : Int) < (m : Int) := by omega
      go_enter Try.func22, Try.ntmps22
      go_wp2_with fail
      go_end0
      exact ⟨rfl, rfl⟩
    · obtain ⟨k, rfl⟩ : ∃ k : Nat, n = (k : Int) := ⟨n.toNat, by omega⟩
      have e : plc m (k : Int) = k := by unfold plc; rw [if_pos (by omega)]; rfl
      rw [e] at hc hf ⊢
      have hkm : (k : Int) < (m : Int) := by omega
      have d1 : decide ((k : Int) ≥ (m : Int)) = false := decide_eq_false q1
      go_enter Try.func22, Try.ntmps22
      go_wp2_with fail
      go_end0
      exact ⟨rfl, rfl⟩
end Go.Proofs.Ytjphlhehhigpjaa
