/- Where a past's events come from, by place. -/
import Derived.Test.YtpkkeeblgbdfdaaAgE
namespace Go.Proofs.Ytpkkeeblgbdfdaa
open Go.RowKit Go.Maps Go.WideMaps

/-- Where an event's source is, by place. -/
def srcI (l : List EvV) (n : Int) : Option Nat := if existsB l n then srcK l n.toNat else none
def askI (l : List EvV) (n : Int) : Bool := existsB l n && askK (SB l n.toNat) l n.toNat
theorem existsB_nat {l : List EvV} {n : Int} (h : existsB l n = true) : ∃ k : Nat, n = (k : Int) ∧ k < l.length := by
  simp only [existsB, Bool.and_eq_true, decide_eq_true_eq] at h
  exact ⟨n.toNat, by omega, by omega⟩
theorem PastAt.source {w0 w : World} {v : Value} {S : List Int} {l : List EvV} {k : Nat} (h : PastAt w0 w v S l k) {x : EvV} (hx : l[k]? = some x) (ho : ∀ u ∈ x.row.toList, CellOk u) :
    Calls Try.prog 13 #[.pointer (some ⟨w0.heap.size + 4, 0, none⟩), .agg x.row] w fun e w' => e = .returned (.tuple #[.int .i64 (((srcK l k).getD 0 : Nat) : Int), .bool (srcK l k).isSome]) ∧ Below w.heap.size w w' := by
  obtain ⟨n2, n3, n4, n5, f2, f3, f4, f5, hm, _, _, _, _, _, _, o4, _⟩ := h
  have h1 := source_any hm.box hm.first o4 x ho
  have e : srcK l k = sourceO (fun m => fstM l m k) x := by unfold srcK; rw [hx]
  rw [e]
  exact h1
theorem PastAt.asked {w0 w : World} {v : Value} {S : List Int} {l : List EvV} {k : Nat} (h : PastAt w0 w v S l k) (hi : IdsAt w0 v S) (hS : S.Pairwise (· < ·)) (hl : S.length ≤ 1000) {x : EvV} (hx : l[k]? = some x) (ho : ∀ u ∈ x.row.toList, CellOk u) :
    Calls Try.prog 33 #[.pointer (some ⟨w0.heap.size + 4, 0, none⟩), .agg x.row] w fun e w' => e = .returned (.bool (askK S l k)) ∧ Below w.heap.size w w' := by
  obtain ⟨n2, n3, n4, n5, f2, f3, f4, f5, hm, _, _, _, _, o2, _⟩ := h
  have h1 := asked_any hm.box hm.sess o2 (hi.keep hm.below.size fun _ _ _ _ _ hlt => hm.below.cell hlt) hS hl x ho
  have e : askK S l k = askedV S (fun z => sessS S l z k) k x := by unfold askK; rw [hx]
  rw [e]
  exact h1
end Go.Proofs.Ytpkkeeblgbdfdaa
