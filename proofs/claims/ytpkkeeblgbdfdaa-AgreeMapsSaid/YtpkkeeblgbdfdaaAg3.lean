/- Layer 32: what is known of the past: is the next event safe. -/
import Derived.Test.YtpkkeeblgbdfdaaAg2
import Derived.Test.YtpkkeeblgbdfdaaEv5
import Derived.Test.YtpkkeeblgbdfdaaEvQ
import Derived.Test.YtpkkeeblgbdfdaaShelf
namespace Go.Proofs.Ytpkkeeblgbdfdaa
open Go.RowKit

set_option maxHeartbeats 2000000 in
set_option maxRecDepth 100000 in
theorem binSearch_any {w : World} {v : Value} {S : List Int} (h : IdsAt w v S) (hS : S.Pairwise (· < ·)) (hl : S.length ≤ 1000) (x : Int) : ∃ i, ∀ n, Calls Try.prog 37 #[v, .int .i64 x] (w.drewN n) fun e w' => e = .returned (.tuple #[.int .i64 i, .bool (decide (x ∈ S))]) ∧ ∃ m, w' = (w.drewN n).drewN m := by
  obtain ⟨ao, cap, rfl, hc⟩ := h
  by_cases hn : S = []
  · subst hn
    refine ⟨0, fun n => (Try.slices_BinarySearch_int_empty ao cap x (w.drewN n)).mono fun e w' ⟨h1, h2⟩ => ⟨h1, 0, by rw [h2]; rfl⟩⟩
  · obtain ⟨b, off, rfl, hb, hcell⟩ := hc hn
    have hin : (S.take S.length).contains x = decide (x ∈ S) := by
      rw [List.take_length]
      simp
    refine ⟨((S.take S.length).countP (· < x) : Nat), fun n => ?_⟩
    have h0 := Try.slices_BinarySearch_int b off S.length cap S x (w.drewN n) (Nat.le_refl _) (by omega) (fun j hj => by
      have := hcell j S[j] (List.getElem?_eq_getElem hj)
      rw [List.getD_eq_getElem?_getD, List.getElem?_eq_getElem hj]
      exact this) (by
      rw [List.take_length]
      exact hS.imp fun h => Int.le_of_lt h)
    rw [hin] at h0
    exact h0
set_option maxHeartbeats 2000000 in
set_option maxRecDepth 100000 in
theorem isSafe_any {w : World} {p : Nat} {k : Int} {v c2 c3 c4 c5 : Value} {S : List Int} (h : Holds w p 69 #[.int .i64 k, v, c2, c3, c4, c5]) (hi : IdsAt w v S) (hS : S.Pairwise (· < ·)) (hl : S.length ≤ 1000) :
    Calls Try.prog 36 #[.pointer (some ⟨p, 0, none⟩)] w fun e w' => e = .returned (.bool (decide (k ∈ S))) ∧ ∃ n, w' = w.drewN n := by
  obtain ⟨i, hB⟩ := binSearch_any hi hS hl k
  have HB := Lib.hid hB
  have c0 : w.cell? ⟨p, 0, none⟩ = some (.int .i64 k) := h.cell 0
  have c1 : w.cell? ⟨p, 1, none⟩ = some v := h.cell 1
  obtain ⟨ao, cap, rfl, _⟩ := hi
  clear hB h
  generalize decide (k ∈ S) = z at *
  generalize S.length = n at *
  go_enter Try.func36, Try.ntmps36
  go_upto_region 1 with fail
  go_quiet (first | (go_at_call 37; refine Calls.quiet_of (HB.out _)))
  go_wp2_with fail
  go_ret
  exact ⟨rfl, nq, rfl⟩
end Go.Proofs.Ytpkkeeblgbdfdaa
