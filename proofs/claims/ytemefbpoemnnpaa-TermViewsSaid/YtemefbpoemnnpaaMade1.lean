/- Terms that were made: Pick, letter. -/
import Derived.Test.YtemefbpoemnnpaaRefs12
namespace Go.Proofs.Ytemefbpoemnnpaa
open Go.RowKit

def pickP (ids : List Int) (texts : List (List UInt8)) (i : Int) : Int × List UInt8 := if 0 ≤ i ∧ i < ids.length then (ids.getD i.toNat (-1), texts.getD i.toNat []) else (-1, [])
def letterL (s : List UInt8) : UInt8 := s.headD 0

set_option maxRecDepth 100000 in
theorem Pick_any {w : World} {vi vt : Value} {ids : List Int} {texts : List (List UInt8)} (hI : IdsAt w vi ids) (hT : TextsAt w vt (texts.map bs)) (hl : texts.length = ids.length) (hn : ids.length ≤ 1000000) (i : Int) :
    Calls Try.prog 49 #[.agg #[vi, vt], .int .i64 i] w fun e w' => e = .returned (.tuple #[.int .i64 (pickP ids texts i).1, .string (bs (pickP ids texts i).2)]) ∧ Below w.heap.size w w' := by
  obtain ⟨ai, ci, rfl, hIc⟩ := hI
  obtain ⟨at', ct, rfl, hTc⟩ := hT
  rw [List.length_map, hl]
  by_cases h0 : 0 ≤ i
  · by_cases h1 : i < ids.length
    · obtain ⟨k, rfl⟩ : ∃ k : Nat, i = k := ⟨i.toNat, by omega⟩
      have hk : k < ids.length := by omega
      have hkt : k < texts.length := by omega
      have HE : Hid (pickP ids texts (k : Int) = (ids[k], texts[k])) := by
        show _ = _
        unfold pickP
        rw [if_pos ⟨by omega, by omega⟩]
        simp [List.getD, hk, hkt]
      rw [HE.out]
      simp only
      obtain ⟨bi, oi, rfl, hbi, hci⟩ := hIc (by intro h; rw [h] at hk; simp at hk)
      obtain ⟨bt, ot, rfl, hbt, hct⟩ := hTc (by intro h; simp at h; rw [h] at hkt; simp at hkt)
      have c1 := hci k ids[k] (by simp [hk])
      have c2 := hct k (bs texts[k]) (by simp [hkt])
      obtain ⟨W1, hW1⟩ : ∃ W1, W1 = w.alloc (.cells #[.slice (some ⟨bi, oi, none⟩) ids.length ci, .slice (some ⟨bt, ot, none⟩) ids.length ct] 30) := ⟨_, rfl⟩
      have hB : Below w.heap.size w W1 := by rw [hW1]; exact (Below.refl _ _).alloc (Nat.le_refl _) _
      have d1 := (hB.cell (p := ⟨bi, oi + k, none⟩) hbi).trans c1
      have d2 := (hB.cell (p := ⟨bt, ot + k, none⟩) hbt).trans c2
      have hH : Holds W1 w.heap.size 30 #[.slice (some ⟨bi, oi, none⟩) ids.length ci, .slice (some ⟨bt, ot, none⟩) ids.length ct] := by rw [hW1]; exact Holds.new _ _ _
      have m0 := hH.cell 0
      have m1 := hH.cell 1
      have q1 : decide ((k : Int) < 0) = false := decide_eq_false (by omega)
      have q2 : decide ((k : Int) ≥ (ids.length : Int)) = false := decide_eq_false (by omega)
      have q3 : decide (k ≥ ids.length) = false := decide_eq_false (by omega)
      have HB := Lib.hid hB
      clear hci hct hIc hTc c1 c2 HE hB hH
      generalize ids[k] = y at *
      generalize bs texts[k] = Y at *
      clear h0 h1 hkt
      clear hl
      generalize ids.length = n at *
      go_enter Try.func49, Try.ntmps49
      go_wp2_with fail
      rw [← hW1]
      clear hW1
      go_quiet (fail)
      go_wp2_with fail
      go_ret2
      exact ⟨rfl, belN HB.out _⟩
    · have HE : Hid (pickP ids texts i = (-1, [])) := if_neg (fun h => h1 h.2)
      rw [HE.out]
      have q1 : decide (i < 0) = false := decide_eq_false (by omega)
      have q2 : decide (i ≥ (ids.length : Int)) = true := decide_eq_true (by omega)
      have HB := Lib.hid ((Below.refl w.heap.size w).alloc (Nat.le_refl _) (.cells #[.slice ai ids.length ci, .slice at' ids.length ct] 30))
      clear hIc hTc HE h0 h1
      clear hl
      generalize ids.length = n at *
      go_enter Try.func49, Try.ntmps49
      go_wp2_with fail
      go_ret2
      exact ⟨rfl, HB.out⟩
  · have HE : Hid (pickP ids texts i = (-1, [])) := if_neg (fun h => h0 h.1)
    rw [HE.out]
    have q1 : decide (i < 0) = true := decide_eq_true (by omega)
    have HB := Lib.hid ((Below.refl w.heap.size w).alloc (Nat.le_refl _) (.cells #[.slice ai ids.length ci, .slice at' ids.length ct] 30))
    clear hIc hTc HE h0
    clear hl
    generalize ids.length = n at *
    go_enter Try.func49, Try.ntmps49
    go_wp2_with fail
    go_ret2
    exact ⟨rfl, HB.out⟩

set_option maxRecDepth 100000 in
theorem letter_any (s : List UInt8) (w : World) : Calls Try.prog 53 #[.string (bs s)] w fun e w' => e = .returned (.int .u8 ((letterL s).toNat : Int)) ∧ Below w.heap.size w w' := by
  cases s with
  | nil =>
    rw [show bs ([] : List UInt8) = ⟨#[]⟩ from rfl]
    go_enter Try.func53, Try.ntmps53
    go_wp2
    go_ret
    exact ⟨rfl, Below.refl _ _⟩
  | cons b r =>
    have hi0 : ∀ W : World, (Instr.index 9 (.string (bs (b :: r))) (.int .i64 0)).run Try.prog W = .ok (.int .u8 (b.toNat : Int)) W := fun W => index_bs (b :: r) 0 (by simp) W
    have hsz := bs_size (b :: r)
    simp only [List.length_cons] at hsz
    have q : decide (((bs (b :: r)).size : Int) > 0) = true := decide_eq_true (by omega)
    have qn : 0 < (bs (b :: r)).size := by omega
    have HE : Hid (letterL (b :: r) = b) := rfl
    rw [HE.out]
    clear hsz
    generalize bs (b :: r) = S at *
    generalize b.toNat = n at *
    go_enter Try.func53, Try.ntmps53
    go_wp2
    go_ret
    exact ⟨rfl, Below.refl _ _⟩
end Go.Proofs.Ytemefbpoemnnpaa
