/- Layer 15: the document's Word. -/
import Derived.Test.YtihkhcocfhbekaaDoorPfN
import Derived.Test.YtihkhcocfhbekaaDoorPfR
import Derived.BigQuiet
namespace Go.Proofs.YtihkhcocfhbekaaDoor
open Go.RowKit

set_option maxHeartbeats 1000000 in
set_option maxRecDepth 100000 in
theorem r15Word_any (z : Int) (w : World) : Calls Tryd.prog 18 #[.int .i64 z] w fun e w' => e = .returned (.string (bs (wordZ z))) ∧ Below w.heap.size w w' := by
  have hN := Holds.new w 9 cells8
  by_cases h : 0 ≤ z ∧ z < 8
  · have hw := wordZ_in h
    obtain ⟨n, rfl⟩ : ∃ n : Nat, z = n := ⟨z.toNat, by omega⟩
    rw [Int.toNat_natCast] at hw
    have hn : n < 8 := by omega
    have hc : (w.alloc (.cells cells8 9)).cell? ⟨w.heap.size, n, none⟩ = some (.string (bs (wordZ n))) := by
      have h1 := hN.cell n
      rw [h1]
      unfold cells8
      simp [hw]
    unfold cells8 pfWords at hc
    simp only [List.map_cons, List.map_nil] at hc
    change (w.alloc (.cells #[.string ⟨#[107, 101, 120]⟩, .string ⟨#[104, 111, 115, 116]⟩, .string ⟨#[101, 110, 99, 45, 99]⟩, .string ⟨#[101, 110, 99, 45, 115]⟩, .string ⟨#[109, 97, 99, 45, 99]⟩, .string ⟨#[109, 97, 99, 45, 115]⟩, .string ⟨#[99, 111, 109, 112, 45, 99]⟩, .string ⟨#[99, 111, 109, 112, 45, 115]⟩] 9)).cell? _ = _ at hc
    have q1 : decide ((n : Int) < 0) = false := decide_eq_false (by omega)
    have q2 : decide ((n : Int) > 7) = false := decide_eq_false (by omega)
    clear h hN hw
    generalize bs (wordZ n) = S at *
    go_enter Tryd.func18, Tryd.ntmps18
    go_wp2_with fail
    go_ret
    exact ⟨rfl, (Below.refl _ _).alloc (Nat.le_refl _) _⟩
  · rw [wordZ_out h, show bs ([] : List UInt8) = ⟨#[]⟩ from rfl]
    clear hN
    by_cases h0 : z < 0
    · have q1 : decide (z < 0) = true := decide_eq_true h0
      go_enter Tryd.func18, Tryd.ntmps18
      go_wp2_with fail
      go_ret
      exact ⟨rfl, (Below.refl _ _).alloc (Nat.le_refl _) _⟩
    · have q1 : decide (z < 0) = false := decide_eq_false h0
      have q2 : decide (z > 7) = true := decide_eq_true (by omega)
      clear h
      go_enter Tryd.func18, Tryd.ntmps18
      go_wp2_with fail
      go_ret
      exact ⟨rfl, (Below.refl _ _).alloc (Nat.le_refl _) _⟩
end Go.Proofs.YtihkhcocfhbekaaDoor
