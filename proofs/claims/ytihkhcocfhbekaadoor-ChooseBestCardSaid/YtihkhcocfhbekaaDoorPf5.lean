/- Layer 15: the eight lists. -/
import Derived.Test.YtihkhcocfhbekaaDoorPf0
import Derived.Laws.Rows
import Derived.RowKitTokens
namespace Go.Proofs.YtihkhcocfhbekaaDoor
open Go.RowKit

def agg8 (u : Nat → Value) : Value := .agg #[u 0, u 1, u 2, u 3, u 4, u 5, u 6, u 7]
set_option maxRecDepth 100000 in
theorem index8 (u : Nat → Value) : ∀ k : Nat, k < 8 → ∀ W : World, (Instr.index 90 (agg8 u) (.int .i64 (k : Int))).run Tryd.prog W = .ok (u k) W
  | 0, _ => fun _ => by kernel_rfl
  | 1, _ => fun _ => by kernel_rfl
  | 2, _ => fun _ => by kernel_rfl
  | 3, _ => fun _ => by kernel_rfl
  | 4, _ => fun _ => by kernel_rfl
  | 5, _ => fun _ => by kernel_rfl
  | 6, _ => fun _ => by kernel_rfl
  | 7, _ => fun _ => by kernel_rfl
  | k + 8, h => absurd h (by omega)
set_option maxHeartbeats 1000000 in
set_option maxRecDepth 100000 in
theorem pfEight_any {u : Nat → Value} (hu : ∀ k < 8, ∃ a n c, u k = .slice a n c) (w : World) : Calls Tryd.prog 63 #[agg8 u] w fun e w' => e = .returned (agg8 u) ∧ Below w.heap.size w w' := by
  unfold agg8
  obtain ⟨a0, n0, c0, e0⟩ := hu 0 (by omega)
  obtain ⟨a1, n1, c1, e1⟩ := hu 1 (by omega)
  obtain ⟨a2, n2, c2, e2⟩ := hu 2 (by omega)
  obtain ⟨a3, n3, c3, e3⟩ := hu 3 (by omega)
  obtain ⟨a4, n4, c4, e4⟩ := hu 4 (by omega)
  obtain ⟨a5, n5, c5, e5⟩ := hu 5 (by omega)
  obtain ⟨a6, n6, c6, e6⟩ := hu 6 (by omega)
  obtain ⟨a7, n7, c7, e7⟩ := hu 7 (by omega)
  rw [e0, e1, e2, e3, e4, e5, e6, e7]
  clear hu e0 e1 e2 e3 e4 e5 e6 e7 u
  have hR := heap_alloc_new (w.alloc (.cells #[.slice a0 n0 c0, .slice a1 n1 c1, .slice a2 n2 c2, .slice a3 n3 c3, .slice a4 n4 c4, .slice a5 n5 c5, .slice a6 n6 c6, .slice a7 n7 c7] 24)) (.cells #[.slice a0 n0 c0, .slice a1 n1 c1, .slice a2 n2 c2, .slice a3 n3 c3, .slice a4 n4 c4, .slice a5 n5 c5, .slice a6 n6 c6, .slice a7 n7 c7] 90)
  rw [World.size_alloc] at hR
  have HRr := Lib.hid hR
  clear hR
  go_enter Tryd.func63, Tryd.ntmps63
  go_wp2_with fail
  refine bodyPost_ret (results_cell_row rfl _ _ (w.heap.size + 1) _ _ (0, 0) _ rfl HRr.out Tryd.underlying90 rfl (by kernel_rfl)) rfl ?_
  exact ⟨rfl, ((Below.refl _ _).alloc (Nat.le_refl _) _).alloc (by simp) _⟩
end Go.Proofs.YtihkhcocfhbekaaDoor
