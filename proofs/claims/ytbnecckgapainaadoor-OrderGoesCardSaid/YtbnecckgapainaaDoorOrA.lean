/- Layer 23: the page's example. -/
import Derived.Test.YtbnecckgapainaaDoorOr1
namespace Go.Proofs.YtbnecckgapainaaDoor
open Go.RowKit

set_option maxHeartbeats 1000000 in
set_option maxRecDepth 100000 in
theorem awake23_any (w : World) : Calls Tryd.prog 10 #[] w fun e w' => e = .returned (.bool true) ∧ Below w.heap.size w w' := by
  have H1 : Hid (∀ W : World, Calls Tryd.prog 25 #[.int .i64 2, .bool true, .bool true, .int .i64 2] W fun e w' => e = .returned (.int .i64 0) ∧ Below W.heap.size W w') := fun W => oJudge_any W 2 true true 2 0 (by rfl)
  have H2 : Hid (∀ W : World, Calls Tryd.prog 25 #[.int .i64 2, .bool false, .bool true, .int .i64 2] W fun e w' => e = .returned (.int .i64 2) ∧ Below W.heap.size W w') := fun W => oJudge_any W 2 false true 2 2 (by rfl)
  have H3 : Hid (∀ W : World, Calls Tryd.prog 25 #[.int .i64 2, .bool true, .bool true, .int .i64 30] W fun e w' => e = .returned (.int .i64 1) ∧ Below W.heap.size W w') := fun W => oJudge_any W 2 true true 30 1 (by rfl)
  go_enter Tryd.func10, Tryd.ntmps10
  go_wp2_with (first
    | (go_at_call 25; (with_reducible refine (H1.out _).mono ?_); rintro e w1 ⟨rfl, b1⟩)
    | (go_at_call 25; (with_reducible refine (H2.out _).mono ?_); rintro e w2 ⟨rfl, b2⟩; have c2 := b1.trans (b2.mono b1.size))
    | (go_at_call 25; (with_reducible refine (H3.out _).mono ?_); rintro e w3 ⟨rfl, b3⟩; have c3 := c2.trans (b3.mono c2.size))
    | fail)
  go_ret
  exact ⟨rfl, c3⟩
end Go.Proofs.YtbnecckgapainaaDoor
