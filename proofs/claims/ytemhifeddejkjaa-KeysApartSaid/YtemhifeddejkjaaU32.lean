/- The contract of code.U32. -/
import Derived.Test.YtemhifeddejkjaaStr
import Derived.Laws.NewBlocks
namespace Go.Proofs.Ytemhifeddejkjaa
open Go.RowKit

set_option maxRecDepth 100000 in
theorem U32_any (n : Nat) (hn : n < 4294967296) (w : World) : Calls Try.prog 51 #[.int .u32 n] w fun e w' => e = .returned (.string (bs (pack4 n))) ∧ Below w.heap.size w w' := by
  have hc := pack4_cells n hn
  have hcv := run_string_new w (pack4 n) (by simp [pack4]) #[.int .u8 ((n : Int) / 16777216), .int .u8 ((n : Int) / 65536 % 256), .int .u8 ((n : Int) / 256 % 256), .int .u8 ((n : Int) % 256)] (by rw [← hc])
  have hl4 : (pack4 n).length = 4 := rfl
  rw [hl4] at hcv
  clear hc hl4
  go_enter Try.func51, Try.ntmps51
  go_wp2
  go_ret
  exact ⟨rfl, (Below.refl _ _).alloc (Nat.le_refl _) _⟩
end Go.Proofs.Ytemhifeddejkjaa
