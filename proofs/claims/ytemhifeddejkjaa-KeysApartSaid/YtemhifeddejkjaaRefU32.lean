/- The contract of U32 by the document. -/
import Derived.Test.YtemhifeddejkjaaConvB
namespace Go.Proofs.Ytemhifeddejkjaa
open Go.RowKit

set_option maxRecDepth 100000 in
theorem refU32_any (n : Nat) (hn : n < 4294967296) (w : World) : Calls Try.prog 54 #[.int .i64 n] w fun e w' => e = .returned (.string (bs (pack4 n))) ∧ Below w.heap.size w w' := by
  have hc := pack4_cells n hn
  have h0 : (n : Int) / 16777216 % 256 = (n : Int) / 16777216 := by omega
  have hcv := run_string_new w (pack4 n) (by simp [pack4]) #[.int .u8 ((n : Int) / 16777216 % 256), .int .u8 ((n : Int) / 65536 % 256), .int .u8 ((n : Int) / 256 % 256), .int .u8 ((n : Int) % 256)] (by rw [← hc, h0])
  have hl4 : (pack4 n).length = 4 := rfl
  rw [hl4] at hcv
  clear hc hl4 h0
  go_enter Try.func54, Try.ntmps54
  go_wp2
  go_ret
  exact ⟨rfl, (Below.refl _ _).alloc (Nat.le_refl _) _⟩
end Go.Proofs.Ytemhifeddejkjaa
