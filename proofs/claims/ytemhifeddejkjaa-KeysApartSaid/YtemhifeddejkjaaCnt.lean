/- Counted strings: the contract of counted. -/
import Derived.Test.YtemhifeddejkjaaU32
import Derived.Laws.NewBlocks
import Derived.Laws.Slices
namespace Go.Proofs.Ytemhifeddejkjaa
open Go.RowKit

theorem counted_any (s : ByteArray) (hs : s.size ≤ 1000000) (w : World) : Calls Try.prog 50 #[.string s] w fun e w' => e = .returned (.string (bs (cnt s.data.toList))) ∧ Below w.heap.size w w' := by
  have hl : s.data.toList.length = s.size := by rw [Array.length_toList]; rfl
  have he : bs (pack4 s.size) ++ s = bs (cnt s.data.toList) := by
    conv => lhs; rhs; rw [← bs_list s]
    rw [bs_append, cnt, hl]
  have HE := Lib.hid he
  have hp : (bs (pack4 s.size)).size ≤ 4 := by rw [bs_size]; simp [pack4]
  clear he
  go_enter Try.func50, Try.ntmps50
  go_wp2_with (go_at_call 51; refine (U32_any s.size (by omega) _).mono ?_; rintro e w' ⟨rfl, hb⟩)
  go_ret
  exact ⟨by rw [← HE.out]; rfl, hb⟩
end Go.Proofs.Ytemhifeddejkjaa
