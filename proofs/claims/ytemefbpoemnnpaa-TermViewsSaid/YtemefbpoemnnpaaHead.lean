/- The contract of head for data. -/
import Derived.Test.YtemefbpoemnnpaaView
namespace Go.Proofs.Ytemefbpoemnnpaa
open Go.RowKit

theorem bs_one_cnt (k : UInt8) (l : List UInt8) : bs [k] ++ bs (cnt l) = bs (k :: cnt l) := by rw [bs_append]; rfl

set_option maxRecDepth 100000 in
theorem head_data (a b : Int) (s : ByteArray) (hs : s.size ≤ 1000000) (v : Value) (w : World) :
    Calls Try.prog 47 #[.agg #[.int .i64 1, .int .i64 a, .int .i64 b, .string s, v]] w fun e w' => e = .returned (.string (bs (241 :: cnt s.data.toList))) ∧ Below w.heap.size w w' := by
  have hcv := run_string_new (w.alloc (.cells #[.int .i64 1, .int .i64 a, .int .i64 b, .string s, v] 36)) [241] (by simp) #[.int .u8 241] (by rfl)
  have hl1 : ([241] : List UInt8).length = 1 := rfl
  rw [hl1, World.size_alloc] at hcv
  have hw : Hid (Below w.heap.size w ((w.alloc (.cells #[.int .i64 1, .int .i64 a, .int .i64 b, .string s, v] 36)).alloc (.cells #[.int .u8 241] 5))) := ((Below.refl _ _).alloc (Nat.le_refl _) _).alloc (by simp) _
  have he := Lib.hid (bs_one_cnt 241 s.data.toList)
  have h1 : (bs [241]).size ≤ 1 := by rw [bs_size]; exact Nat.le_refl _
  have h2 : (bs (cnt s.data.toList)).size ≤ 1000004 := by
    have : s.data.toList.length = s.size := by rw [Array.length_toList]; rfl
    rw [bs_size]; simp [cnt, pack4]; omega
  have hc := fun W => counted_any s hs W
  clear hl1
  generalize bs [241] = K at *
  go_enter Try.func47, Try.ntmps47
  go_wp2_with (
    go_at_call 76
    refine (hc _).mono ?_
    rintro e w' ⟨rfl, hb⟩
    generalize bs (cnt s.data.toList) = Y at *)
  go_ret
  exact ⟨by rw [← he.out]; rfl, hw.out.trans (hb.mono (by simp; omega))⟩
end Go.Proofs.Ytemefbpoemnnpaa
