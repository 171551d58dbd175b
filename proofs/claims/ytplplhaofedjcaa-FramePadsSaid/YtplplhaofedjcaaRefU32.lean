/- A string turned into a slice of bytes.
The contract of U32 by the document. -/
import Derived.Test.YtplplhaofedjcaaStr
import Derived.Laws.IdiomStrings
import Derived.Laws.NewBlocks
namespace Go.Proofs.Ytplplhaofedjcaa
open Go.RowKit

theorem conv_bytes (W : World) (l : List UInt8) : ∃ c W', (convert 9 30 (.string (bs l))).run Try.prog W = .ok (.slice (some ⟨W.heap.size, 0, none⟩) l.length c) W' ∧
    (∀ (j : Nat) (hj : j < l.length), W'.cell? ⟨W.heap.size, j, none⟩ = some (.int .u8 (l[j].toNat : Int))) ∧ Below W.heap.size W W' ∧ W'.heap.size = W.heap.size + 1 := by
  have h := run_bytes_of_string (P := Try.prog) W 9 30 5 (bs l) Try.underlying9 Try.underlying30 Try.underlying5
  rw [bs_size] at h
  refine ⟨_, _, h, fun j hj => ?_, (Below.refl _ _).drew.alloc (Nat.le_refl _) _, by simp⟩
  have hc := World.cell?_alloc_mark W.drew (bytesRow (bs l) (grownCap W l.length 0 5)) 5 ((bytesRow (bs l) (grownCap W l.length 0 5)).size, (bytesRow (bs l) (grownCap W l.length 0 5)).size + 1) j
  rw [show W.drew.heap.size = W.heap.size from rfl] at hc
  rw [hc, bytesRow_at (bs l) _ j (by simpa [bs] using hj)]
  simp [bs]

theorem index_bs (l : List UInt8) (j : Nat) (hj : j < l.length) (W : World) : (Instr.index 9 (.string (bs l)) (.int .i64 (j : Int))).run Try.prog W = .ok (.int .u8 (l[j].toNat : Int)) W := by
  rw [run_index_string (P := Try.prog) W 9 (bs l) .i64 j Try.underlying9, dif_pos (by rw [bs_size]; omega)]
  simp [bs, ByteArray.getElem_eq_getElem_data]
end Go.Proofs.Ytplplhaofedjcaa

namespace Go.Proofs.Ytplplhaofedjcaa
open Go.RowKit

set_option maxRecDepth 100000 in
theorem refU32_any (n : Nat) (hn : n < 4294967296) (w : World) : Calls Try.prog 24 #[.int .i64 n] w fun e w' => e = .returned (.string (bs (pack4 n))) ∧ Below w.heap.size w w' := by
  have hc := pack4_cells n hn
  have h0 : (n : Int) / 16777216 % 256 = (n : Int) / 16777216 := by omega
  have hcv := run_string_new w (pack4 n) (by simp [pack4]) #[.int .u8 ((n : Int) / 16777216 % 256), .int .u8 ((n : Int) / 65536 % 256), .int .u8 ((n : Int) / 256 % 256), .int .u8 ((n : Int) % 256)] (by rw [← hc, h0])
  have hl4 : (pack4 n).length = 4 := rfl
  rw [hl4] at hcv
  clear hc hl4 h0
  go_enter Try.func24, Try.ntmps24
  go_wp2
  go_ret
  exact ⟨rfl, (Below.refl _ _).alloc (Nat.le_refl _) _⟩
end Go.Proofs.Ytplplhaofedjcaa
