/- make([]byte, k) and its string. -/
import Derived.Test.YtihkhcocfhbekaaDoorMem
import Derived.Test.YtihkhcocfhbekaaDoorStr
import Derived.Test.YtihkhcocfhbekaaDoorAppM
namespace Go.Proofs.YtihkhcocfhbekaaDoor
open Go.RowKit

def zeros7 (k : Nat) : ByteArray := bs (List.replicate k 0)
theorem make_zeros7 (k : Nat) (hk : k ≤ 1000000) (W : World) : (Instr.makeSlice 85 (.int .i64 (k : Int)) (.int .i64 (k : Int))).run Tryd.prog W = .ok (.slice (some ⟨W.heap.size, 0, none⟩) k k) (W.alloc (.cells (byteCells (List.replicate k 0)).toArray 5)) := by
  obtain ⟨i0, hi, hz0, hz1, hz2⟩ := info_parts info_u8
  have h := run_make (P := Tryd.prog) W 85 5 i0 (.int .u8 0) Tryd.underlying85 hi hz0 .i64 .i64 (k : Int) (k : Int) (by omega) (by omega) (by rw [hz2]; omega) (by omega)
  have e : madeCells (Value.int .u8 0).cells (((k : Nat) : Int).toNat * i0.size) = (byteCells (List.replicate k 0)).toArray := by
    apply Array.ext
    · simp [size_madeCells, byteCells, hz1]
    · intro i h1 h2
      simp [madeCells, byteCells, Value.cells, Nat.mod_one]
  rw [h, e]
  simp
theorem string_zeros7 (k : Nat) (hk : k ≤ 1000000) (W : World) (X : Nat) (h : Holds W X 5 (byteCells (List.replicate k 0)).toArray) :
    (convert 85 9 (.slice (some ⟨X, 0, none⟩) k k)).run Tryd.prog W = .ok (.string (zeros7 k)) W :=
  run_string_own (base := 0) ⟨by simp [byteCells], .inr ⟨X, k, _, rfl, Nat.zero_le _, h, Nat.le_refl _, by unfold maxLen; omega, by simp [byteCells], by simp [byteCells]⟩⟩
end Go.Proofs.YtihkhcocfhbekaaDoor
