/- The contracts of Decode at data and at too many bytes, of Opaque at too many bytes, and of the awake of layer 2. -/
import Derived.Test.YtamgbeinmfgglaaReadData
import Derived.Test.YtamgbeinmfgglaaEncode
namespace Go.Proofs.Ytamgbeinmfgglaa
open Go.RowKit

theorem Decode_long {A : Nat} (s : ByteArray) (h1 : 131072 < s.size) (h2 : s.size ≤ 1000000) (w : World) :
    Calls Try.prog 28 #[.pointer (some ⟨A, 0, none⟩), .string s] w fun e w' => e = .returned (.tuple #[.int .i64 (-1), .int .i64 2]) ∧ w = w' := by
  go_enter Try.func28, Try.ntmps28
  go_wp2_with fail
  go_ret2
  exact ⟨rfl, rfl⟩

theorem Opaque_long (s : ByteArray) (h1 : 131072 < s.size) (h2 : s.size ≤ 1000000) (w : World) :
    Calls Try.prog 31 #[.string s] w fun e w' => e = .returned (.bool false) ∧ Below w.heap.size w w' := by
  go_enter Try.func31, Try.ntmps31
  go_wp2_with (first
    | (go_at_call 13; refine (New_any _).mono ?_; rintro e w1 ⟨A, F, rfl, _, b1⟩)
    | (go_at_call 28; refine (Decode_long s h1 h2 _).mono ?_; rintro e w2 ⟨rfl, rfl⟩))
  go_ret
  exact ⟨rfl, b1⟩

theorem Decode_data {B A : Nat} {L : List Ent} {F : Nat → Prop} {w : World} {l : List UInt8} (ha : ArenaAt B A L F w) (hlen : L.length < 1073741824) (hl : 5 + l.length ≤ 131072) (hne : (dataM L (bs l)).1 ≠ -1) :
    Calls Try.prog 28 #[.pointer (some ⟨A, 0, none⟩), .string (bs (241 :: cnt l))] w fun e w' => e = .returned (.tuple #[.int .i64 (dataM L (bs l)).1, .int .i64 0]) ∧ Left B A (dataM L (bs l)).2 F w w' := by
  have hR : RdAt (w.alloc (.cells #[.pointer (some ⟨A, 0, none⟩), .string (bs (241 :: cnt l)), .bool false] 93)) w.heap.size A (241 :: cnt l) false := Holds.new w _ _
  have hA := ha.below ((Below.refl _ _).alloc (Nat.le_refl _) (.cells #[.pointer (some ⟨A, 0, none⟩), .string (bs (241 :: cnt l)), .bool false] 93))
  have hF : ¬ F w.heap.size := fun h => by have := (ha.lt _ h).2; omega
  have ht := rterm_data hA hR hF hlen (by omega)
  have hsz : (bs (241 :: cnt l)).size ≤ 131072 := by rw [bs_size]; simp [cnt, pack4]; omega
  clear hA hR hlen ha
  generalize dataM L (bs l) = p at *
  obtain ⟨i, L'⟩ := p
  generalize bs (241 :: cnt l) = S at *
  simp only at *
  have hb : (i == -1) = false := by simpa using hne
  go_enter Try.func28, Try.ntmps28
  go_wp2_with (
    go_at_call 48
    refine ht.mono ?_
    rintro e w1 ⟨rfl, h1, F', h2, m1, hF'⟩
    have c1 : w1.cell? ⟨w.heap.size, 1, none⟩ = some (.string ⟨#[]⟩) := Holds.cell h1 1
    have c2 : w1.cell? ⟨w.heap.size, 2, none⟩ = some (.bool false) := Holds.cell h1 2)
  go_ret2
  refine ⟨rfl, F', h2, ?_, fun k hk => (hF' k hk).imp_right fun h => by simp at h; omega⟩
  exact ((Moves.refl F w).alloc _).trans m1 fun k h => h.symm.imp_right fun e => by omega
end Go.Proofs.Ytamgbeinmfgglaa
