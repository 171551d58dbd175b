/- Plain bytes; beginnings. -/
import Derived.Test.YtlalkpgipenkaaaStr
import Derived.Test.YtlalkpgipenkaaaShelf
import Derived.Laws.IdiomStrings
import Derived.Laws.NewBlocks
import Derived.Lib.Hide
namespace Go.Proofs.Ytlalkpgipenkaaa
open Go.RowKit

theorem lnConv_bytes (W : World) (l : List UInt8) : ∃ c W', (convert 9 39 (.string (bs l))).run Try.prog W = .ok (.slice (some ⟨W.heap.size, 0, none⟩) l.length c) W' ∧
    (∀ (j : Nat) (hj : j < l.length), W'.cell? ⟨W.heap.size, j, none⟩ = some (.int .u8 (l[j].toNat : Int))) ∧ Below W.heap.size W W' ∧ W'.heap.size = W.heap.size + 1 := by
  have h := run_bytes_of_string (P := Try.prog) W 9 39 5 (bs l) Try.underlying9 Try.underlying39 Try.underlying5
  rw [bs_size] at h
  refine ⟨_, _, h, fun j hj => ?_, (Below.refl _ _).drew.alloc (Nat.le_refl _) _, by simp⟩
  have hc := World.cell?_alloc_mark W.drew (bytesRow (bs l) (grownCap W l.length 0 5)) 5 ((bytesRow (bs l) (grownCap W l.length 0 5)).size, (bytesRow (bs l) (grownCap W l.length 0 5)).size + 1) j
  rw [show W.drew.heap.size = W.heap.size from rfl] at hc
  rw [hc, bytesRow_at (bs l) _ j (by simpa [bs] using hj)]
  simp [bs]

theorem lnIndex_bs (l : List UInt8) (j : Nat) (hj : j < l.length) (W : World) : (Instr.index 9 (.string (bs l)) (.int .i64 (j : Int))).run Try.prog W = .ok (.int .u8 (l[j].toNat : Int)) W := by
  rw [run_index_string (P := Try.prog) W 9 (bs l) .i64 j Try.underlying9, dif_pos (by rw [bs_size]; omega)]
  simp [bs, ByteArray.getElem_eq_getElem_data]

def lnPlainB (b : UInt8) : Bool := decide (32 ≤ b.toNat ∧ b.toNat ≤ 126)
def lnPlainL (l : List UInt8) : Bool := l.all lnPlainB
theorem lnPlain_false {l : List UInt8} {b : UInt8} (hb : b ∈ l) (h : lnPlainB b = false) : lnPlainL l = false := by
  unfold lnPlainL
  rw [List.all_eq_false]
  exact ⟨b, hb, by rw [h]; simp⟩
theorem lnPlain_true {l : List UInt8} (h : ∀ b ∈ l, lnPlainB b = true) : lnPlainL l = true := List.all_eq_true.2 h
theorem lnToList (l : List UInt8) : (bs l).toList = l := by
  rw [ByteArray.toList_eq]
  simp [bs]

theorem lnIsPlain_any (b : UInt8) (w : World) : Calls Try.prog 78 #[.int .u8 (b.toNat : Int)] w fun e w' => e = .returned (.bool (lnPlainB b)) ∧ w' = w := by
  have HB : Hid (lnPlainB b = decide (32 ≤ b.toNat ∧ b.toNat ≤ 126)) := rfl
  generalize b.toNat = n at *
  by_cases n1 : 32 ≤ n
  · have q1 : decide ((n : Int) ≥ 32) = true := decide_eq_true (by omega)
    by_cases n2 : n ≤ 126
    · have q2 : decide ((n : Int) ≤ 126) = true := decide_eq_true (by omega)
      have HO : Hid (lnPlainB b = true) := by show lnPlainB b = true; rw [HB.out]; exact decide_eq_true (by omega)
      go_enter Try.func78, Try.ntmps78
      go_wp2_with fail
      go_ret
      exact ⟨by rw [HO.out]; rfl, rfl⟩
    · have q2 : decide ((n : Int) ≤ 126) = false := decide_eq_false (by omega)
      have HO : Hid (lnPlainB b = false) := by show lnPlainB b = false; rw [HB.out]; exact decide_eq_false (by omega)
      go_enter Try.func78, Try.ntmps78
      go_wp2_with fail
      go_ret
      exact ⟨by rw [HO.out]; rfl, rfl⟩
  · have q1 : decide ((n : Int) ≥ 32) = false := decide_eq_false (by omega)
    have HO : Hid (lnPlainB b = false) := by show lnPlainB b = false; rw [HB.out]; exact decide_eq_false (by omega)
    go_enter Try.func78, Try.ntmps78
    go_wp2_with fail
    go_ret
    exact ⟨by rw [HO.out]; rfl, rfl⟩

theorem lnBegins_eq (s p : List UInt8) : p.isPrefixOf s = (decide (p.length ≤ s.length) && (s.take p.length == p)) := by
  by_cases h : p.length ≤ s.length
  · rw [decide_eq_true h, Bool.true_and, Bool.eq_iff_iff, List.isPrefixOf_iff_prefix, List.prefix_iff_eq_take, beq_iff_eq]
    exact eq_comm
  · rw [decide_eq_false h, Bool.false_and, Bool.eq_false_iff]
    intro e
    have := (List.isPrefixOf_iff_prefix.1 e).length_le
    omega
theorem lnHasPrefix_any (x p : List UInt8) (w : World) : Calls Try.prog 79 #[.string (bs x), .string (bs p)] w fun e w' => e = .returned (.bool (p.isPrefixOf x)) ∧ w' = w := by
  refine (Try.strings_HasPrefix (bs x) (bs p) w).mono ?_
  rintro e w' ⟨rfl, rfl⟩
  simp [Lib.hasPrefix, bs]
set_option maxRecDepth 100000 in
theorem lnBegins_any (x p : List UInt8) (hx : x.length ≤ 1000000) (hp : p.length ≤ 1000000) (w : World) : Calls Try.prog 61 #[.string (bs x), .string (bs p)] w fun e w' => e = .returned (.bool (p.isPrefixOf x)) ∧ w' = w := by
  have hsz := bs_size x
  have hsp := bs_size p
  have HE := Lib.hid (lnBegins_eq x p)
  by_cases h : p.length ≤ x.length
  · have HX := Lib.hid (bs_take x p.length)
    have HT : Hid (∀ a b : List UInt8, ((bs a).toList == (bs b).toList) = (a == b)) := fun a b => by rw [lnToList, lnToList]
    have q1 : decide ((x.length : Int) ≥ (p.length : Int)) = true := decide_eq_true (by omega)
    have HO : Hid (p.isPrefixOf x = (((bs x).extract 0 p.length).toList == (bs p).toList)) := by
      show _ = _
      rw [HE.out, decide_eq_true h, Bool.true_and, HX.out, HT.out]
    clear HE HX HT
    have hle : (bs x).size ≤ 1000000 := by omega
    generalize bs x = S at *
    generalize bs p = T at *
    go_enter Try.func61, Try.ntmps61
    go_wp2_with fail
    go_ret
    exact ⟨by rw [HO.out]; rfl, rfl⟩
  · have q1 : decide ((x.length : Int) ≥ (p.length : Int)) = false := decide_eq_false (by omega)
    have HO : Hid (p.isPrefixOf x = false) := by show _ = _; rw [HE.out, decide_eq_false h, Bool.false_and]
    clear HE
    generalize bs x = S at *
    generalize bs p = T at *
    go_enter Try.func61, Try.ntmps61
    go_wp2_with fail
    go_ret
    exact ⟨by rw [HO.out]; rfl, rfl⟩
end Go.Proofs.Ytlalkpgipenkaaa
