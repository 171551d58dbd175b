/- The contract of names.Once. -/
import Derived.Test.YtjlbifpbdocahaaDoorNSet
namespace Go.Proofs.YtjlbifpbdocahaaDoor
open Go.RowKit Go.Maps Go.WideMaps

set_option maxRecDepth 100000 in
theorem nOnce_any {w : World} {v : Value} {l : List ByteArray} (h : TextsAt w v l) (hl : l.length ≤ 281474976710656) (hs : ∀ x ∈ l, x.size ≤ maxLen) :
    Calls Tryd.prog 47 #[v] w fun e w' => e = .returned (.bool (decide l.Nodup)) ∧ Below w.heap.size w w' := by
  have hS := Lib.hid (nSet_any h hl hs)
  obtain ⟨ao, cap, rfl, hc⟩ := h
  have HZ := Lib.hid (size_setD l)
  clear hs hc
  go_enter Tryd.func47, Tryd.ntmps47
  go_wp2_with (first
    | (go_at_call 73; refine hS.out.mono ?_; rintro e w1 ⟨rfl, hown, hbel, hgt⟩)
    | (at_len; refine wpList_len_own _ rfl _ 106 rfl 9 122 Tryd.underlying106 (unitElem (H := Unit)) w.heap.size l.length (setD l) rfl hown ?_)
    | go_in)
  go_ret
  refine ⟨?_, hbel⟩
  rw [← HZ.out]
  show Ending.returned (Value.bool ((Maps.size (setD l) : Int) == (l.length : Int))) = _
  congr 2
  by_cases hq : Maps.size (setD l) = l.length
  · simp [hq]
  · rw [decide_eq_false hq, beq_eq_false_iff_ne]
    omega
end Go.Proofs.YtjlbifpbdocahaaDoor
