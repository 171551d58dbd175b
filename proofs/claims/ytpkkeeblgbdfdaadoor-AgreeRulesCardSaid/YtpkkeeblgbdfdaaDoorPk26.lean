/- Part 26 of what the statement wants. -/
import Derived.Test.YtpkkeeblgbdfdaaDoorPk05
import Derived.Test.YtpkkeeblgbdfdaaDoorPk22
import Derived.Test.YtpkkeeblgbdfdaaDoorPk25
namespace Go.Proofs.YtpkkeeblgbdfdaaDoor
open Go.RowKit

set_option maxHeartbeats 4000000 in
set_option maxRecDepth 100000 in
theorem rsame_any (x y : EvV) (w : World) : Calls Tryd.prog 46 #[.agg x.row, .agg y.row] w fun e w' => e = .returned (.bool (sameB x y)) ∧ Below w.heap.size w w' := by
  obtain ⟨W, hW⟩ : ∃ W, Hid (W = (w.alloc (.cells x.row 45)).alloc (.cells y.row 45)) := ⟨_, Lib.hid rfl⟩
  have BW : Hid (Below w.heap.size w W) := by
    show Below _ _ _
    rw [hW.out]
    exact ((Below.refl _ w).alloc (Nat.le_refl _) _).alloc (by simp) _
  have K1 : Hid (Holds W w.heap.size 45 x.row) := by
    show Holds _ _ _ _
    rw [hW.out]
    exact first2_row w _ 45 _ rfl
  have K2 : Hid (Holds W (w.heap.size + 1) 45 y.row) := by
    show Holds _ _ _ _
    rw [hW.out]
    exact last2_row w _ 45 _ rfl
  have c3 : W.cell? ⟨w.heap.size, 3, none⟩ = some (.int .i64 x.wh) := (cell_heap K1.out 3).trans rfl
  have d3 : W.cell? ⟨w.heap.size + 1, 3, none⟩ = some (.int .i64 y.wh) := (cell_heap K2.out 3).trans rfl
  have c4 : W.cell? ⟨w.heap.size, 4, none⟩ = some (.string x.us) := (cell_heap K1.out 4).trans rfl
  have d4 : W.cell? ⟨w.heap.size + 1, 4, none⟩ = some (.string y.us) := (cell_heap K2.out 4).trans rfl
  have c5 : W.cell? ⟨w.heap.size, 5, none⟩ = some (.string x.sv) := (cell_heap K1.out 5).trans rfl
  have d5 : W.cell? ⟨w.heap.size + 1, 5, none⟩ = some (.string y.sv) := (cell_heap K2.out 5).trans rfl
  have c6 : W.cell? ⟨w.heap.size, 6, none⟩ = some (.string x.al) := (cell_heap K1.out 6).trans rfl
  have d6 : W.cell? ⟨w.heap.size + 1, 6, none⟩ = some (.string y.al) := (cell_heap K2.out 6).trans rfl
  have c7 : W.cell? ⟨w.heap.size, 7, none⟩ = some (.int .i64 x.sid) := (cell_heap K1.out 7).trans rfl
  have d7 : W.cell? ⟨w.heap.size + 1, 7, none⟩ = some (.int .i64 y.sid) := (cell_heap K2.out 7).trans rfl
  have HB : Hid (sameB x y = ((x.wh == y.wh) && ((x.us.toList == y.us.toList) && ((x.sv.toList == y.sv.toList) && ((x.al.toList == y.al.toList) && (x.sid == y.sid)))))) := rfl
  clear K1 K2
  generalize sameB x y = z at *
  generalize x.wh = a0 at *
  generalize y.wh = b0 at *
  generalize x.us = a1 at *
  generalize y.us = b1 at *
  generalize x.sv = a2 at *
  generalize y.sv = b2 at *
  generalize x.al = a3 at *
  generalize y.al = b3 at *
  generalize x.sid = a4 at *
  generalize y.sid = b4 at *
  generalize x.row = R1 at *
  generalize y.row = R2 at *
  cases q0 : (a0 == b0) with
  | false =>
    go_enter Tryd.func46, Tryd.ntmps46
    go_upto_region 1 with fail
    rw [← hW.out]
    clear hW
    go_wp2_with fail
    go_ret
    exact ⟨by rw [HB.out]; rw [q0]; rfl, BW.out⟩
  | true =>
    cases q1 : (a1.toList == b1.toList) with
    | false =>
      go_enter Tryd.func46, Tryd.ntmps46
      go_upto_region 1 with fail
      rw [← hW.out]
      clear hW
      go_wp2_with fail
      go_ret
      exact ⟨by rw [HB.out]; rw [q0, q1]; rfl, BW.out⟩
    | true =>
      cases q2 : (a2.toList == b2.toList) with
      | false =>
        go_enter Tryd.func46, Tryd.ntmps46
        go_upto_region 1 with fail
        rw [← hW.out]
        clear hW
        go_wp2_with fail
        go_ret
        exact ⟨by rw [HB.out]; rw [q0, q1, q2]; rfl, BW.out⟩
      | true =>
        cases q3 : (a3.toList == b3.toList) with
        | false =>
          go_enter Tryd.func46, Tryd.ntmps46
          go_upto_region 1 with fail
          rw [← hW.out]
          clear hW
          go_wp2_with fail
          go_ret
          exact ⟨by rw [HB.out]; rw [q0, q1, q2, q3]; rfl, BW.out⟩
        | true =>
          go_enter Tryd.func46, Tryd.ntmps46
          go_upto_region 1 with fail
          rw [← hW.out]
          clear hW
          go_wp2_with fail
          go_ret
          exact ⟨by rw [HB.out]; rw [q0, q1, q2, q3]; rfl, BW.out⟩
end Go.Proofs.YtpkkeeblgbdfdaaDoor
