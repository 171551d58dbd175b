/- Layer 32: agree.marked; what an event's mark is. -/
import Derived.Test.YtpkkeeblgbdfdaaAg1
import Derived.Test.YtpkkeeblgbdfdaaRowN2
import Derived.Laws.CopyOwn
import Derived.Deep.Cut
namespace Go.Proofs.Ytpkkeeblgbdfdaa
open Go.RowKit

def zeroD : DoV := ⟨⟨#[]⟩, ⟨#[]⟩, ⟨#[]⟩, ⟨#[]⟩, ⟨#[]⟩, ⟨#[]⟩, ⟨#[]⟩, ⟨#[]⟩, ⟨#[]⟩, ⟨#[]⟩, ⟨#[]⟩, ⟨#[]⟩, 0, 0, 0, 0, ⟨#[]⟩, ⟨#[]⟩, 0, 0, 0, 0, 0, 0, 0, 0⟩
/-- What an event has in common with a source of a kind, or a source with an event. -/
def markE (kind : Int) (x : EvV) : MarkV := if kind = 1 then ⟨kind, x.wh, ⟨#[]⟩, ⟨#[]⟩, ⟨#[]⟩, 0, x.dn⟩ else ⟨kind, x.wh, x.us, x.sv, x.al, x.sid, zeroD⟩
theorem zeroD_ok : ∀ u ∈ zeroD.row, CellOk u := by
  intro u hu
  simp only [DoV.row, zeroD, List.mem_cons, List.not_mem_nil, or_false] at hu
  rcases hu with rfl | rfl | rfl | rfl | rfl | rfl | rfl | rfl | rfl | rfl | rfl | rfl | rfl | rfl | rfl | rfl | rfl | rfl | rfl | rfl | rfl | rfl | rfl | rfl | rfl | rfl
  all_goals first | exact (by decide : (Lit.int .i64 0).wf = true) | exact (by decide : (Lit.int .u32 0).wf = true) | exact Nat.zero_le _
theorem EvV.row_list (x : EvV) : x.row.toList = .int .i64 x.ki :: .int .i64 x.se :: .int .i64 x.nu :: .int .i64 x.wh :: .string x.us :: .string x.sv :: .string x.al :: .int .i64 x.sid :: x.dn.row := rfl
theorem markE_ok {kind : Int} {x : EvV} (hk : (Lit.int .i64 kind).wf = true) (h : ∀ u ∈ x.row.toList, CellOk u) : ∀ u ∈ (markE kind x).row, CellOk u := by
  rw [x.row_list] at h
  have h3 := h (.int .i64 x.wh) (by simp)
  have h4 := h (.string x.us) (by simp)
  have h5 := h (.string x.sv) (by simp)
  have h6 := h (.string x.al) (by simp)
  have h7 := h (.int .i64 x.sid) (by simp)
  have hd : ∀ u ∈ x.dn.row, CellOk u := fun u hu => h u (by simp [hu])
  have e0 : CellOk (.string ⟨#[]⟩) := Nat.zero_le _
  have z0 : CellOk (.int .i64 0) := (by decide : (Lit.int .i64 0).wf = true)
  unfold markE
  by_cases h1 : kind = 1
  · rw [if_pos h1]
    intro u hu
    simp only [MarkV.row, List.mem_cons] at hu
    rcases hu with rfl | rfl | rfl | rfl | rfl | rfl | hu
    · exact hk
    · exact h3
    · exact e0
    · exact e0
    · exact e0
    · exact z0
    · exact hd u hu
  · rw [if_neg h1]
    intro u hu
    simp only [MarkV.row, List.mem_cons] at hu
    rcases hu with rfl | rfl | rfl | rfl | rfl | rfl | hu
    · exact hk
    · exact h3
    · exact h4
    · exact h5
    · exact h6
    · exact h7
    · exact zeroD_ok u hu
theorem row_dn32 (x : EvV) : ∀ j u, x.dn.row.toArray[j]? = some u → x.row[8 + j]? = some u := fun j u hj => by
  have e : x.row = (([.int .i64 x.ki, .int .i64 x.se, .int .i64 x.nu, .int .i64 x.wh, .string x.us, .string x.sv, .string x.al, .int .i64 x.sid] : List Value) ++ x.dn.row).toArray := rfl
  rw [e]
  simp only [List.getElem?_toArray] at hj ⊢
  rw [List.getElem?_append_right (by simp)]
  simpa using hj
theorem MarkV.one (m : MarkV) : m.row.toArray.all (·.oneCell') = true := by simp [MarkV.row, DoV.row, Value.oneCell']
set_option maxRecDepth 100000 in
theorem sizeMark : (Try.prog.info? 63).map (·.size) = some 32 := by kernel_rfl
set_option maxRecDepth 100000 in
theorem sizeDone32 : (Try.prog.info? 35).map (·.size) = some 26 := by kernel_rfl
def zeroM : MarkV := ⟨0, 0, ⟨#[]⟩, ⟨#[]⟩, ⟨#[]⟩, 0, zeroD⟩
set_option maxRecDepth 100000 in
theorem built_one (wh : Int) (d : DoV) : Try.prog.built 63 [(0, .int .i64 1), (1, .int .i64 wh), (6, .agg d.row.toArray)] = some (MarkV.mk 1 wh ⟨#[]⟩ ⟨#[]⟩ ⟨#[]⟩ 0 d).row.toArray := by kernel_rfl
set_option maxRecDepth 100000 in
theorem built_six (k wh : Int) (a b c : ByteArray) (s : Int) : Try.prog.built 63 [(0, .int .i64 k), (1, .int .i64 wh), (2, .string a), (3, .string b), (4, .string c), (5, .int .i64 s)] = some (MarkV.mk k wh a b c s zeroD).row.toArray := by kernel_rfl
theorem parts3_32 (a : Act) (p q r : Operand) (u v w : Value) (hp : a.eval p = u) (hq : a.eval q = v) (hr : a.eval r = w) : ((#[(0, p), (1, q), (6, r)] : Array (Nat × Operand)).map fun (i, x) => (i, a.eval x)).toList = [(0, u), (1, v), (6, w)] := by simp [hp, hq, hr]
theorem parts6_32 (a : Act) (p0 p1 p2 p3 p4 p5 : Operand) (u0 u1 u2 u3 u4 u5 : Value) (h0 : a.eval p0 = u0) (h1 : a.eval p1 = u1) (h2 : a.eval p2 = u2) (h3 : a.eval p3 = u3) (h4 : a.eval p4 = u4) (h5 : a.eval p5 = u5) :
    ((#[(0, p0), (1, p1), (2, p2), (3, p3), (4, p4), (5, p5)] : Array (Nat × Operand)).map fun (i, x) => (i, a.eval x)).toList = [(0, u0), (1, u1), (2, u2), (3, u3), (4, u4), (5, u5)] := by simp [h0, h1, h2, h3, h4, h5]
set_option maxHeartbeats 4000000 in
set_option maxRecDepth 100000 in
theorem marked_any (x : EvV) (kind : Int) (w : World) : Calls Try.prog 20 #[.int .i64 kind, .agg x.row] w fun e w' => e = .returned (.agg (markE kind x).row.toArray) ∧ Below w.heap.size w w' := by
  obtain ⟨W, hW⟩ : ∃ W, Hid (W = (w.alloc (.cells x.row 37)).alloc (.cells zeroM.row.toArray 63)) := ⟨_, Lib.hid rfl⟩
  have BW : Hid (Below w.heap.size w W) := by
    show Below _ _ _
    rw [hW.out]
    exact ((Below.refl _ w).alloc (Nat.le_refl _) _).alloc (by simp) _
  have K1 : Hid (Holds W w.heap.size 37 x.row) := by
    show Holds _ _ _ _
    rw [hW.out]
    exact first2_row w _ 37 _ rfl
  have K2 : Hid (Holds W (w.heap.size + 1) 63 zeroM.row.toArray) := by
    show Holds _ _ _ _
    rw [hW.out]
    exact last2_row w _ 63 _ rfl
  have HSt : Hid (∀ R : Array Value, (W.setRow (w.heap.size + 1) R).heap[w.heap.size + 1]? = some (.cells R 63 (0, 0)) ∧ Below w.heap.size w (W.setRow (w.heap.size + 1) R)) := fun R => ⟨setRow_heap W _ _ R _ _ K2.out, below_setRow BW.out (Nat.le_succ _) R⟩
  have c3 : W.cell? ⟨w.heap.size, 3, none⟩ = some (.int .i64 x.wh) := (cell_heap K1.out 3).trans (EvV.row_wh x)
  have c4 : W.cell? ⟨w.heap.size, 4, none⟩ = some (.string x.us) := (cell_heap K1.out 4).trans rfl
  have c5 : W.cell? ⟨w.heap.size, 5, none⟩ = some (.string x.sv) := (cell_heap K1.out 5).trans rfl
  have c6 : W.cell? ⟨w.heap.size, 6, none⟩ = some (.string x.al) := (cell_heap K1.out 6).trans rfl
  have c7 : W.cell? ⟨w.heap.size, 7, none⟩ = some (.int .i64 x.sid) := (cell_heap K1.out 7).trans rfl
  have HL : Hid (∀ j u, x.dn.row.toArray[j]? = some u → W.cell? ((⟨w.heap.size, 8, none⟩ : Addr).add j) = some u) := fun j u hj => by
    rw [Addr.add_lit]
    exact (cell_heap K1.out (8 + j)).trans (row_dn32 x j u hj)
  have HB1 := Lib.hid (built_one x.wh x.dn)
  have HB6 := Lib.hid (built_six kind x.wh x.us x.sv x.al x.sid)
  have HM1 : Hid (∀ m : MarkV, m.row.toArray.size = 32 ∧ m.row.toArray.all (·.oneCell') = true) := fun m => ⟨rfl, m.one⟩
  have HDs : Hid (x.dn.row.toArray.size = 26) := rfl
  have Hx : Hid (x.row.size = 34) := rfl
  by_cases hk : kind = 1
  · have hm : markE kind x = MarkV.mk 1 x.wh ⟨#[]⟩ ⟨#[]⟩ ⟨#[]⟩ 0 x.dn := by unfold markE; rw [if_pos hk, hk]
    rw [hm]
    subst hk
    have HMr := Lib.hid (HM1.out (MarkV.mk 1 x.wh ⟨#[]⟩ ⟨#[]⟩ ⟨#[]⟩ 0 x.dn))
    clear hm HM1 HB6
    generalize (MarkV.mk 1 x.wh ⟨#[]⟩ ⟨#[]⟩ ⟨#[]⟩ 0 x.dn).row.toArray = M at *
    generalize x.dn.row.toArray = D at *
    generalize x.wh = wh at *
    generalize x.row = R at *
    go_enter Try.func20, Try.ntmps20
    go_upto_region 1 with fail
    change Code.wp _ _ _ _ ((w.alloc (.cells R 37)).alloc (.cells zeroM.row.toArray 63))
    rw [← hW.out]
    clear hW
    go_wp2_with (first
      | (refine wpList_load_cells rfl 35 _ rfl ⟨w.heap.size, 8, none⟩ rfl D _ HL.out Try.underlying35 rfl (by rw [HDs.out]; exact sizeDone32) ?_)
      | (refine wpList_build_as rfl 63 _ rfl M (by rw [parts3_32 _ _ _ _ _ _ _ rfl rfl rfl]; exact HB1.out) ?_)
      | (refine wpList_store_row rfl 63 _ _ rfl (w.heap.size + 1) M rfl rfl 63 _ K2.out (by rw [HMr.out.1]; exact sizeMark) (by rw [HMr.out.1]; rfl) HMr.out.2 ?_))
    refine bodyPost_ret (results_cell_row rfl _ _ (w.heap.size + 1) 63 M (0, 0) _ rfl (HSt.out M).1 Try.underlying63 rfl (by rw [HMr.out.1]; exact sizeMark)) rfl ⟨rfl, (HSt.out M).2⟩
  · have hm : markE kind x = MarkV.mk kind x.wh x.us x.sv x.al x.sid zeroD := by unfold markE; rw [if_neg hk]
    have qk : (kind == 1) = false := by rw [beq_eq_false_iff_ne]; exact hk
    rw [hm]
    have HMr := Lib.hid (HM1.out (MarkV.mk kind x.wh x.us x.sv x.al x.sid zeroD))
    clear hm HM1 HB1 hk
    generalize (MarkV.mk kind x.wh x.us x.sv x.al x.sid zeroD).row.toArray = M at *
    generalize x.dn.row.toArray = D at *
    generalize x.wh = wh at *
    generalize x.us = us at *
    generalize x.sv = sv at *
    generalize x.al = al at *
    generalize x.sid = sid at *
    generalize x.row = R at *
    go_enter Try.func20, Try.ntmps20
    go_upto_region 1 with fail
    change Code.wp _ _ _ _ ((w.alloc (.cells R 37)).alloc (.cells zeroM.row.toArray 63))
    rw [← hW.out]
    clear hW
    go_wp2_with (first
      | (refine wpList_build_as rfl 63 _ rfl M (by rw [parts6_32 _ _ _ _ _ _ _ (.int .i64 kind) (.int .i64 wh) (.string us) (.string sv) (.string al) (.int .i64 sid) rfl rfl rfl rfl rfl rfl]; exact HB6.out) ?_)
      | (refine wpList_store_row rfl 63 _ _ rfl (w.heap.size + 1) M rfl rfl 63 _ K2.out (by rw [HMr.out.1]; exact sizeMark) (by rw [HMr.out.1]; rfl) HMr.out.2 ?_))
    refine bodyPost_ret (results_cell_row rfl _ _ (w.heap.size + 1) 63 M (0, 0) _ rfl (HSt.out M).1 Try.underlying63 rfl (by rw [HMr.out.1]; exact sizeMark)) rfl ⟨rfl, (HSt.out M).2⟩
end Go.Proofs.Ytpkkeeblgbdfdaa
