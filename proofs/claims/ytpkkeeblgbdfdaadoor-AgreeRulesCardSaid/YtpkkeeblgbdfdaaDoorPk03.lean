/- Part 3 of what the statement wants. -/
import Derived.Laws.CopyOwn
import Derived.Deep.Cut
import Derived.Shelf.Abstract
import Derived.Deep.RegionHeld3
import Derived.Test.YtpkkeeblgbdfdaaDoorPk01
import Derived.Test.YtpkkeeblgbdfdaaDoorPk02
namespace Go.Proofs.YtpkkeeblgbdfdaaDoor
open Go.RowKit

def zeroD : DoV := ⟨⟨#[]⟩, ⟨#[]⟩, ⟨#[]⟩, ⟨#[]⟩, ⟨#[]⟩, ⟨#[]⟩, ⟨#[]⟩, ⟨#[]⟩, ⟨#[]⟩, ⟨#[]⟩, ⟨#[]⟩, ⟨#[]⟩, 0, 0, 0, 0, ⟨#[]⟩, ⟨#[]⟩, 0, 0, 0, 0, 0, 0, 0, 0⟩
/-- What an event has in common with a source of a kind, or a source with an event. -/
def markE (kind : Int) (x : EvV) : MarkV := if kind = 1 then ⟨kind, x.wh, ⟨#[]⟩, ⟨#[]⟩, ⟨#[]⟩, 0, x.dn⟩ else ⟨kind, x.wh, x.us, x.sv, x.al, x.sid, zeroD⟩
theorem zeroD_ok : ∀ u ∈ zeroD.row, CellOk u := by
  intro u hu
  simp only [DoV.row, zeroD, List.mem_cons, List.not_mem_nil, or_false] at hu
  rcases hu with rfl | rfl | rfl | rfl | rfl | rfl | rfl | rfl | rfl | rfl | rfl | rfl | rfl | rfl | rfl | rfl | rfl | rfl | rfl | rfl | rfl | rfl | rfl | rfl | rfl | rfl
  all_goals first | exact (by decide : (Lit.int .i64 0).wf = true) | exact (by decide : (Lit.int .u32 0).wf = true) | exact Nat.zero_le _
theorem EvV.row_list (x : EvV) : x.row.toList = .int .i64 x.ki :: .int .i64 x.se :: .int .i64 x.nu :: .int .i64 x.wh :: .string x.us :: .string x.sv :: .string x.al :: .int .i64 x.sid :: x.dn.row := rfl
theorem markE_ok {kind : Int} {x : EvV} (hk : (Lit.int .i64 kind).wf = true) (h : ∀ u ∈ x.row.toList, CellOk u) : ∀ u ∈ (markE kind x).row, CellOk u := by
  rw [x.row_list] at h
  have h3 := h (.int .i64 x.wh) (by simp)
  have h4 := h (.string x.us) (by simp)
  have h5 := h (.string x.sv) (by simp)
  have h6 := h (.string x.al) (by simp)
  have h7 := h (.int .i64 x.sid) (by simp)
  have hd : ∀ u ∈ x.dn.row, CellOk u := fun u hu => h u (by simp [hu])
  have e0 : CellOk (.string ⟨#[]⟩) := Nat.zero_le _
  have z0 : CellOk (.int .i64 0) := (by decide : (Lit.int .i64 0).wf = true)
  unfold markE
  by_cases h1 : kind = 1
  · rw [if_pos h1]
    intro u hu
    simp only [MarkV.row, List.mem_cons] at hu
    rcases hu with rfl | rfl | rfl | rfl | rfl | rfl | hu
    · exact hk
    · exact h3
    · exact e0
    · exact e0
    · exact e0
    · exact z0
    · exact hd u hu
  · rw [if_neg h1]
    intro u hu
    simp only [MarkV.row, List.mem_cons] at hu
    rcases hu with rfl | rfl | rfl | rfl | rfl | rfl | hu
    · exact hk
    · exact h3
    · exact h4
    · exact h5
    · exact h6
    · exact h7
    · exact zeroD_ok u hu
theorem row_dn32 (x : EvV) : ∀ j u, x.dn.row.toArray[j]? = some u → x.row[8 + j]? = some u := fun j u hj => by
  have e : x.row = (([.int .i64 x.ki, .int .i64 x.se, .int .i64 x.nu, .int .i64 x.wh, .string x.us, .string x.sv, .string x.al, .int .i64 x.sid] : List Value) ++ x.dn.row).toArray := rfl
  rw [e]
  simp only [List.getElem?_toArray] at hj ⊢
  rw [List.getElem?_append_right (by simp)]
  simpa using hj
theorem MarkV.one (m : MarkV) : m.row.toArray.all (·.oneCell') = true := by simp [MarkV.row, DoV.row, Value.oneCell']
set_option maxRecDepth 100000 in
theorem sizeMark : (Tryd.prog.info? 82).map (·.size) = some 32 := by kernel_rfl
set_option maxRecDepth 100000 in
theorem sizeDone32 : (Tryd.prog.info? 43).map (·.size) = some 26 := by kernel_rfl
def zeroM : MarkV := ⟨0, 0, ⟨#[]⟩, ⟨#[]⟩, ⟨#[]⟩, 0, zeroD⟩
set_option maxRecDepth 100000 in
theorem built_one (wh : Int) (d : DoV) : Tryd.prog.built 82 [(0, .int .i64 1), (1, .int .i64 wh), (6, .agg d.row.toArray)] = some (MarkV.mk 1 wh ⟨#[]⟩ ⟨#[]⟩ ⟨#[]⟩ 0 d).row.toArray := by kernel_rfl
set_option maxRecDepth 100000 in
theorem built_six (k wh : Int) (a b c : ByteArray) (s : Int) : Tryd.prog.built 82 [(0, .int .i64 k), (1, .int .i64 wh), (2, .string a), (3, .string b), (4, .string c), (5, .int .i64 s)] = some (MarkV.mk k wh a b c s zeroD).row.toArray := by kernel_rfl
theorem parts3_32 (a : Act) (p q r : Operand) (u v w : Value) (hp : a.eval p = u) (hq : a.eval q = v) (hr : a.eval r = w) : ((#[(0, p), (1, q), (6, r)] : Array (Nat × Operand)).map fun (i, x) => (i, a.eval x)).toList = [(0, u), (1, v), (6, w)] := by simp [hp, hq, hr]
theorem parts6_32 (a : Act) (p0 p1 p2 p3 p4 p5 : Operand) (u0 u1 u2 u3 u4 u5 : Value) (h0 : a.eval p0 = u0) (h1 : a.eval p1 = u1) (h2 : a.eval p2 = u2) (h3 : a.eval p3 = u3) (h4 : a.eval p4 = u4) (h5 : a.eval p5 = u5) :
    ((#[(0, p0), (1, p1), (2, p2), (3, p3), (4, p4), (5, p5)] : Array (Nat × Operand)).map fun (i, x) => (i, a.eval x)).toList = [(0, u0), (1, u1), (2, u2), (3, u3), (4, u4), (5, u5)] := by simp [h0, h1, h2, h3, h4, h5]
set_option maxHeartbeats 4000000 in
set_option maxRecDepth 100000 in
theorem marked_any (x : EvV) (kind : Int) (w : World) : Calls Tryd.prog 41 #[.int .i64 kind, .agg x.row] w fun e w' => e = .returned (.agg (markE kind x).row.toArray) ∧ Below w.heap.size w w' := by
  obtain ⟨W, hW⟩ : ∃ W, Hid (W = (w.alloc (.cells x.row 45)).alloc (.cells zeroM.row.toArray 82)) := ⟨_, Lib.hid rfl⟩
  have BW : Hid (Below w.heap.size w W) := by
    show Below _ _ _
    rw [hW.out]
    exact ((Below.refl _ w).alloc (Nat.le_refl _) _).alloc (by simp) _
  have K1 : Hid (Holds W w.heap.size 45 x.row) := by
    show Holds _ _ _ _
    rw [hW.out]
    exact first2_row w _ 45 _ rfl
  have K2 : Hid (Holds W (w.heap.size + 1) 82 zeroM.row.toArray) := by
    show Holds _ _ _ _
    rw [hW.out]
    exact last2_row w _ 82 _ rfl
  have HSt : Hid (∀ R : Array Value, (W.setRow (w.heap.size + 1) R).heap[w.heap.size + 1]? = some (.cells R 82 (0, 0)) ∧ Below w.heap.size w (W.setRow (w.heap.size + 1) R)) := fun R => ⟨setRow_heap W _ _ R _ _ K2.out, below_setRow BW.out (Nat.le_succ _) R⟩
  have c3 : W.cell? ⟨w.heap.size, 3, none⟩ = some (.int .i64 x.wh) := (cell_heap K1.out 3).trans (EvV.row_wh x)
  have c4 : W.cell? ⟨w.heap.size, 4, none⟩ = some (.string x.us) := (cell_heap K1.out 4).trans rfl
  have c5 : W.cell? ⟨w.heap.size, 5, none⟩ = some (.string x.sv) := (cell_heap K1.out 5).trans rfl
  have c6 : W.cell? ⟨w.heap.size, 6, none⟩ = some (.string x.al) := (cell_heap K1.out 6).trans rfl
  have c7 : W.cell? ⟨w.heap.size, 7, none⟩ = some (.int .i64 x.sid) := (cell_heap K1.out 7).trans rfl
  have HL : Hid (∀ j u, x.dn.row.toArray[j]? = some u → W.cell? ((⟨w.heap.size, 8, none⟩ : Addr).add j) = some u) := fun j u hj => by
    rw [Addr.add_lit]
    exact (cell_heap K1.out (8 + j)).trans (row_dn32 x j u hj)
  have HB1 := Lib.hid (built_one x.wh x.dn)
  have HB6 := Lib.hid (built_six kind x.wh x.us x.sv x.al x.sid)
  have HM1 : Hid (∀ m : MarkV, m.row.toArray.size = 32 ∧ m.row.toArray.all (·.oneCell') = true) := fun m => ⟨rfl, m.one⟩
  have HDs : Hid (x.dn.row.toArray.size = 26) := rfl
  have Hx : Hid (x.row.size = 34) := rfl
  by_cases hk : kind = 1
  · have hm : markE kind x = MarkV.mk 1 x.wh ⟨#[]⟩ ⟨#[]⟩ ⟨#[]⟩ 0 x.dn := by unfold markE; rw [if_pos hk, hk]
    rw [hm]
    subst hk
    have HMr := Lib.hid (HM1.out (MarkV.mk 1 x.wh ⟨#[]⟩ ⟨#[]⟩ ⟨#[]⟩ 0 x.dn))
    clear hm HM1 HB6
    generalize (MarkV.mk 1 x.wh ⟨#[]⟩ ⟨#[]⟩ ⟨#[]⟩ 0 x.dn).row.toArray = M at *
    generalize x.dn.row.toArray = D at *
    generalize x.wh = wh at *
    generalize x.row = R at *
    go_enter Tryd.func41, Tryd.ntmps41
    go_upto_region 1 with fail
    change Code.wp _ _ _ _ ((w.alloc (.cells R 45)).alloc (.cells zeroM.row.toArray 82))
    rw [← hW.out]
    clear hW
    go_wp2_with (first
      | (refine wpList_load_cells rfl 43 _ rfl ⟨w.heap.size, 8, none⟩ rfl D _ HL.out Tryd.underlying43 rfl (by rw [HDs.out]; exact sizeDone32) ?_)
      | (refine wpList_build_as rfl 82 _ rfl M (by rw [parts3_32 _ _ _ _ _ _ _ rfl rfl rfl]; exact HB1.out) ?_)
      | (refine wpList_store_row rfl 82 _ _ rfl (w.heap.size + 1) M rfl rfl 82 _ K2.out (by rw [HMr.out.1]; exact sizeMark) (by rw [HMr.out.1]; rfl) HMr.out.2 ?_))
    refine bodyPost_ret (results_cell_row rfl _ _ (w.heap.size + 1) 82 M (0, 0) _ rfl (HSt.out M).1 Tryd.underlying82 rfl (by rw [HMr.out.1]; exact sizeMark)) rfl ⟨rfl, (HSt.out M).2⟩
  · have hm : markE kind x = MarkV.mk kind x.wh x.us x.sv x.al x.sid zeroD := by unfold markE; rw [if_neg hk]
    have qk : (kind == 1) = false := by rw [beq_eq_false_iff_ne]; exact hk
    rw [hm]
    have HMr := Lib.hid (HM1.out (MarkV.mk kind x.wh x.us x.sv x.al x.sid zeroD))
    clear hm HM1 HB1 hk
    generalize (MarkV.mk kind x.wh x.us x.sv x.al x.sid zeroD).row.toArray = M at *
    generalize x.dn.row.toArray = D at *
    generalize x.wh = wh at *
    generalize x.us = us at *
    generalize x.sv = sv at *
    generalize x.al = al at *
    generalize x.sid = sid at *
    generalize x.row = R at *
    go_enter Tryd.func41, Tryd.ntmps41
    go_upto_region 1 with fail
    change Code.wp _ _ _ _ ((w.alloc (.cells R 45)).alloc (.cells zeroM.row.toArray 82))
    rw [← hW.out]
    clear hW
    go_wp2_with (first
      | (refine wpList_build_as rfl 82 _ rfl M (by rw [parts6_32 _ _ _ _ _ _ _ (.int .i64 kind) (.int .i64 wh) (.string us) (.string sv) (.string al) (.int .i64 sid) rfl rfl rfl rfl rfl rfl]; exact HB6.out) ?_)
      | (refine wpList_store_row rfl 82 _ _ rfl (w.heap.size + 1) M rfl rfl 82 _ K2.out (by rw [HMr.out.1]; exact sizeMark) (by rw [HMr.out.1]; rfl) HMr.out.2 ?_))
    refine bodyPost_ret (results_cell_row rfl _ _ (w.heap.size + 1) 82 M (0, 0) _ rfl (HSt.out M).1 Tryd.underlying82 rfl (by rw [HMr.out.1]; exact sizeMark)) rfl ⟨rfl, (HSt.out M).2⟩
end Go.Proofs.YtpkkeeblgbdfdaaDoor

namespace Go.Proofs.YtpkkeeblgbdfdaaDoor
open Go.RowKit

/-- The taking of a key. -/
def takenP (who : Int) (e : EvV) : Bool := e.ki == 7 && e.wh == who
/-- A commit or an accept. -/
def claimsP (e : EvV) : Bool := e.ki == 2 || e.ki == 4
/-- Was a key taken ahead of a place? -/
def aheadB (l : List EvV) (who n : Int) : Bool := (l.take n.toNat).any (takenP who)
def safeB (l : List EvV) (k : Nat) : Bool := match l[k]? with
  | some e => claimsP e && !aheadB l e.wh k
  | none => false
end Go.Proofs.YtpkkeeblgbdfdaaDoor

namespace Go.Proofs.YtpkkeeblgbdfdaaDoor
open Go.RowKit

theorem ahead_yes {l : List EvV} {who n : Int} {k : Nat} (hk : k < l.length) (hn : (k : Int) < n) (h1 : takenP who l[k] = true) : aheadB l who n = true :=
  List.any_eq_true.2 ⟨l[k], List.mem_take_iff_getElem.2 ⟨k, by omega, rfl⟩, h1⟩
theorem ahead_no {l : List EvV} {who n : Int} {k : Nat} (hk : k = l.length ∨ n ≤ k) (h0 : ∀ x ∈ l.take k, takenP who x = false) : aheadB l who n = false :=
  List.any_eq_false.2 fun x hx => by
    rw [h0 x ?_]; · simp
    obtain ⟨j, hj, rfl⟩ := List.mem_take_iff_getElem.1 hx
    exact List.mem_take_iff_getElem.2 ⟨j, by omega, rfl⟩
set_option maxHeartbeats 2000000 in
set_option maxRecDepth 100000 in
theorem ahead_any {w : World} {v : Value} {l : List EvV} (h : EventsAt w v l) (hl : l.length ≤ maxLen) (who n : Int) :
    Calls Tryd.prog 11 #[v, .int .i64 who, .int .i64 n] w fun e w' => e = .returned (.bool (aheadB l who n)) ∧ w' = w := by
  obtain ⟨ao, cap, rfl, hc⟩ := h
  unfold maxLen at hl
  have HC := Lib.hid hc
  have HY : Hid (∀ k (hk : k < l.length), (k : Int) < n → takenP who l[k] = true → aheadB l who n = true) := fun k hk h1 h2 => ahead_yes hk h1 h2
  have HN : Hid (∀ k, (k = l.length ∨ n ≤ (k : Int)) → (∀ x ∈ l.take k, takenP who x = false) → aheadB l who n = false) := fun k hk h => ahead_no hk h
  clear hc
  generalize aheadB l who n = z at *
  go_enter Tryd.func11, Tryd.ntmps11
  go_wp2_with fail
  go_loopw [7] (fun i wr => ∃ k : Nat, k ≤ l.length ∧ i = .int .i64 k ∧ Hid (∀ x ∈ l.take k, takenP who x = false) ∧ wr = w) (fun i _ => l.length - (intOf i).toNat)
  case atStart => exact ⟨0, Nat.zero_le _, rfl, Lib.hid (by simp), rfl⟩
  case round =>
    obtain ⟨k, hk, rfl, HT, hwr⟩ := hrel
    have hw := hwr.symm
    subst hw
    by_cases hlt : k < l.length
    · have q0 : decide ((k : Int) < (l.length : Int)) = true := decide_eq_true (by omega)
      by_cases hn : (k : Int) < n
      · have q1 : decide ((k : Int) < n) = true := decide_eq_true hn
        obtain ⟨b, off, rfl, hb, hcell⟩ := HC.out (by intro h; simp [h] at hlt)
        have c0 : w.cell? ⟨b, off + k * 34, none⟩ = some (.int .i64 (l[k]).ki) := hcell k _ (List.getElem?_eq_getElem hlt) 0 _ (EvV.row_ki _)
        have c3 := hcell k _ (List.getElem?_eq_getElem hlt) 3 _ (EvV.row_wh _)
        have H1 : Hid (takenP who l[k] = true → z = true) := fun e => HY.out k hlt hn e
        have H0 : Hid (takenP who l[k] = false → ∀ y ∈ l.take (k + 1), takenP who y = false) := fun e => evTake hlt HT.out e
        have HP : Hid (takenP who l[k] = ((l[k]).ki == 7 && (l[k]).wh == who)) := rfl
        clear hcell HC HY HN
        generalize takenP who l[k] = q at *
        generalize (l[k]).ki = ki at *
        generalize (l[k]).wh = wh at *
        by_cases h7 : ki = 7
        · have HQ : Hid (q = (wh == who)) := by show q = (wh == who); rw [HP.out, h7]; rfl
          subst h7
          clear HP
          by_cases hw : wh = who
          · subst hw
            have q2 : (wh == wh) = true := beq_self_eq_true _
            have HF := Lib.hid (H1.out (by rw [HQ.out]; exact q2))
            clear H1 H0 HQ
            go_wp2_with fail
            go_ret
            exact ⟨by rw [HF.out]; rfl, rfl⟩
          · have q2 : (wh == who) = false := by rw [beq_eq_false_iff_ne]; exact hw
            have HF := Lib.hid (H0.out (by rw [HQ.out]; exact q2))
            clear H1 H0 HQ hw
            go_wp2_with fail
            go_roundw
            case rel => exact ⟨k + 1, by omega, by go_num, HF, trivial⟩
            case measure => simp [intOf]; omega
        · have q3 : (ki == 7) = false := by rw [beq_eq_false_iff_ne]; exact h7
          have HF := Lib.hid (H0.out (by rw [HP.out, q3]; rfl))
          clear H1 H0 HP h7
          go_wp2_with fail
          go_roundw
          case rel => exact ⟨k + 1, by omega, by go_num, HF, trivial⟩
          case measure => simp [intOf]; omega
      · have q1 : decide ((k : Int) < n) = false := decide_eq_false hn
        have HF := Lib.hid (HN.out k (.inr (by omega)) HT.out)
        clear HC HT HN HY
        go_wp2_with fail
        go_ret
        exact ⟨by rw [HF.out]; rfl, rfl⟩
    · have q0 : decide ((k : Int) < (l.length : Int)) = false := decide_eq_false (by omega)
      have HF := Lib.hid (HN.out k (.inl (by omega)) HT.out)
      clear HC HT HN HY
      go_wp2_with fail
      go_ret
      exact ⟨by rw [HF.out]; rfl, rfl⟩
end Go.Proofs.YtpkkeeblgbdfdaaDoor

namespace Go.Proofs.YtpkkeeblgbdfdaaDoor
open Go.RowKit

set_option maxHeartbeats 1000000 in
set_option maxRecDepth 100000 in
theorem claims_any (x : EvV) (w : World) : Calls Tryd.prog 40 #[.agg x.row] w fun e w' => e = .returned (.bool (claimsP x)) ∧ Below w.heap.size w w' := by
  have HS : Hid (x.row.size = 34) := x.row_size
  have g0 := x.row_ki
  have HT : Hid (claimsP x = (x.ki == 2 || x.ki == 4)) := rfl
  obtain ⟨R, hR⟩ : ∃ R, x.row = R := ⟨_, rfl⟩
  rw [hR] at HS g0 ⊢
  clear hR
  have c0 := ((cell_of_row _ w.heap.size 0 R 45 (0, 0) (heap_alloc_new w (.cells R 45))).trans g0)
  generalize claimsP x = z at *
  generalize x.ki = ki at *
  clear g0
  have BB : Hid (Below w.heap.size w (w.alloc (.cells R 45))) := Lib.hid ((Below.refl _ w).alloc (Nat.le_refl _) _)
  by_cases h2 : ki = 2
  · subst h2
    go_enter Tryd.func40, Tryd.ntmps40
    go_wp2_with fail
    go_ret
    exact ⟨by rw [HT.out]; rfl, BB.out⟩
  · have q : (ki == 2) = false := by rw [beq_eq_false_iff_ne]; exact h2
    go_enter Tryd.func40, Tryd.ntmps40
    go_wp2_with fail
    go_ret
    exact ⟨by rw [HT.out, q]; rfl, BB.out⟩
end Go.Proofs.YtpkkeeblgbdfdaaDoor
