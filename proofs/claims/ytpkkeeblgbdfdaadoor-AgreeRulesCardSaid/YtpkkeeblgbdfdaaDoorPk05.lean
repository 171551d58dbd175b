/- Part 5 of what the statement wants. -/
import Derived.Deep.QuietTactic
import Derived.Laws.StructEq
import Derived.Laws.Tables
import Derived.Shelf.Small.Wraps
import Derived.Ground.Names2Prog
import Derived.Shelf.Slices.SearchI
import Derived.Shelf.Slices.Empties
import Derived.Test.YtpkkeeblgbdfdaaDoorProg
import Derived.Test.YtpkkeeblgbdfdaaDoorPk01
import Derived.Test.YtpkkeeblgbdfdaaDoorPk03
import Derived.Test.YtpkkeeblgbdfdaaDoorPk04
namespace Go.Proofs.YtpkkeeblgbdfdaaDoor
open Go.RowKit

theorem wp_region_quiet_gen {P : Program} {id : Nat} {Q : Exit → Act → World → Prop} {a : Act} {w : World} {l : List Oper} (hm : P.follows .mixedOrders = true) (hB : Region.lexB .any l.toArray = true)
    (h : ∀ O, O = l.toArray → wpQuiet P O (fun w' => ∃ n, w' = w.drewN n) (fun a' => ∀ w', (∃ n, w' = w.drewN n) → Q .normal a' w') l a) : (Code.region id l.toArray true).wp P Q a w :=
  wp_region_quiet_lit hm hB (h _ rfl)
theorem wpQuiet_value {P : Program} {ops : Array Oper} {w : World} {Q : Act → Prop} {a : Act} {o : Oper} {rest : List Oper} (hw : Region.wanted o (yielded ops a.tmps) = true) (v : Value) (hv : ∀ n, (execOp a.eval o).run P (w.drewN n) = .ok (.value v) (w.drewN n))
    (h : wpQuiet P ops (fun w' => ∃ n, w' = w.drewN n) Q rest (a.put o.dst v)) : wpQuiet P ops (fun w' => ∃ n, w' = w.drewN n) Q (o :: rest) a := by
  refine wpQuiet_step fun K hK => ?_
  rw [if_pos hw]
  refine ⟨v, fun w' ⟨n, e⟩ => ?_, hK _ h⟩
  subst e
  unfold Oper.quietAt
  rw [hv n]
  exact ⟨rfl, rfl⟩
theorem wpQuiet_plain {P : Program} {ops : Array Oper} {w : World} {Q : Act → Prop} {a : Act} {o : Oper} {rest : List Oper} (hg : o.guard = none)
    (h : ∀ K : Act → Prop, (∀ a, wpQuiet P ops (fun w' => ∃ n, w' = w.drewN n) Q rest a → K a) → o.quiet P a (fun w' => ∃ n, w' = w.drewN n) K) : wpQuiet P ops (fun w' => ∃ n, w' = w.drewN n) Q (o :: rest) a := by
  refine wpQuiet_step fun K hK => ?_
  rw [if_pos (by simp [Region.wanted, hg])]
  exact h K hK
theorem wpQuiet_load {P : Program} {ops : Array Oper} {w : World} {Q : Act → Prop} {a : Act} {o : Oper} {rest : List Oper} (hw : Region.wanted o (yielded ops a.tmps) = true) (ty : TypeId) (x : Operand) (ho : o.op = .load ty x)
    (p : Addr) (hx : a.eval x = .pointer (some p)) (cs : Array Value) (d : TypeDesc) (hg : ∀ j v, cs[j]? = some v → w.cell? (p.add j) = some v)
    (hu : P.underlying ty = some d) (hd : (match d with | .struct _ | .array _ _ => true | _ => false) = true) (hi : (P.info? ty).map (·.size) = some cs.size)
    (h : wpQuiet P ops (fun w' => ∃ n, w' = w.drewN n) Q rest (a.put o.dst (.agg cs))) : wpQuiet P ops (fun w' => ∃ n, w' = w.drewN n) Q (o :: rest) a := by
  refine wpQuiet_value hw (.agg cs) (fun n => ?_) h
  unfold execOp
  simp only [ho, hx, Instr.loadAt, Instr.sureAddr, Sem.run_bind, Sem.run_pure, Result.andThen_ok, run_loadVar_cells (w.drewN n) p ty cs d (fun j v hj => hg j v hj) hu hd hi]
theorem wpList_eql_on {P : Program} {ops : Array Oper} {rest : List Oper} {o : Oper} {a : Act} {w : World} {Q : Exit → Act → World → Prop} (hw : Region.wanted o (yielded ops a.tmps) = true) (t r : TypeId) (x y : Operand) (ho : o.op = .binOp .eql t x y r)
    (xs ys : Array Value) (hx : a.eval x = .agg xs) (hy : a.eval y = .agg ys) (hm : P.eqGuardType P.depth t = false) (b : Bool) (he : ∀ W, (Op.equalIn 10000 t (.agg xs) (.agg ys)).run P W = .ok b W)
    (h : wpList P ops Q rest (a.put o.dst (.bool b)) w) : wpList P ops Q (o :: rest) a w := by
  simp only [wpList, hw]
  refine Or.inl ?_
  unfold Oper.wp execOp
  simp only [ho, hx, hy, Sem.run_bind, run_eqGuard_agg _ _ _ _ _ _ _ hm, Result.andThen_ok, run_eql_struct, he, Sem.run_pure]
  exact h
end Go.Proofs.YtpkkeeblgbdfdaaDoor

namespace Go.Proofs
open Go.Shelf
def Tryd.laysNm225_ren : Go.Shelf.Ren := ⟨fun | 25 => 54 | 31 => 61 | 32 => 62 | 37 => 66 | n => n, fun | 22 => 55 | 3 => 3 | 4 => 4 | 40 => 113 | 0 => 0 | n => n, fun | n => n⟩
theorem Tryd.laysNm225 : Go.Proofs.Lays2.n25 Tryd.prog Tryd.laysNm225_ren := {
  mixed := by kernel_rfl
  f25 := Tryd.func54.trans (congrArg some (by kernel_rfl))
  f31 := Tryd.func61.trans (congrArg some (by kernel_rfl))
  f32 := Tryd.func62.trans (congrArg some (by kernel_rfl))
  f37 := Tryd.func66.trans (congrArg some (by kernel_rfl))
  t0 := Tryd.underlying0
  a0 := Tryd.isAgg0
  z0 := Tryd.sizeOf0
  v0 := Tryd.zeroValue0
  t3 := Tryd.underlying3
  a3 := Tryd.isAgg3
  z3 := Tryd.sizeOf3
  v3 := Tryd.zeroValue3
  t4 := Tryd.underlying4
  a4 := Tryd.isAgg4
  z4 := Tryd.sizeOf4
  v4 := Tryd.zeroValue4
  t22 := Tryd.underlying55
  a22 := Tryd.isAgg55
  z22 := Tryd.sizeOf55
  v22 := Tryd.zeroValue55
  t40 := Tryd.underlying113
  a40 := Tryd.isAgg113
  z40 := Tryd.sizeOf113
  v40 := Tryd.zeroValue113 }
open Go.RowKit Go.Lib in
theorem Tryd.slices_BinarySearch_int (b off n c : Nat) (zs : List Int) (x : Int) (w : World) (hz : n ≤ zs.length) (hbig : n < 4611686018427387904) (hc : ∀ j, j < zs.length → w.cell? ⟨b, off + j, none⟩ = some (.int .i64 (zs.getD j 0))) (hs : (zs.take n).Pairwise (· ≤ ·)) :
    Calls Tryd.prog 54 #[.slice (some ⟨b, off, none⟩) n c, .int .i64 x] w fun e w' => e = .returned (.tuple #[.int .i64 ((zs.take n).countP (· < x) : Nat), .bool ((zs.take n).contains x)]) ∧ ∃ q, w' = w.drewN q := Any.slices_BinarySearch_int Tryd.laysNm225 b off n c zs x w hz hbig hc hs
open Go.RowKit Go.Lib in
theorem Tryd.slices_BinarySearch_int_empty (a : Option Addr) (c : Nat) (x : Int) (w : World) :
    Calls Tryd.prog 54 #[.slice a 0 c, .int .i64 x] w fun e w' => e = .returned (.tuple #[.int .i64 0, .bool false]) ∧ w' = w := Any.slices_BinarySearch_int_empty Tryd.laysNm225 a c x w
end Go.Proofs

namespace Go.Proofs.YtpkkeeblgbdfdaaDoor
open Go.RowKit

set_option maxHeartbeats 2000000 in
set_option maxRecDepth 100000 in
theorem binSearch_any {w : World} {v : Value} {S : List Int} (h : IdsAt w v S) (hS : S.Pairwise (· < ·)) (hl : S.length ≤ 1000) (x : Int) : ∃ i, ∀ n, Calls Tryd.prog 54 #[v, .int .i64 x] (w.drewN n) fun e w' => e = .returned (.tuple #[.int .i64 i, .bool (decide (x ∈ S))]) ∧ ∃ m, w' = (w.drewN n).drewN m := by
  obtain ⟨ao, cap, rfl, hc⟩ := h
  by_cases hn : S = []
  · subst hn
    refine ⟨0, fun n => (Tryd.slices_BinarySearch_int_empty ao cap x (w.drewN n)).mono fun e w' ⟨h1, h2⟩ => ⟨h1, 0, by rw [h2]; rfl⟩⟩
  · obtain ⟨b, off, rfl, hb, hcell⟩ := hc hn
    have hin : (S.take S.length).contains x = decide (x ∈ S) := by
      rw [List.take_length]
      simp
    refine ⟨((S.take S.length).countP (· < x) : Nat), fun n => ?_⟩
    have h0 := Tryd.slices_BinarySearch_int b off S.length cap S x (w.drewN n) (Nat.le_refl _) (by omega) (fun j hj => by
      have := hcell j S[j] (List.getElem?_eq_getElem hj)
      rw [List.getD_eq_getElem?_getD, List.getElem?_eq_getElem hj]
      exact this) (by
      rw [List.take_length]
      exact hS.imp fun h => Int.le_of_lt h)
    rw [hin] at h0
    exact h0
set_option maxHeartbeats 2000000 in
set_option maxRecDepth 100000 in
theorem isSafe_any {w : World} {p : Nat} {k : Int} {v c2 c3 c4 c5 : Value} {S : List Int} (h : Holds w p 73 #[.int .i64 k, v, c2, c3, c4, c5]) (hi : IdsAt w v S) (hS : S.Pairwise (· < ·)) (hl : S.length ≤ 1000) :
    Calls Tryd.prog 49 #[.pointer (some ⟨p, 0, none⟩)] w fun e w' => e = .returned (.bool (decide (k ∈ S))) ∧ ∃ n, w' = w.drewN n := by
  obtain ⟨i, hB⟩ := binSearch_any hi hS hl k
  have HB := Lib.hid hB
  have c0 : w.cell? ⟨p, 0, none⟩ = some (.int .i64 k) := h.cell 0
  have c1 : w.cell? ⟨p, 1, none⟩ = some v := h.cell 1
  obtain ⟨ao, cap, rfl, _⟩ := hi
  clear hB h
  generalize decide (k ∈ S) = z at *
  generalize S.length = n at *
  go_enter Tryd.func49, Tryd.ntmps49
  go_upto_region 1 with fail
  go_quiet (first | (go_at_call 54; refine Calls.quiet_of (HB.out _)))
  go_wp2_with fail
  go_ret
  exact ⟨rfl, nq, rfl⟩
end Go.Proofs.YtpkkeeblgbdfdaaDoor
