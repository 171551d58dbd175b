/- Layer 11: the shortest padding; the program's Pack. -/
import Derived.Test.YtplplhaofedjcaaFr4
import Derived.Lib.BufferWrite
import Derived.Laws.Tables
namespace Go.Proofs.Ytplplhaofedjcaa
open Go.RowKit

def frPadP (n : Nat) : Nat := if 8 - (5 + n) % 8 < 4 then 16 - (5 + n) % 8 else 8 - (5 + n) % 8
theorem frPadP_facts (n : Nat) : 4 ≤ frPadP n ∧ frPadP n ≤ 11 ∧ (5 + n + frPadP n) % 8 = 0 := by
  unfold frPadP
  split <;> omega
def frBuf (l : List UInt8) : List UInt8 := UInt8.ofNat (frPadP l.length) :: (l ++ List.replicate (frPadP l.length) 0)
def frPackP (l : List UInt8) : List UInt8 × Nat := if l = [] then ([], 4) else if 32768 < l.length then ([], 2) else (cnt (frBuf l), 0)

set_option maxRecDepth 100000 in
theorem frPad_any (n : Nat) (hn : n ≤ 1000000) (w : World) : Calls Try.prog 18 #[.int .i64 n] w fun e w' => e = .returned (.int .i64 (frPadP n : Int)) ∧ w' = w := by
  by_cases h : 8 - (5 + n) % 8 < 4
  · have HP : Hid (frPadP n = 16 - (5 + n) % 8) := if_pos h
    have q : decide (8 - (5 + (n : Int)) % 8 < 4) = true := decide_eq_true (by omega)
    have HE : Hid (((16 - (5 + n) % 8 : Nat) : Int) = 8 - (5 + (n : Int)) % 8 + 8) := by show _ = _; omega
    go_enter Try.func18, Try.ntmps18
    go_wp2_with fail
    go_ret
    exact ⟨by rw [HP.out, HE.out]; rfl, rfl⟩
  · have HP : Hid (frPadP n = 8 - (5 + n) % 8) := if_neg h
    have q : decide (8 - (5 + (n : Int)) % 8 < 4) = false := decide_eq_false (by omega)
    have HE : Hid (((8 - (5 + n) % 8 : Nat) : Int) = 8 - (5 + (n : Int)) % 8) := by show _ = _; omega
    go_enter Try.func18, Try.ntmps18
    go_wp2_with fail
    go_ret
    exact ⟨by rw [HP.out, HE.out]; rfl, rfl⟩

theorem frMake (k : Nat) (hk : k ≤ 1000000) (W : World) : (Instr.makeSlice 30 (.int .i64 (k : Int)) (.int .i64 (k : Int))).run Try.prog W = .ok (.slice (some ⟨W.heap.size, 0, none⟩) k k) (W.alloc (.cells (byteCells (List.replicate k 0)).toArray 5)) := by
  obtain ⟨i0, hi, hz0, hz1, hz2⟩ := info_parts info_u8
  have h := run_make (P := Try.prog) W 30 5 i0 (.int .u8 0) Try.underlying30 hi hz0 .i64 .i64 (k : Int) (k : Int) (by omega) (by omega) (by rw [hz2]; omega) (by omega)
  have e : madeCells (Value.int .u8 0).cells (((k : Nat) : Int).toNat * i0.size) = (byteCells (List.replicate k 0)).toArray := by
    apply Array.ext
    · simp [size_madeCells, byteCells, hz1]
    · intro i h1 h2
      simp [madeCells, byteCells, Value.cells, Nat.mod_one]
  rw [h, e]
  simp
theorem frString {W : World} {X : Nat} {l : List UInt8} (hl : l.length ≤ 1000000) (h : Holds W X 5 (byteCells l).toArray) (k : Nat) (hk : k = l.length) :
    (convert 30 9 (.slice (some ⟨X, 0, none⟩) k k)).run Try.prog W = .ok (.string (bs l)) W := by
  subst hk
  exact run_string_own (base := 0) ⟨by simp [byteCells], .inr ⟨X, l.length, _, rfl, Nat.zero_le _, h, Nat.le_refl _, by unfold maxLen; omega, by simp [byteCells], by rw [List.toList_toArray, Nat.mul_one]; exact List.take_of_length_le (by rw [byteCells_length]; exact Nat.le_refl _)⟩⟩
theorem frCells_eq (l : List UInt8) : Lib.byteCells l = byteCells l := rfl
theorem frSetRow_below {B : Nat} {w : World} {g : Nat} {cs : Array Value} (hg : B ≤ g) : Below B w (w.setRow g cs) := ⟨rfl, rfl, rfl, by simp, fun k hk => setRow_other _ _ _ _ (by omega)⟩

set_option maxHeartbeats 1000000 in
set_option maxRecDepth 100000 in
theorem frPack_any (l : List UInt8) (hl : l.length ≤ 1000000) (w : World) : Calls Try.prog 8 #[.string (bs l)] w fun e w' => e = .returned (.tuple #[.string (bs (frPackP l).1), .int .i64 ((frPackP l).2 : Int)]) ∧ Below w.heap.size w w' := by
  have hsz := bs_size l
  have HZ : Hid (bs ([] : List UInt8) = ⟨#[]⟩) := rfl
  by_cases h0 : l = []
  · have HU : Hid (frPackP l = ([], 4)) := if_pos h0
    have q0 := frEmpty_yes (s := l) (by rw [h0]; rfl)
    clear h0
    generalize bs l = S at *
    go_enter Try.func8, Try.ntmps8
    go_wp2_with fail
    go_ret2
    exact ⟨by rw [HU.out, HZ.out]; rfl, Below.refl _ _⟩
  · have hpos : 0 < l.length := List.length_pos_iff.2 h0
    have q0 := frEmpty_no (s := l) (by omega)
    by_cases h1 : 32768 < l.length
    · have HU : Hid (frPackP l = ([], 2)) := by show frPackP l = _; unfold frPackP; rw [if_neg h0, if_pos h1]
      clear h0
      generalize bs l = S at *
      go_enter Try.func8, Try.ntmps8
      go_wp2_with fail
      go_ret2
      exact ⟨by rw [HU.out, HZ.out]; rfl, Below.refl _ _⟩
    · have HU : Hid (frPackP l = (cnt (frBuf l), 0)) := by show frPackP l = _; unfold frPackP; rw [if_neg h0, if_neg h1]
      obtain ⟨p1, p2, _⟩ := frPadP_facts l.length
      have HB : frBuf l = UInt8.ofNat (frPadP l.length) :: (l ++ List.replicate (frPadP l.length) 0) := rfl
      have HPad := Lib.hid (fun W => frPad_any l.length (by omega) W)
      generalize frPadP l.length = p at *
      have hbl : (frBuf l).length = 1 + l.length + p := by rw [HB]; simp; omega
      have hmk := frMake (1 + l.length + p) (by omega)
      have e1 : ((1 + l.length + p : Nat) : Int) = 1 + (l.length : Int) + (p : Int) := by omega
      rw [e1] at hmk
      obtain ⟨Z, hZ⟩ : ∃ Z, Z = (byteCells (List.replicate (1 + l.length + p) 0)).toArray := ⟨_, rfl⟩
      rw [← hZ] at hmk
      have hZs : Z.size = 1 + l.length + p := by rw [hZ]; simp [byteCells]
      have hg1 : Holds (w.alloc (.cells Z 5)) w.heap.size 5 Z := Holds.new w _ _
      have hg2 : Holds (w.alloc (.cells (Z.setIfInBounds 0 (.int .u8 (p : Int))) 5)) w.heap.size 5 (Z.setIfInBounds 0 (.int .u8 (p : Int))) := Holds.new w _ _
      have hinfo : (Try.prog.info? 5).map (·.size) = some 1 := by
        obtain ⟨i0, hi, hz0, hz1, hz2⟩ := info_parts info_u8
        rw [hi]; simp [hz1]
      have hcp := Lib.run_copy_row_string (P := Try.prog) (w.alloc (.cells (Z.setIfInBounds 0 (.int .u8 (p : Int))) 5)) 30 9 3 5 w.heap.size 1 (1 + l.length + p - 1) (1 + l.length + p - 1) (bs l) _ 5 Try.underlying30 hinfo hg2 (by omega) (by simp; omega)
      obtain ⟨Y, hY⟩ : ∃ Y, Y = (List.take 1 (Z.setIfInBounds 0 (Value.int IntKind.u8 (p : Int))).toList ++ Lib.byteCells (bs l).data.toList ++ List.drop (1 + (bs l).size) (Z.setIfInBounds 0 (Value.int IntKind.u8 (p : Int))).toList).toArray := ⟨_, rfl⟩
      rw [← hY] at hcp
      have hYe : Y = (byteCells (frBuf l)).toArray := by
        rw [hY, hZ, HB, hsz]
        have e2 : (bs l).data.toList = l := by simp [bs]
        rw [e2, frCells_eq]
        have e3 : 1 + l.length + p = (l.length + p) + 1 := by omega
        have hpm : p % 256 = p := Nat.mod_eq_of_lt (by omega)
        rw [e3]
        simp only [byteCells, List.replicate_succ, List.map_cons, List.setIfInBounds_toArray, List.set_cons_zero, List.toList_toArray, List.take_succ_cons, List.take_zero, List.map_append, List.map_replicate]
        rw [show 1 + l.length = l.length + 1 by omega, List.drop_succ_cons, List.drop_replicate, show l.length + p - l.length = p by omega]
        simp [hpm]
      have hg3 : Holds ((w.alloc (.cells (Z.setIfInBounds 0 (.int .u8 (p : Int))) 5)).setRow w.heap.size Y) w.heap.size 5 Y := setRow_heap _ _ _ _ 5 (0, 0) hg2
      have hcv := frString (l := frBuf l) (by omega) (hYe ▸ hg3) (1 + l.length + p) hbl.symm
      rw [← hYe] at hcv
      have HF := Lib.hid (fun W => frUnit_any (frBuf l) (by omega) W)
      have hU : frUnitP (frBuf l) = (cnt (frBuf l), 0) := by
        unfold frUnitP
        rw [if_neg (by rw [HB]; simp), if_neg (by omega)]
      rw [hU] at HF
      have HY := Lib.hid hYe
      have hb3 : Below w.heap.size w ((w.alloc (.cells (Z.setIfInBounds 0 (.int .u8 (p : Int))) 5)).setRow w.heap.size Y) :=
        ((Below.refl _ _).alloc (Nat.le_refl _) _).trans (frSetRow_below (Nat.le_refl _))
      have HB3 := Lib.hid hb3
      have HZ0 : Hid (Z.size = 1 + l.length + p) := hZs
      have c0 := Holds.cell hg1 0
      have f0 := Holds.frozen hg1 0
      have hz0 : Z[0]? = some (.int .u8 0) := by
        rw [hZ, show 1 + l.length + p = (l.length + p) + 1 by omega]
        simp [byteCells, List.replicate_succ]
      rw [hz0] at c0
      clear hYe hY hZ hU HY hb3 h0 HB hg1 hg2 hg3
      obtain ⟨C, hC⟩ : ∃ C, C = bs (cnt (frBuf l)) := ⟨_, rfl⟩
      rw [← hC] at HF
      have HC := Lib.hid hC
      clear hC
      generalize bs (frBuf l) = T at *
      generalize bs l = S at *
      go_enter Try.func8, Try.ntmps8
      go_wp2_with (first
        | (go_at_call 18; refine (HPad.out _).mono ?_; rintro e w1 ⟨rfl, rfl⟩)
        | (go_at_call 9; refine (HF.out _).mono ?_; rintro e w2 ⟨rfl, b2⟩))
      go_ret2
      exact ⟨by rw [HU.out, ← HC.out]; rfl, HB3.out.trans (b2.mono (by simp))⟩
end Go.Proofs.Ytplplhaofedjcaa
