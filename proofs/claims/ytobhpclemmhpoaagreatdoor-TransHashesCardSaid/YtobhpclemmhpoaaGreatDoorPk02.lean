/- Part 2 of what the statement wants. -/
import Derived.BigQuiet
import Derived.Maps.AppendAt
import Derived.KernelRfl
import Derived.Test.YtobhpclemmhpoaaGreatDoorPk00
import Derived.Test.YtobhpclemmhpoaaGreatDoorPk01
namespace Go.Proofs.YtobhpclemmhpoaaGreatDoor
open Go.RowKit

theorem belN {B : Nat} {a b : World} (h : Below B a b) (n : Nat) : Below B a (b.drewN n) := ⟨h.os, h.tape, h.output, h.size, h.block⟩
/-- The byte at a place; 0 behind the end. -/
def byteAt (d : List UInt8) (k : Nat) : Nat := (d.getD k 0).toNat
def numAt (d : List UInt8) (k : Nat) : Nat := byteAt d k * 16777216 + byteAt d (k + 1) * 65536 + byteAt d (k + 2) * 256 + byteAt d (k + 3)
def num4P (d : List UInt8) (k : Nat) : Nat × Bool := if k + 4 ≤ d.length then (numAt d k, true) else (0, false)
/-- A part of a text. -/
def cutL (d : List UInt8) (a b : Nat) : List UInt8 := (d.take b).drop a
def text4P (d : List UInt8) (k : Nat) : List UInt8 × Nat × Bool := if k + 4 ≤ d.length ∧ k + 4 + numAt d k ≤ d.length then (cutL d (k + 4) (k + 4 + numAt d k), k + 4 + numAt d k, true) else ([], k, false)
theorem byteAt_lt (d : List UInt8) (k : Nat) : byteAt d k < 256 := UInt8.toNat_lt _
theorem numAt_lt (d : List UInt8) (k : Nat) : numAt d k < 4294967296 := by
  unfold numAt
  have := byteAt_lt d k; have := byteAt_lt d (k + 1); have := byteAt_lt d (k + 2); have := byteAt_lt d (k + 3)
  omega
theorem index_at (d : List UInt8) (k : Nat) (hk : k < d.length) (W : World) : (Instr.index 9 (.string (bs d)) (.int .i64 (k : Int))).run Tryz.prog W = .ok (.int .u8 (byteAt d k : Int)) W := by
  rw [index_bs d k hk W]
  have : d.getD k 0 = d[k] := by simp [List.getD, hk]
  unfold byteAt
  rw [this]
theorem bs_part (d : List UInt8) (a b : Nat) : (bs d).extract a b = bs (cutL d a b) := by
  unfold cutL
  apply ByteArray.ext
  apply Array.toList_inj.1
  rw [ByteArray.data_extract, Array.toList_extract]
  simp only [bs, List.extract]
  rw [List.drop_take]
theorem slice_at (d : List UInt8) (a b : Nat) (h : a ≤ b) (hb : b ≤ d.length) (W : World) : (Instr.slice 9 (.string (bs d)) (some (.int .i64 (a : Int))) (some (.int .i64 (b : Int))) none).run Tryz.prog W = .ok (.string (bs (cutL d a b))) W := by
  rw [run_slice_string W 9 (bs d) .i64 .i64 a b Tryz.underlying9 (by omega) (by omega) (by rw [bs_size]; omega)]
  rw [← bs_part]
  rfl

set_option maxRecDepth 100000 in
theorem num4_any (d : List UInt8) (k : Nat) (hk : k ≤ d.length) (hd : d.length ≤ 1000000) (w : World) : Calls Tryz.prog 89 #[.string (bs d), .int .i64 (k : Int)] w fun e w' => e = .returned (.tuple #[.int .i64 ((num4P d k).1 : Int), .bool (num4P d k).2]) ∧ Below w.heap.size w w' := by
  have hsz := bs_size d
  by_cases h : k + 4 ≤ d.length
  · have HE : Hid (num4P d k = (numAt d k, true)) := if_pos h
    have HN : Hid (numAt d k = byteAt d k * 16777216 + byteAt d (k + 1) * 65536 + byteAt d (k + 2) * 256 + byteAt d (k + 3)) := rfl
    rw [HE.out]
    have i0 := fun W => index_at d k (by omega) W
    have i1 : ∀ W : World, (Instr.index 9 (.string (bs d)) (.int .i64 ((k : Int) + 1))).run Tryz.prog W = _ := fun W => index_at d (k + 1) (by omega) W
    have i2 : ∀ W : World, (Instr.index 9 (.string (bs d)) (.int .i64 ((k : Int) + 2))).run Tryz.prog W = _ := fun W => index_at d (k + 2) (by omega) W
    have i3 : ∀ W : World, (Instr.index 9 (.string (bs d)) (.int .i64 ((k : Int) + 3))).run Tryz.prog W = _ := fun W => index_at d (k + 3) (by omega) W
    have b0 := byteAt_lt d k
    have b1 := byteAt_lt d (k + 1)
    have b2 := byteAt_lt d (k + 2)
    have b3 := byteAt_lt d (k + 3)
    have q : decide ((d.length : Int) - (k : Int) < 4) = false := decide_eq_false (by omega)
    generalize byteAt d k = c0 at *
    generalize byteAt d (k + 1) = c1 at *
    generalize byteAt d (k + 2) = c2 at *
    generalize byteAt d (k + 3) = c3 at *
    generalize numAt d k = n at *
    generalize bs d = S at *
    generalize d.length = m at *
    go_enter Tryz.func89, Tryz.ntmps89
    go_wp2_with fail
    go_quiet (fail)
    go_wp2
    go_ret2
    exact ⟨by rw [HN.out]; simp, belN (Below.refl _ _) _⟩
  · have HE : Hid (num4P d k = (0, false)) := if_neg h
    rw [HE.out]
    have q : decide ((d.length : Int) - (k : Int) < 4) = true := decide_eq_true (by omega)
    generalize bs d = S at *
    generalize d.length = m at *
    go_enter Tryz.func89, Tryz.ntmps89
    go_wp2
    go_ret2
    exact ⟨rfl, Below.refl _ _⟩

set_option maxRecDepth 100000 in
theorem text4_any (d : List UInt8) (k : Nat) (hk : k ≤ d.length) (hd : d.length ≤ 1000000) (w : World) : Calls Tryz.prog 88 #[.string (bs d), .int .i64 (k : Int)] w fun e w' => e = .returned (.tuple #[.string (bs (text4P d k).1), .int .i64 ((text4P d k).2.1 : Int), .bool (text4P d k).2.2]) ∧ Below w.heap.size w w' := by
  have hsz := bs_size d
  have HN := Lib.hid (fun W => num4_any d k hk hd W)
  by_cases h : k + 4 ≤ d.length
  · have h1 : num4P d k = (numAt d k, true) := if_pos h
    rw [h1] at HN
    simp only at HN
    have hlt := numAt_lt d k
    by_cases h2 : k + 4 + numAt d k ≤ d.length
    · have HE : Hid (text4P d k = (cutL d (k + 4) (k + 4 + numAt d k), k + 4 + numAt d k, true)) := if_pos ⟨h, h2⟩
      rw [HE.out]
      have s1 : ∀ W : World, (Instr.slice 9 (.string (bs d)) (some (.int .i64 ((k : Int) + 4))) (some (.int .i64 ((k : Int) + 4 + (numAt d k : Int)))) none).run Tryz.prog W = _ := fun W => slice_at d (k + 4) (k + 4 + numAt d k) (by omega) (by omega) W
      have q : decide ((numAt d k : Int) > (d.length : Int) - (k : Int) - 4) = false := decide_eq_false (by omega)
      simp only
      generalize bs (cutL d (k + 4) (k + 4 + numAt d k)) = C at *
      clear h1 HE
      generalize numAt d k = n at *
      generalize bs d = S at *
      generalize d.length = m at *
      go_enter Tryz.func88, Tryz.ntmps88
      go_wp2_with (go_at_call 89; refine (HN.out _).mono ?_; rintro e w1 ⟨rfl, b1⟩)
      refine bodyPost_ret (results_tmp3 rfl _ _ _) rfl ?_
      exact ⟨rfl, b1⟩
    · have HE : Hid (text4P d k = ([], k, false)) := if_neg (fun hh => h2 hh.2)
      rw [HE.out]
      have q : decide ((numAt d k : Int) > (d.length : Int) - (k : Int) - 4) = true := decide_eq_true (by omega)
      clear h1 HE
      generalize numAt d k = n at *
      generalize bs d = S at *
      generalize d.length = m at *
      go_enter Tryz.func88, Tryz.ntmps88
      go_wp2_with (go_at_call 89; refine (HN.out _).mono ?_; rintro e w1 ⟨rfl, b1⟩)
      refine bodyPost_ret (results_tmp3 rfl _ _ _) rfl ?_
      exact ⟨rfl, b1⟩
  · have h1 : num4P d k = (0, false) := if_neg h
    rw [h1] at HN
    simp only at HN
    have HE : Hid (text4P d k = ([], k, false)) := if_neg (fun hh => h hh.1)
    rw [HE.out]
    clear h1 HE
    generalize bs d = S at *
    generalize d.length = m at *
    go_enter Tryz.func88, Tryz.ntmps88
    go_wp2_with (go_at_call 89; refine (HN.out _).mono ?_; rintro e w1 ⟨rfl, b1⟩)
    refine bodyPost_ret (results_tmp3 rfl _ _ _) rfl ?_
    exact ⟨rfl, b1⟩
end Go.Proofs.YtobhpclemmhpoaaGreatDoor

namespace Go.Proofs.YtobhpclemmhpoaaGreatDoor
open Go.RowKit

structure RNode where
  k : Int
  a : Nat
  b : Nat
  s : List UInt8
  args : List (List UInt8)
def rnodeV (x : RNode) (v : Value) : Value := .agg #[.int .i64 x.k, .int .i64 (x.a : Int), .int .i64 (x.b : Int), .string (bs x.s), v]
def lessL (x y : List UInt8) : Bool := Op.bytesLess x y
/-- Is the argument at a place a nonce, and not before the one ahead of it? -/
def stepOk (l : List (List UInt8)) (i : Nat) : Bool := decide (kindL (l.getD i []) = 2) && (decide (i = 0) || !lessL (l.getD i []) (l.getD (i - 1) []))
def sharesOk (l : List (List UInt8)) : Bool := (List.range l.length).all (stepOk l)
def rightP (x : RNode) : Bool :=
  if x.k = 2 ∨ x.k = 3 then numZ x.a && numZ x.b
  else if x.k = 4 then decide (kindL (x.args.headD []) = 3)
  else if x.k = 5 then sharesOk x.args && textL x.s 2100
  else if x.k = 6 then textL x.s 64 && decide (kindL (x.args.headD []) = 3)
  else true
theorem less_bs (x y : List UInt8) : Op.bytesLess (bs x).toList (bs y).toList = lessL x y := by
  rw [ByteArray.toList_eq, ByteArray.toList_eq]
  simp [bs, lessL]
theorem kind_eq (n k : Nat) : (((n : Nat) : Int) == (k : Int)) = decide (n = k) := by
  by_cases h : n = k
  · simp [h]
  · rw [decide_eq_false h, beq_eq_false_iff_ne]; omega
theorem sharesOk_all {l : List (List UInt8)} (h : ∀ j, j < l.length → stepOk l j = true) : sharesOk l = true := by
  unfold sharesOk
  rw [List.all_eq_true]
  intro j hj
  exact h j (by simpa using hj)
theorem sharesOk_not {l : List (List UInt8)} {j : Nat} (hj : j < l.length) (h : stepOk l j = false) : sharesOk l = false := by
  unfold sharesOk
  rw [List.all_eq_false]
  exact ⟨j, by simpa using hj, by simp [h]⟩

set_option maxRecDepth 100000 in
theorem right_num (k : Int) (hk : k = 2 ∨ k = 3) (a b : Nat) (s : ByteArray) (v : Value) (w : World) :
    Calls Tryz.prog 90 #[.agg #[.int .i64 k, .int .i64 (a : Int), .int .i64 (b : Int), .string s, v]] w fun e w' => e = .returned (.bool (numZ a && numZ b)) ∧ Below w.heap.size w w' := by
  have HA := Lib.hid (fun W => rnumber_any (a : Int) W)
  have HB := Lib.hid (fun W => rnumber_any (b : Int) W)
  have hbel := (Below.refl w.heap.size w).alloc (Nat.le_refl _) (.cells #[.int .i64 k, .int .i64 (a : Int), .int .i64 (b : Int), .string s, v] 118)
  have HBel := Lib.hid hbel
  clear hbel
  generalize numZ (b : Int) = pb at *
  generalize (b : Int) = zb at *
  cases hna : numZ (a : Int) with
  | true =>
    rw [hna] at HA
    clear hna
    generalize (a : Int) = za at *
    rcases hk with rfl | rfl
    all_goals
      go_enter Tryz.func90, Tryz.ntmps90
      go_wp2_with (first
        | (go_at_call 74; with_reducible refine (HA.out _).mono ?_; rintro e w1 ⟨rfl, rfl⟩)
        | (go_at_call 74; with_reducible refine (HB.out _).mono ?_; rintro e w1 ⟨rfl, rfl⟩))
      go_ret
      exact ⟨by simp, HBel.out⟩
  | false =>
    rw [hna] at HA
    clear hna
    generalize (a : Int) = za at *
    rcases hk with rfl | rfl
    all_goals
      go_enter Tryz.func90, Tryz.ntmps90
      go_wp2_with (first
        | (go_at_call 74; with_reducible refine (HA.out _).mono ?_; rintro e w1 ⟨rfl, rfl⟩)
        | (go_at_call 74; with_reducible refine (HB.out _).mono ?_; rintro e w1 ⟨rfl, rfl⟩))
      go_ret
      exact ⟨by simp, HBel.out⟩

set_option maxRecDepth 100000 in
theorem right_pub (a b : Int) (s : ByteArray) (y : List UInt8) (n c bb off : Nat) (w : World) (hn : 0 < n) (hb : bb < w.heap.size) (hc : w.cell? ⟨bb, off, none⟩ = some (.string (bs y))) :
    Calls Tryz.prog 90 #[.agg #[.int .i64 4, .int .i64 a, .int .i64 b, .string s, .slice (some ⟨bb, off, none⟩) n c]] w fun e w' => e = .returned (.bool (decide (kindL y = 3))) ∧ Below w.heap.size w w' := by
  have HK := Lib.hid (fun W => refKind_any y W)
  have hbel := (Below.refl w.heap.size w).alloc (Nat.le_refl _) (.cells #[.int .i64 4, .int .i64 a, .int .i64 b, .string s, .slice (some ⟨bb, off, none⟩) n c] 118)
  have HBel := Lib.hid hbel
  have c1 := (hbel.cell (p := ⟨bb, off, none⟩) hb).trans hc
  have HE := Lib.hid (kind_eq (kindL y) 3)
  clear hbel hc
  generalize bs y = Y at *
  generalize kindL y = m at *
  go_enter Tryz.func90, Tryz.ntmps90
  go_wp2_with (go_at_call 75; with_reducible refine (HK.out _).mono ?_; rintro e w1 ⟨rfl, rfl⟩)
  go_ret
  exact ⟨by rw [← HE.out]; rfl, HBel.out⟩

set_option maxRecDepth 100000 in
theorem right_sign (a b : Int) (s : List UInt8) (y : List UInt8) (n c bb off : Nat) (w : World) (hn : 0 < n) (hb : bb < w.heap.size) (hc : w.cell? ⟨bb, off, none⟩ = some (.string (bs y))) :
    Calls Tryz.prog 90 #[.agg #[.int .i64 6, .int .i64 a, .int .i64 b, .string (bs s), .slice (some ⟨bb, off, none⟩) n c]] w fun e w' => e = .returned (.bool (textL s 64 && decide (kindL y = 3))) ∧ Below w.heap.size w w' := by
  have HK := Lib.hid (fun W => refKind_any y W)
  have HT := Lib.hid (fun W => text_any s 64 W)
  have hbel := (Below.refl w.heap.size w).alloc (Nat.le_refl _) (.cells #[.int .i64 6, .int .i64 a, .int .i64 b, .string (bs s), .slice (some ⟨bb, off, none⟩) n c] 118)
  have HBel := Lib.hid hbel
  have c1 := (hbel.cell (p := ⟨bb, off, none⟩) hb).trans hc
  have HE := Lib.hid (kind_eq (kindL y) 3)
  clear hbel hc
  cases ht : textL s 64 with
  | true =>
    rw [ht] at HT
    clear ht
    generalize bs y = Y at *
    generalize kindL y = m at *
    generalize bs s = S at *
    go_enter Tryz.func90, Tryz.ntmps90
    go_wp2_with (first
      | (go_at_call 76; with_reducible refine (HT.out _).mono ?_; rintro e w1 ⟨rfl, rfl⟩)
      | (go_at_call 75; with_reducible refine (HK.out _).mono ?_; rintro e w1 ⟨rfl, rfl⟩))
    go_ret
    exact ⟨by rw [Bool.true_and, ← HE.out]; rfl, HBel.out⟩
  | false =>
    rw [ht] at HT
    clear ht
    generalize bs y = Y at *
    generalize kindL y = m at *
    generalize bs s = S at *
    go_enter Tryz.func90, Tryz.ntmps90
    go_wp2_with (first
      | (go_at_call 76; with_reducible refine (HT.out _).mono ?_; rintro e w1 ⟨rfl, rfl⟩)
      | (go_at_call 75; with_reducible refine (HK.out _).mono ?_; rintro e w1 ⟨rfl, rfl⟩))
    go_ret
    exact ⟨by simp, HBel.out⟩

set_option maxRecDepth 100000 in
theorem right_other (k : Int) (hk : ∀ j : Int, 2 ≤ j → j ≤ 6 → (k == j) = false) (a b : Int) (s : ByteArray) (v : Value) (w : World) :
    Calls Tryz.prog 90 #[.agg #[.int .i64 k, .int .i64 a, .int .i64 b, .string s, v]] w fun e w' => e = .returned (.bool true) ∧ Below w.heap.size w w' := by
  have q2 := hk 2 (by omega) (by omega)
  have q3 := hk 3 (by omega) (by omega)
  have q4 := hk 4 (by omega) (by omega)
  have q5 := hk 5 (by omega) (by omega)
  have q6 := hk 6 (by omega) (by omega)
  have HBel := Lib.hid ((Below.refl w.heap.size w).alloc (Nat.le_refl _) (.cells #[.int .i64 k, .int .i64 a, .int .i64 b, .string s, v] 118))
  clear hk
  go_enter Tryz.func90, Tryz.ntmps90
  go_wp2
  go_ret
  exact ⟨rfl, HBel.out⟩
end Go.Proofs.YtobhpclemmhpoaaGreatDoor

namespace Go.Proofs.YtobhpclemmhpoaaGreatDoor
open Go.RowKit

set_option maxRecDepth 100000 in
theorem right_share {w : World} {v : Value} (a b : Int) (s : List UInt8) {l : List (List UInt8)} (h : TextsAt w v (l.map bs)) (hl : l.length ≤ 1000) :
    Calls Tryz.prog 90 #[.agg #[.int .i64 5, .int .i64 a, .int .i64 b, .string (bs s), v]] w fun e w' => e = .returned (.bool (sharesOk l && textL s 2100)) ∧ Below w.heap.size w w' := by
  have hbel := (Below.refl w.heap.size w).alloc (Nat.le_refl _) (.cells #[.int .i64 5, .int .i64 a, .int .i64 b, .string (bs s), v] 118)
  have HBel := Lib.hid hbel
  have hN : Holds (w.alloc (.cells #[.int .i64 5, .int .i64 a, .int .i64 b, .string (bs s), v] 118)) w.heap.size 118 #[.int .i64 5, .int .i64 a, .int .i64 b, .string (bs s), v] := Holds.new w _ _
  have HN := Lib.hid hN
  have HKg := Lib.hid (fun (x : List UInt8) (W : World) => refKind_any x W)
  have HT := Lib.hid (fun W => text_any s 2100 W)
  obtain ⟨ao, cap, rfl, hc⟩ := h
  rw [List.length_map] at *
  have HC := Lib.hid hc
  clear hbel hc hN
  generalize bs s = S at *
  generalize textL s 2100 = tx at *
  go_enter Tryz.func90, Tryz.ntmps90
  go_wp2_with fail
  go_loopw [3] (fun i wr => ∃ k : Nat, k ≤ l.length ∧ i = .int .i64 k ∧ (∀ j, j < k → stepOk l j = true) ∧ Holds wr w.heap.size 118 #[.int .i64 5, .int .i64 a, .int .i64 b, .string S, .slice ao l.length cap] ∧ Below w.heap.size w wr) (fun i _ => l.length - (intOf i).toNat)
  case atStart => exact ⟨0, Nat.zero_le _, rfl, by simp, HN.out, HBel.out⟩
  case round =>
    obtain ⟨k, hk, rfl, hall, hn, hbel⟩ := hrel
    have c4 := Holds.cell hn 4
    have c3 := Holds.cell hn 3
    have HN2 := Lib.hid hn
    have HAll := Lib.hid hall
    have HB2 := Lib.hid hbel
    clear hall HBel HN
    by_cases hlt : k < l.length
    · obtain ⟨bb, off, rfl, hb, hcell⟩ := HC.out (by intro h; simp at h; simp [h] at hlt)
      obtain ⟨y, hy⟩ : ∃ y, y = l[k] := ⟨_, rfl⟩
      have hgk : l.getD k [] = y := by simp [List.getD, hlt, hy]
      have c1 : wr.cell? ⟨bb, off + k, none⟩ = some (.string (bs y)) := (hbel.cell (p := ⟨bb, off + k, none⟩) hb).trans (hcell k (bs y) (by simp [hlt, hy]))
      have HK := Lib.hid (fun W => HKg.out y W)
      have HStep : Hid (stepOk l k = true → ∀ j, j < k + 1 → stepOk l j = true) := fun e j hj => by
        by_cases hjk : j = k
        · rw [hjk]; exact e
        · exact HAll.out j (by omega)
      have HNo : Hid (stepOk l k = false → sharesOk l = false) := fun e => sharesOk_not hlt e
      by_cases h2 : kindL y = 2
      · rw [h2] at HK
        by_cases h0 : k = 0
        · subst h0
          have HS : Hid (stepOk l 0 = true) := by show stepOk l 0 = true; unfold stepOk; rw [hgk, h2]; rfl
          have c1' : wr.cell? ⟨bb, off, none⟩ = some (.string (bs y)) := c1
          clear hgk hy hcell HKg HC HT hbel hn h2
          generalize bs y = Y at *
          go_wp2_with fail
          go_quiet (first | (go_at_call 75; refine Calls.quiet_of_same (HK.out _)))
          go_wp2_with fail
          go_roundw
          case rel => exact ⟨1, by omega, by go_num, HStep.out HS.out, HN2.out, belN HB2.out _⟩
          case measure => simp [intOf]; omega
        · obtain ⟨z, hz⟩ : ∃ z, z = l[k - 1] := ⟨_, rfl⟩
          have hgz : l.getD (k - 1) [] = z := by
            have : k - 1 < l.length := by omega
            simp [List.getD, this, hz]
          have c2 : wr.cell? ⟨bb, off + (k - 1), none⟩ = some (.string (bs z)) := (hbel.cell (p := ⟨bb, off + (k - 1), none⟩) hb).trans (hcell (k - 1) (bs z) (by
            have : k - 1 < l.length := by omega
            simp [this, hz]))
          have hq := less_bs y z
          have hx : Hid (stepOk l k = !lessL y z) := by
            show stepOk l k = _
            unfold stepOk
            rw [hgk, hgz, h2, decide_eq_false h0]
            simp
          have hkpos : decide ((k : Int) > 0) = true := decide_eq_true (by omega)
          have hkn : decide (0 < k) = true := decide_eq_true (by omega)
          have hk1 : (k : Int) - 1 = ((k - 1 : Nat) : Int) := by omega
          cases hle : lessL y z with
          | true =>
            rw [hle] at hq hx
            have HS := Lib.hid (HNo.out hx.out)
            clear hgk hy hgz hz hcell HKg HC HT hbel hn h2 hx hle HStep HNo
            generalize bs y = Y at *
            generalize bs z = Z at *
            go_wp2_with fail
            go_quiet (first | (go_at_call 75; refine Calls.quiet_of_same (HK.out _)))
            go_wp2_with fail
            go_ret
            exact ⟨by rw [HS.out]; rfl, belN HB2.out _⟩
          | false =>
            rw [hle] at hq hx
            have HS := Lib.hid (HStep.out hx.out)
            clear hgk hy hgz hz hcell HKg HC HT hbel hn h2 hx hle HStep HNo
            generalize bs y = Y at *
            generalize bs z = Z at *
            go_wp2_with fail
            go_quiet (first | (go_at_call 75; refine Calls.quiet_of_same (HK.out _)))
            go_wp2_with fail
            go_roundw
            case rel => exact ⟨k + 1, by omega, by go_num, HS.out, HN2.out, belN HB2.out _⟩
            case measure => simp [intOf]; omega
      · have HS : Hid (sharesOk l = false) := HNo.out (by
          unfold stepOk
          rw [hgk, decide_eq_false h2]
          rfl)
        have hqb : ((kindL y : Int) != 2) = true := by rw [bne_iff_ne]; omega
        clear hgk hy hcell HKg HC HT hbel hn h2 HStep HNo
        generalize bs y = Y at *
        generalize kindL y = m at *
        go_wp2_with fail
        go_quiet (first | (go_at_call 75; refine Calls.quiet_of_same (HK.out _)))
        go_wp2_with fail
        go_ret
        exact ⟨by rw [HS.out]; rfl, belN HB2.out _⟩
    · have hkl : k = l.length := by omega
      have HS := Lib.hid (sharesOk_all (l := l) (fun j hj => HAll.out j (by omega)))
      subst hkl
      clear HC HKg hbel hn HAll hlt
      go_wp2_with (go_at_call 76; with_reducible refine (HT.out _).mono ?_; rintro e w1 ⟨rfl, rfl⟩)
      go_ret
      exact ⟨by rw [HS.out]; rfl, HB2.out⟩
end Go.Proofs.YtobhpclemmhpoaaGreatDoor

namespace Go.Proofs.YtobhpclemmhpoaaGreatDoor
open Go.RowKit

def strs (l : List ByteArray) : List Value := l.map Value.string
theorem strs_snoc (l : List ByteArray) (x : ByteArray) : strs (l ++ [x]) = strs l ++ [.string x] := by simp [strs]
/-- A row of the call's own that holds strings reads as them. -/
theorem TextsAt.ofRow {w : World} {base : Nat} {v : Value} {l : List ByteArray} (h : w.ownsRow base 9 1 v l.length (strs l)) (hn : l = [] → v = .slice none 0 0) : TextsAt w v l := by
  by_cases hl : l = []
  · subst hl
    rw [hn rfl]
    exact TextsAt.nil w
  · have hown := h
    obtain ⟨_, hcase⟩ := h
    rcases hcase with ⟨_, h0⟩ | ⟨g, cap', cur, rfl, hg, hh, hn, hcap, hsz, htake⟩
    · exact absurd (List.length_eq_zero_iff.1 h0) hl
    · refine ⟨some ⟨g, 0, none⟩, cap', rfl, fun _ => ⟨g, 0, rfl, (Array.getElem?_eq_some_iff.1 hh).1, fun k x hk => ?_⟩⟩
      have hk' := (List.getElem?_eq_some_iff.1 hk).1
      rw [Nat.zero_add, hown.cellAt k (by omega)]
      simp [strs, hk]
theorem infoStr : (Tryz.prog.info? 9).map (fun i => (i.zero, i.size, i.bytes)) = some (some (.string ⟨#[]⟩), 1, 16) := by kernel_rfl
theorem str_one (x : ByteArray) : ∀ u ∈ [Value.string x], u.oneCell' = true := by simp [Value.oneCell']
end Go.Proofs.YtobhpclemmhpoaaGreatDoor
