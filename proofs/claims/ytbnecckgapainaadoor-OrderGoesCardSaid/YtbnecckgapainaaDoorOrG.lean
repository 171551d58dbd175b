/- Layer 23: the names of phases and verdicts. -/
import Derived.Test.YtbnecckgapainaaDoorOrN
import Derived.Test.YtbnecckgapainaaDoorOrA
import Derived.Deep.RegionHeld3
import Derived.Deep.Cut
import Derived.Deep.RegionLaw
import Derived.BigQuiet
namespace Go.Proofs.YtbnecckgapainaaDoor
open Go.RowKit

def phaseL : List ByteArray := [⟨#[108, 105, 110, 101]⟩, ⟨#[105, 110, 105, 116]⟩, ⟨#[107, 101, 120]⟩, ⟨#[110, 101, 119]⟩, ⟨#[111, 112, 101, 110]⟩, ⟨#[100, 101, 97, 100]⟩]
def verdictL : List ByteArray := [⟨#[119, 114, 111, 110, 103]⟩, ⟨#[116, 97, 107, 101]⟩, ⟨#[112, 97, 115, 115]⟩, ⟨#[115, 116, 114, 97, 110, 103, 101]⟩, ⟨#[99, 108, 111, 115, 101]⟩]
def HoldsStrs (w : World) (g : Nat) (l : List ByteArray) : Prop := ∃ tt fr, w.heap[g]? = some (.cells (l.map Value.string).toArray tt fr)
structure Tab23 (w : World) : Prop where
  p : HoldsStrs w 0 phaseL
  v : HoldsStrs w 1 verdictL
theorem HoldsStrs.lt {w : World} {g : Nat} {l : List ByteArray} (h : HoldsStrs w g l) : g < w.heap.size := by
  obtain ⟨_, _, h⟩ := h
  exact Array.getElem?_eq_some_iff.1 h |>.1
theorem Tab23.below {w w' : World} (h : Tab23 w) (hb : Below w.heap.size w w') : Tab23 w' := by
  have l1 := h.p.lt
  have l2 := h.v.lt
  obtain ⟨⟨t1, f1, h1⟩, ⟨t2, f2, h2⟩⟩ := h
  exact ⟨⟨t1, f1, (hb.block _ l1).trans h1⟩, ⟨t2, f2, (hb.block _ l2).trans h2⟩⟩
theorem tab_cell23 {w : World} {g : Nat} {l : List ByteArray} (h : HoldsStrs w g l) {k : Nat} {x : ByteArray} (hx : l[k]? = some x) : w.cell? ⟨g, k, none⟩ = some (.string x) := by
  obtain ⟨tt, fr, hg⟩ := h
  simp [World.cell?, hg, hx]
set_option maxRecDepth 100000 in
theorem oPhase_any {w : World} (hT : Tab23 w) (z : Int) : Calls Tryd.prog 7 #[.int .i64 z] w fun e w' => e = .returned (.string (wordOf phaseL z)) ∧ w' = w := by
  by_cases h : 0 ≤ z ∧ z < 6
  · obtain ⟨k, rfl⟩ : ∃ k : Nat, z = k := ⟨z.toNat, by omega⟩
    have hk : k < (phaseL : List ByteArray).length := by show k < 6; omega
    have hc : w.cell? ⟨0, k, none⟩ = some (.string (wordOf phaseL (k : Int))) := tab_cell23 hT.p (wordOf_in hk)
    have q1 : decide ((k : Int) < 0) = false := decide_eq_false (by omega)
    have q2 : decide ((k : Int) ≥ 6) = false := decide_eq_false (by omega)
    have hn : k < 6 := by omega
    clear h hT hk
    generalize wordOf phaseL (k : Int) = S at *
    go_enter Tryd.func7, Tryd.ntmps7
    go_wp2_with fail
    go_ret
    exact ⟨rfl, rfl⟩
  · have ho : wordOf phaseL z = ⟨#[]⟩ := wordOf_out (by show z < 0 ∨ ((6 : Nat) : Int) ≤ z; omega)
    rw [ho]
    clear hT ho
    by_cases h0 : z < 0
    · have q1 : decide (z < 0) = true := decide_eq_true h0
      go_enter Tryd.func7, Tryd.ntmps7
      go_wp2_with fail
      go_ret
      exact ⟨rfl, rfl⟩
    · have q1 : decide (z < 0) = false := decide_eq_false h0
      have q2 : decide (z ≥ 6) = true := decide_eq_true (by omega)
      clear h
      go_enter Tryd.func7, Tryd.ntmps7
      go_wp2_with fail
      go_ret
      exact ⟨rfl, rfl⟩
set_option maxRecDepth 100000 in
theorem oVerdict_any {w : World} (hT : Tab23 w) (z : Int) : Calls Tryd.prog 9 #[.int .i64 z] w fun e w' => e = .returned (.string (wordOf verdictL z)) ∧ w' = w := by
  by_cases h : 0 ≤ z ∧ z < 5
  · obtain ⟨k, rfl⟩ : ∃ k : Nat, z = k := ⟨z.toNat, by omega⟩
    have hk : k < (verdictL : List ByteArray).length := by show k < 5; omega
    have hc : w.cell? ⟨1, k, none⟩ = some (.string (wordOf verdictL (k : Int))) := tab_cell23 hT.v (wordOf_in hk)
    have q1 : decide ((k : Int) < 0) = false := decide_eq_false (by omega)
    have q2 : decide ((k : Int) ≥ 5) = false := decide_eq_false (by omega)
    have hn : k < 5 := by omega
    clear h hT hk
    generalize wordOf verdictL (k : Int) = S at *
    go_enter Tryd.func9, Tryd.ntmps9
    go_wp2_with fail
    go_ret
    exact ⟨rfl, rfl⟩
  · have ho : wordOf verdictL z = ⟨#[]⟩ := wordOf_out (by show z < 0 ∨ ((5 : Nat) : Int) ≤ z; omega)
    rw [ho]
    clear hT ho
    by_cases h0 : z < 0
    · have q1 : decide (z < 0) = true := decide_eq_true h0
      go_enter Tryd.func9, Tryd.ntmps9
      go_wp2_with fail
      go_ret
      exact ⟨rfl, rfl⟩
    · have q1 : decide (z < 0) = false := decide_eq_false h0
      have q2 : decide (z ≥ 5) = true := decide_eq_true (by omega)
      clear h
      go_enter Tryd.func9, Tryd.ntmps9
      go_wp2_with fail
      go_ret
      exact ⟨rfl, rfl⟩
theorem texts_new23 (w : World) (l : List ByteArray) (t : TypeId) : TextsAt (w.alloc (.cells (l.map Value.string).toArray t)) (.slice (some ⟨w.heap.size, 0, none⟩) l.length l.length) l :=
  ⟨_, _, rfl, fun _ => ⟨_, 0, rfl, by simp, fun k x hk => by
    rw [Nat.zero_add, (Holds.new w t _).cell]
    simp [hk]⟩⟩
theorem may_during {n : Int} (h : mayB true n = true) : n < 50 := by
  unfold mayB at h
  rw [if_pos rfl, decide_eq_true_eq] at h
  omega
set_option maxHeartbeats 4000000 in
set_option maxRecDepth 100000 in
theorem OrderGoes_any {w : World} (hT : Tab23 w) (n p v : Int) (x : Bool) : Calls Tryd.prog 3 #[.agg #[.int .i64 n, .int .i64 p, .int .i64 v], .bool x] w fun e w' => e = .returned (.bool true) ∧ Below w.heap.size w w' := by
  have HA := Lib.hid awake23_any
  obtain ⟨b, hb⟩ : ∃ z, z = mayB x n := ⟨_, rfl⟩
  have H1 := Lib.hid (fun W => oMay_any W x n b hb)
  have H2 := Lib.hid (fun W => r23May_any W x n b hb)
  obtain ⟨d, hd⟩ : ∃ z, z = mayB true n := ⟨_, rfl⟩
  have H3 := Lib.hid (fun W => oMay_any W true n d hd)
  have hq : d = true → decide (n < 50) = true := fun e => decide_eq_true (may_during (by rw [← hd]; exact e))
  have qb : (b != b) = false := by simp
  have b0 : Below w.heap.size w (w.alloc (.cells #[.int .i64 n, .int .i64 p, .int .i64 v] 22)).drew := ((Below.refl _ _).alloc (Nat.le_refl _) _).drew
  have hX := Holds.new w 22 #[.int .i64 n, .int .i64 p, .int .i64 v]
  have y0 : (w.alloc (.cells #[.int .i64 n, .int .i64 p, .int .i64 v] 22)).cell? ⟨w.heap.size, 0, none⟩ = some (.int .i64 n) := (hX.cell 0).trans rfl
  have y1 : (w.alloc (.cells #[.int .i64 n, .int .i64 p, .int .i64 v] 22)).cell? ⟨w.heap.size, 1, none⟩ = some (.int .i64 p) := (hX.cell 1).trans rfl
  have y2 : (w.alloc (.cells #[.int .i64 n, .int .i64 p, .int .i64 v] 22)).cell? ⟨w.heap.size, 2, none⟩ = some (.int .i64 v) := (hX.cell 2).trans rfl
  have z0 : (w.alloc (.cells #[.int .i64 n, .int .i64 p, .int .i64 v] 22)).drew.cell? ⟨w.heap.size, 0, none⟩ = some (.int .i64 n) := y0
  have z1 : (w.alloc (.cells #[.int .i64 n, .int .i64 p, .int .i64 v] 22)).drew.cell? ⟨w.heap.size, 1, none⟩ = some (.int .i64 p) := y1
  have z2 : (w.alloc (.cells #[.int .i64 n, .int .i64 p, .int .i64 v] 22)).drew.cell? ⟨w.heap.size, 2, none⟩ = some (.int .i64 v) := y2
  have HP : Hid (∀ W, Below w.heap.size w W → Calls Tryd.prog 7 #[.int .i64 p] W fun e w' => e = .returned (.string (wordOf phaseL p)) ∧ w' = W) := fun W hb => oPhase_any (hT.below hb) p
  have HV : Hid (∀ W, Below w.heap.size w W → Calls Tryd.prog 9 #[.int .i64 v] W fun e w' => e = .returned (.string (wordOf verdictL v)) ∧ w' = W) := fun W hb => oVerdict_any (hT.below hb) v
  obtain ⟨Wd, hWd⟩ : ∃ Wd, Wd = (w.alloc (.cells #[.int .i64 n, .int .i64 p, .int .i64 v] 22)).drew := ⟨_, rfl⟩
  have bW : Below w.heap.size w Wd := by rw [hWd]; exact b0
  have c5 : Below Wd.heap.size Wd ((Wd.alloc (.cells #[.string ⟨#[108, 105, 110, 101]⟩, .string ⟨#[105, 110, 105, 116]⟩, .string ⟨#[107, 101, 120]⟩, .string ⟨#[110, 101, 119]⟩, .string ⟨#[111, 112, 101, 110]⟩, .string ⟨#[100, 101, 97, 100]⟩] 9)).alloc (.cells #[.string ⟨#[119, 114, 111, 110, 103]⟩, .string ⟨#[116, 97, 107, 101]⟩, .string ⟨#[112, 97, 115, 115]⟩, .string ⟨#[115, 116, 114, 97, 110, 103, 101]⟩, .string ⟨#[99, 108, 111, 115, 101]⟩] 9)) := ((Below.refl _ _).alloc (Nat.le_refl _) _).alloc (by simp) _
  have HR1 : Hid (Calls Tryd.prog 8 #[.slice (some ⟨Wd.heap.size, 0, none⟩) 6 6, .int .i64 p] ((Wd.alloc (.cells #[.string ⟨#[108, 105, 110, 101]⟩, .string ⟨#[105, 110, 105, 116]⟩, .string ⟨#[107, 101, 120]⟩, .string ⟨#[110, 101, 119]⟩, .string ⟨#[111, 112, 101, 110]⟩, .string ⟨#[100, 101, 97, 100]⟩] 9)).alloc (.cells #[.string ⟨#[119, 114, 111, 110, 103]⟩, .string ⟨#[116, 97, 107, 101]⟩, .string ⟨#[112, 97, 115, 115]⟩, .string ⟨#[115, 116, 114, 97, 110, 103, 101]⟩, .string ⟨#[99, 108, 111, 115, 101]⟩] 9)) fun e w' => e = .returned (.string (wordOf phaseL p)) ∧ w' = (Wd.alloc (.cells #[.string ⟨#[108, 105, 110, 101]⟩, .string ⟨#[105, 110, 105, 116]⟩, .string ⟨#[107, 101, 120]⟩, .string ⟨#[110, 101, 119]⟩, .string ⟨#[111, 112, 101, 110]⟩, .string ⟨#[100, 101, 97, 100]⟩] 9)).alloc (.cells #[.string ⟨#[119, 114, 111, 110, 103]⟩, .string ⟨#[116, 97, 107, 101]⟩, .string ⟨#[112, 97, 115, 115]⟩, .string ⟨#[115, 116, 114, 97, 110, 103, 101]⟩, .string ⟨#[99, 108, 111, 115, 101]⟩] 9)) :=
    r23Word_any ((texts_new23 Wd phaseL 9).below ((Below.refl _ _).alloc (Nat.le_refl _) (.cells #[.string ⟨#[119, 114, 111, 110, 103]⟩, .string ⟨#[116, 97, 107, 101]⟩, .string ⟨#[112, 97, 115, 115]⟩, .string ⟨#[115, 116, 114, 97, 110, 103, 101]⟩, .string ⟨#[99, 108, 111, 115, 101]⟩] 9))) (by decide) p _ rfl
  have HR2 : Hid (Calls Tryd.prog 8 #[.slice (some ⟨Wd.heap.size + 1, 0, none⟩) 5 5, .int .i64 v] ((Wd.alloc (.cells #[.string ⟨#[108, 105, 110, 101]⟩, .string ⟨#[105, 110, 105, 116]⟩, .string ⟨#[107, 101, 120]⟩, .string ⟨#[110, 101, 119]⟩, .string ⟨#[111, 112, 101, 110]⟩, .string ⟨#[100, 101, 97, 100]⟩] 9)).alloc (.cells #[.string ⟨#[119, 114, 111, 110, 103]⟩, .string ⟨#[116, 97, 107, 101]⟩, .string ⟨#[112, 97, 115, 115]⟩, .string ⟨#[115, 116, 114, 97, 110, 103, 101]⟩, .string ⟨#[99, 108, 111, 115, 101]⟩] 9)) fun e w' => e = .returned (.string (wordOf verdictL v)) ∧ w' = (Wd.alloc (.cells #[.string ⟨#[108, 105, 110, 101]⟩, .string ⟨#[105, 110, 105, 116]⟩, .string ⟨#[107, 101, 120]⟩, .string ⟨#[110, 101, 119]⟩, .string ⟨#[111, 112, 101, 110]⟩, .string ⟨#[100, 101, 97, 100]⟩] 9)).alloc (.cells #[.string ⟨#[119, 114, 111, 110, 103]⟩, .string ⟨#[116, 97, 107, 101]⟩, .string ⟨#[112, 97, 115, 115]⟩, .string ⟨#[115, 116, 114, 97, 110, 103, 101]⟩, .string ⟨#[99, 108, 111, 115, 101]⟩] 9)) := by
    have h0 := texts_new23 (Wd.alloc (.cells #[.string ⟨#[108, 105, 110, 101]⟩, .string ⟨#[105, 110, 105, 116]⟩, .string ⟨#[107, 101, 120]⟩, .string ⟨#[110, 101, 119]⟩, .string ⟨#[111, 112, 101, 110]⟩, .string ⟨#[100, 101, 97, 100]⟩] 9)) verdictL 9
    rw [World.size_alloc] at h0
    exact r23Word_any h0 (by decide) v _ rfl
  have B5 := Lib.hid (bW.trans (c5.mono bW.size))
  have HWd := Lib.hid hWd.symm
  obtain ⟨s1, s2⟩ : ((wordOf phaseL p).toList == (wordOf phaseL p).toList) = true ∧ ((wordOf phaseL p).toList != (wordOf phaseL p).toList) = false := by simp
  obtain ⟨s3, s4⟩ : ((wordOf verdictL v).toList == (wordOf verdictL v).toList) = true ∧ ((wordOf verdictL v).toList != (wordOf verdictL v).toList) = false := by simp
  clear hX hT hb hd hWd bW c5
  generalize wordOf phaseL p = SP at *
  generalize wordOf verdictL v = SV at *
  have hdc : d = false ∨ (d = true ∧ decide (n < 50) = true) := by cases d <;> simp_all
  clear hq
  rcases hdc with rfl | ⟨rfl, qn⟩
  all_goals
    go_enter Tryd.func3, Tryd.ntmps3
    go_upto_region 1 with fail
    go_region
    rw [HWd.out]
    go_wp2_with (first
      | (go_at_call 5; (with_reducible refine (H1.out _).mono ?_); rintro e w1 ⟨rfl, rfl⟩)
      | (go_at_call 6; (with_reducible refine (H2.out _).mono ?_); rintro e w2 ⟨rfl, rfl⟩)
      | (go_at_call 7; (with_reducible refine (HP.out _ B5.out).mono ?_); rintro e w3 ⟨rfl, rfl⟩)
      | (go_at_call 9; (with_reducible refine (HV.out _ B5.out).mono ?_); rintro e w3 ⟨rfl, rfl⟩)
      | (go_at_call 8; (with_reducible refine HR1.out.mono ?_); rintro e w4 ⟨rfl, rfl⟩)
      | (go_at_call 8; (with_reducible refine HR2.out.mono ?_); rintro e w4 ⟨rfl, rfl⟩)
      | (go_at_call 10; (with_reducible refine (HA.out _).mono ?_); rintro e w5 ⟨rfl, b5⟩; have C5 := B5.out.trans (b5.mono B5.out.size))
      | (go_at_call 5; (with_reducible refine (H3.out _).mono ?_); rintro e w6 ⟨rfl, rfl⟩)
      | fail)
    go_ret
    exact ⟨rfl, C5⟩
end Go.Proofs.YtbnecckgapainaaDoor
