/- Part 11 of what the statement wants. -/
import Derived.Laws.Rows
import Derived.RowKitTokens
import Derived.Test.YtgoinpibllomfaaDoorChecked
import Derived.LaidEql
import Derived.Stop.Asserts
import Derived.Tactics
import Derived.Tactics2
import Derived.Defers
import Derived.Recover
import Derived.Laws.Pointers
import Derived.Laws.EntriesVeiled
import Derived.Test.YtgoinpibllomfaaDoorPk00
import Derived.Test.YtgoinpibllomfaaDoorPk02
import Derived.Test.YtgoinpibllomfaaDoorPk06
import Derived.Test.YtgoinpibllomfaaDoorPk10
namespace Go.Proofs.YtgoinpibllomfaaDoor
open Go.RowKit

theorem nodup_bs (l : List (List UInt8)) : decide (l.map bs).Nodup = decide l.Nodup := by
  have h : (l.map bs).Nodup ↔ l.Nodup := by
    unfold List.Nodup
    rw [List.pairwise_map]
    exact ⟨fun h => h.imp fun hne e => hne (by rw [e]), fun h => h.imp fun hne e => hne (bs_inj e)⟩
  by_cases hn : l.Nodup
  · rw [decide_eq_true hn, decide_eq_true (h.2 hn)]
  · rw [decide_eq_false hn, decide_eq_false (fun e => hn (h.1 e))]
theorem all_iff {q : List UInt8 → Bool} {l : List (List UInt8)} : l.all q = true ↔ ∀ x ∈ l, q x = true := by rw [List.all_eq_true]
theorem isM_iff (x : List UInt8) : isM x = true ↔ methodP x ≠ 0 := by unfold isM; simp

set_option maxHeartbeats 1000000 in
set_option maxRecDepth 100000 in
theorem pfOne_any {w : World} (hT : Tab15 w) {v : Value} {l : List (List UInt8)} (h : TextsAt w v (l.map bs)) (hl : l.length ≤ maxLen) (hs : ∀ x ∈ l, x.length ≤ 1000000) (i : Nat) :
    Calls Tryd.prog 80 #[.int .i64 (i : Int), v] w fun e w' => e = .returned (.int .i64 (oneP i l)) ∧ Below w.heap.size w w' := by
  unfold oneP
  have HR := Lib.hid (fun (W : World) (hb : Below w.heap.size w W) => pfAllR_any (h.below hb) hl hs)
  have HM := Lib.hid (fun (W : World) (hb : Below w.heap.size w W) => pfAllM_any (hT.below hb) (h.below hb) hl hs)
  have HO := fun (hle : l.length ≤ 15) (W : World) (hb : Below w.heap.size w W) => nOnce_any (h.below hb) (by rw [List.length_map]; omega) (fun x hx => by obtain ⟨y, hy, rfl⟩ := List.mem_map.1 hx; rw [bs_size]; have := hs y hy; unfold maxLen; omega)
  rw [nodup_bs] at HO
  obtain ⟨ao, cap, rfl, _⟩ := h
  rw [List.length_map] at *
  unfold maxLen at hl
  have HB0 := Lib.hid (Below.refl w.heap.size w)
  by_cases h0 : l.length = 0
  · rw [if_pos h0]
    have q0 : ((l.length : Int) == 0) = true := by rw [beq_iff_eq]; omega
    clear HR HM HO hT hs
    go_enter Tryd.func80, Tryd.ntmps80
    go_wp2_with fail
    go_ret
    exact ⟨rfl, HB0.out⟩
  rw [if_neg h0]
  have q0 : ((l.length : Int) == 0) = false := by rw [beq_eq_false_iff_ne]; omega
  by_cases h15 : 15 < l.length
  · rw [if_pos h15]
    have q1 : decide ((l.length : Int) > 15) = true := decide_eq_true (by omega)
    clear HR HM HO hT hs h0
    go_enter Tryd.func80, Tryd.ntmps80
    go_wp2_with fail
    go_ret
    exact ⟨rfl, HB0.out⟩
  rw [if_neg h15]
  have q1 : decide ((l.length : Int) > 15) = false := decide_eq_false (by omega)
  have HO := Lib.hid (HO (by omega))
  cases hr : l.all rightL with
  | false =>
    rw [if_pos (fun hh => by rw [all_iff.2 hh.1] at hr; cases hr)]
    rw [hr] at HR
    clear HM HO hT hs h0 h15 hr
    go_enter Tryd.func80, Tryd.ntmps80
    go_wp2_with (go_at_call 92; (with_reducible refine (HR.out _ HB0.out).mono ?_); rintro e w1 ⟨rfl, b1⟩)
    go_ret
    exact ⟨rfl, b1⟩
  | true =>
  rw [hr] at HR
  have hra := all_iff.1 hr
  by_cases hn : l.Nodup
  · rw [if_neg (fun hh => hh ⟨hra, hn⟩)]
    rw [decide_eq_true hn] at HO
    by_cases hi : i = 0
    · subst hi
      cases hm : l.all isM with
      | false =>
        rw [if_pos ⟨rfl, fun hh => by rw [all_iff.2 (fun x hx => (isM_iff x).2 (hh x hx))] at hm; cases hm⟩]
        rw [hm] at HM
        clear hT hs h0 h15 hr hra hn hm
        go_enter Tryd.func80, Tryd.ntmps80
        go_wp2_with (first
          | (go_at_call 92; (with_reducible refine (HR.out _ HB0.out).mono ?_); rintro e w1 ⟨rfl, b1⟩)
          | (go_at_call 47; (with_reducible refine (HO.out _ b1).mono ?_); rintro e w2 ⟨rfl, b2⟩; have B2 := Lib.hid (b1.trans (b2.mono b1.size)))
          | (go_at_call 92; (with_reducible refine (HM.out _ B2.out).mono ?_); rintro e w3 ⟨rfl, b3⟩))
        go_ret
        exact ⟨rfl, B2.out.trans (b3.mono B2.out.size)⟩
      | true =>
        rw [if_neg (fun hh => hh.2 fun x hx => (isM_iff x).1 (all_iff.1 hm x hx))]
        rw [hm] at HM
        clear hT hs h0 h15 hr hra hn hm
        go_enter Tryd.func80, Tryd.ntmps80
        go_wp2_with (first
          | (go_at_call 92; (with_reducible refine (HR.out _ HB0.out).mono ?_); rintro e w1 ⟨rfl, b1⟩)
          | (go_at_call 47; (with_reducible refine (HO.out _ b1).mono ?_); rintro e w2 ⟨rfl, b2⟩; have B2 := Lib.hid (b1.trans (b2.mono b1.size)))
          | (go_at_call 92; (with_reducible refine (HM.out _ B2.out).mono ?_); rintro e w3 ⟨rfl, b3⟩))
        go_ret
        exact ⟨rfl, B2.out.trans (b3.mono B2.out.size)⟩
    · rw [if_neg (fun hh => hi hh.1)]
      have qi : ((i : Int) == 0) = false := by rw [beq_eq_false_iff_ne]; omega
      clear HM hT hs h0 h15 hr hra hn hi
      go_enter Tryd.func80, Tryd.ntmps80
      go_wp2_with (first
        | (go_at_call 92; (with_reducible refine (HR.out _ HB0.out).mono ?_); rintro e w1 ⟨rfl, b1⟩)
        | (go_at_call 47; (with_reducible refine (HO.out _ b1).mono ?_); rintro e w2 ⟨rfl, b2⟩; have B2 := Lib.hid (b1.trans (b2.mono b1.size))))
      go_ret
      exact ⟨rfl, B2.out⟩
  · rw [if_pos (fun hh => hn hh.2)]
    rw [decide_eq_false hn] at HO
    clear HM hT hs h0 h15 hr hra hn
    go_enter Tryd.func80, Tryd.ntmps80
    go_wp2_with (first
      | (go_at_call 92; (with_reducible refine (HR.out _ HB0.out).mono ?_); rintro e w1 ⟨rfl, b1⟩)
      | (go_at_call 47; (with_reducible refine (HO.out _ b1).mono ?_); rintro e w2 ⟨rfl, b2⟩; have B2 := Lib.hid (b1.trans (b2.mono b1.size))))
    go_ret
    exact ⟨rfl, B2.out⟩

end Go.Proofs.YtgoinpibllomfaaDoor

namespace Go.Proofs.YtgoinpibllomfaaDoor
open Go.RowKit

def agg8 (u : Nat → Value) : Value := .agg #[u 0, u 1, u 2, u 3, u 4, u 5, u 6, u 7]
set_option maxRecDepth 100000 in
theorem index8 (u : Nat → Value) : ∀ k : Nat, k < 8 → ∀ W : World, (Instr.index 115 (agg8 u) (.int .i64 (k : Int))).run Tryd.prog W = .ok (u k) W
  | 0, _ => fun _ => by kernel_rfl
  | 1, _ => fun _ => by kernel_rfl
  | 2, _ => fun _ => by kernel_rfl
  | 3, _ => fun _ => by kernel_rfl
  | 4, _ => fun _ => by kernel_rfl
  | 5, _ => fun _ => by kernel_rfl
  | 6, _ => fun _ => by kernel_rfl
  | 7, _ => fun _ => by kernel_rfl
  | k + 8, h => absurd h (by omega)
set_option maxHeartbeats 1000000 in
set_option maxRecDepth 100000 in
theorem pfEight_any {u : Nat → Value} (hu : ∀ k < 8, ∃ a n c, u k = .slice a n c) (w : World) : Calls Tryd.prog 78 #[agg8 u] w fun e w' => e = .returned (agg8 u) ∧ Below w.heap.size w w' := by
  unfold agg8
  obtain ⟨a0, n0, c0, e0⟩ := hu 0 (by omega)
  obtain ⟨a1, n1, c1, e1⟩ := hu 1 (by omega)
  obtain ⟨a2, n2, c2, e2⟩ := hu 2 (by omega)
  obtain ⟨a3, n3, c3, e3⟩ := hu 3 (by omega)
  obtain ⟨a4, n4, c4, e4⟩ := hu 4 (by omega)
  obtain ⟨a5, n5, c5, e5⟩ := hu 5 (by omega)
  obtain ⟨a6, n6, c6, e6⟩ := hu 6 (by omega)
  obtain ⟨a7, n7, c7, e7⟩ := hu 7 (by omega)
  rw [e0, e1, e2, e3, e4, e5, e6, e7]
  clear hu e0 e1 e2 e3 e4 e5 e6 e7 u
  have hR := heap_alloc_new (w.alloc (.cells #[.slice a0 n0 c0, .slice a1 n1 c1, .slice a2 n2 c2, .slice a3 n3 c3, .slice a4 n4 c4, .slice a5 n5 c5, .slice a6 n6 c6, .slice a7 n7 c7] 46)) (.cells #[.slice a0 n0 c0, .slice a1 n1 c1, .slice a2 n2 c2, .slice a3 n3 c3, .slice a4 n4 c4, .slice a5 n5 c5, .slice a6 n6 c6, .slice a7 n7 c7] 115)
  rw [World.size_alloc] at hR
  have HRr := Lib.hid hR
  clear hR
  go_enter Tryd.func78, Tryd.ntmps78
  go_wp2_with fail
  refine bodyPost_ret (results_cell_row rfl _ _ (w.heap.size + 1) _ _ (0, 0) _ rfl HRr.out Tryd.underlying115 rfl (by kernel_rfl)) rfl ?_
  exact ⟨rfl, ((Below.refl _ _).alloc (Nat.le_refl _) _).alloc (by simp) _⟩
end Go.Proofs.YtgoinpibllomfaaDoor

namespace Go.Proofs.YtgoinpibllomfaaDoor
open Go.RowKit Go.Extern.Stop Go.Stop Go.Extern

set_option maxRecDepth 100000
end Go.Proofs.YtgoinpibllomfaaDoor

namespace Go.Proofs.YtgoinpibllomfaaDoor
open Go.RowKit Go.Extern.Stop Go.Stop Go.Extern

end Go.Proofs.YtgoinpibllomfaaDoor

namespace Go.Proofs.YtgoinpibllomfaaDoor
open Go.RowKit Go.Extern.Stop Go.Stop Go.Extern

def TypeOfError (w : World) : Prop := 1 < w.heap.size ∧ w.cell? ⟨1, 0, none⟩ = some (.iface 141 (.agg #[.pointer (some ⟨4, 30, none⟩)]))
theorem TypeOfError.later {w w' : World} (h : TypeOfError w) (hb : Below w.heap.size w w') : TypeOfError w' := ⟨Nat.lt_of_lt_of_le h.1 hb.size, (hb.cell (p := ⟨1, 0, none⟩) h.1).trans h.2⟩

end Go.Proofs.YtgoinpibllomfaaDoor

namespace Go.Proofs.YtgoinpibllomfaaDoor
open Go.RowKit Go.Extern.Stop Go.Stop Go.Extern

end Go.Proofs.YtgoinpibllomfaaDoor

namespace Go.Proofs.YtgoinpibllomfaaDoor
open Go.RowKit Go.Extern.Stop Go.Stop Go.Extern

end Go.Proofs.YtgoinpibllomfaaDoor
