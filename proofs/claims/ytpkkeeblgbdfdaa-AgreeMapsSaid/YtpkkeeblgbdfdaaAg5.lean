/- Layer 32: an event's source, as the program looks it up. -/
import Derived.Test.YtpkkeeblgbdfdaaAg4
namespace Go.Proofs.Ytpkkeeblgbdfdaa
open Go.RowKit Go.Maps Go.WideMaps

def intO (o : Option Nat) : Option Value := o.map fun i => .int .i64 (i : Int)
theorem intO_get (o : Option Nat) : (intO o).getD (.int .i64 0) = .int .i64 ((o.getD 0 : Nat) : Int) ∧ (intO o).isSome = o.isSome := by cases o <;> exact ⟨rfl, rfl⟩
/-- A function of keys that speaks of marks. -/
def OfMarks (P : Program) (f : Lit → Option Value) (g : MarkV → Option Nat) : Prop := ∀ (m : MarkV) (kl : Lit), keyOf P 63 (.agg m.row.toArray) = some kl → f kl = intO (g m)
/-- Where an event's source is. -/
def sourceO (g : MarkV → Option Nat) (x : EvV) : Option Nat := if x.ki = 2 then g (markE 1 x) else if x.ki = 4 then g (markE 3 x) else if x.ki = 5 then g (markE 4 x) else none
set_option maxHeartbeats 4000000 in
set_option maxRecDepth 100000 in
theorem source_any {w : World} {p b n : Nat} {f : Lit → Option Value} {g : MarkV → Option Nat} {c0 c1 c2 c3 c5 : Value} (h : Holds w p 69 #[c0, c1, c2, c3, .map (some b), c5]) (hf : MapF w Try.prog 63 b n f) (hg : OfMarks Try.prog f g) (x : EvV) (hx : ∀ u ∈ x.row.toList, CellOk u) :
    Calls Try.prog 13 #[.pointer (some ⟨p, 0, none⟩), .agg x.row] w fun e w' => e = .returned (.tuple #[.int .i64 (((sourceO g x).getD 0 : Nat) : Int), .bool (sourceO g x).isSome]) ∧ Below w.heap.size w w' := by
  obtain ⟨W, hW⟩ : ∃ W, Hid (W = w.alloc (.cells x.row 37)) := ⟨_, Lib.hid rfl⟩
  have BW : Hid (Below w.heap.size w W) := by
    show Below _ _ _
    rw [hW.out]
    exact (Below.refl _ w).alloc (Nat.le_refl _) _
  have K1 : Hid (Holds W w.heap.size 37 x.row) := by
    show Holds _ _ _ _
    rw [hW.out]
    exact Holds.new w _ _
  have c0 : W.cell? ⟨w.heap.size, 0, none⟩ = some (.int .i64 x.ki) := (cell_heap K1.out 0).trans (EvV.row_ki x)
  have HMk : Hid (∀ W' kind, Calls Try.prog 20 #[.int .i64 kind, .agg x.row] W' fun e w' => e = .returned (.agg (markE kind x).row.toArray) ∧ Below W'.heap.size W' w') := fun W' kind => marked_any x kind W'
  have HLk : Hid (∀ W' kind, (Lit.int .i64 kind).wf = true → Below w.heap.size w W' → Calls Try.prog 19 #[.pointer (some ⟨p, 0, none⟩), .agg (markE kind x).row.toArray] W' fun e w' => e = .returned (.tuple #[.int .i64 (((g (markE kind x)).getD 0 : Nat) : Int), .bool (g (markE kind x)).isSome]) ∧ Below W'.heap.size W' w') := fun W' kind hk hb => by
    obtain ⟨kl, hkl⟩ := keyOf_mark (markE kind x) (markE_ok hk hx)
    rw [← (intO_get (g (markE kind x))).1, ← (intO_get (g (markE kind x))).2, ← hg _ _ hkl]
    exact lookUp_any ((hb.block p h.lt).trans h) (hf.below hb) (markE kind x) hkl
  have HS : Hid (x.row.size = 34) := rfl
  have HSx : Hid (∀ k m, x.ki = k → (k = 2 ∧ m = 1 ∨ k = 4 ∧ m = 3 ∨ k = 5 ∧ m = 4) → sourceO g x = g (markE m x)) := fun k m e hh => by
    unfold sourceO
    rw [e]
    rcases hh with ⟨rfl, rfl⟩ | ⟨rfl, rfl⟩ | ⟨rfl, rfl⟩ <;> rfl
  have HSn : Hid (x.ki ≠ 2 → x.ki ≠ 4 → x.ki ≠ 5 → sourceO g x = none) := fun h2 h4 h5 => by
    unfold sourceO
    rw [if_neg h2, if_neg h4, if_neg h5]
  clear h hf hg hx
  generalize x.row = R at *
  by_cases h2 : x.ki = 2
  · have HSo := Lib.hid (HSx.out 2 1 h2 (.inl ⟨rfl, rfl⟩))
    rw [h2] at c0
    clear HSx HSn h2
    go_enter Try.func13, Try.ntmps13
    go_upto_region 1 with fail
    rw [← hW.out]
    clear hW
    go_wp2_with (first
      | (refine wpList_load_row rfl 37 _ rfl w.heap.size rfl 37 R (0, 0) _ (by exact K1.out) Try.underlying37 rfl (by rw [HS.out]; exact sizeEvent) ?_)
      | (go_at_call 20; (with_reducible refine (HMk.out _ 1).mono ?_); rintro e w1 ⟨rfl, b1⟩; have B1 := Lib.hid (BW.out.trans (b1.mono BW.out.size)); clear b1)
      | (go_at_call 19; (with_reducible refine (HLk.out _ 1 rfl B1.out).mono ?_); rintro e w2 ⟨rfl, b2⟩; have B2 := Lib.hid (B1.out.trans (b2.mono B1.out.size)); clear b2))
    go_ret2
    exact ⟨by rw [HSo.out]; rfl, B2.out⟩
  have q2 : (x.ki == 2) = false := by rw [beq_eq_false_iff_ne]; exact h2
  by_cases h4 : x.ki = 4
  · have HSo := Lib.hid (HSx.out 4 3 h4 (.inr (.inl ⟨rfl, rfl⟩)))
    rw [h4] at c0
    clear HSx HSn h2 h4 q2
    go_enter Try.func13, Try.ntmps13
    go_upto_region 1 with fail
    rw [← hW.out]
    clear hW
    go_wp2_with (first
      | (refine wpList_load_row rfl 37 _ rfl w.heap.size rfl 37 R (0, 0) _ (by exact K1.out) Try.underlying37 rfl (by rw [HS.out]; exact sizeEvent) ?_)
      | (go_at_call 20; (with_reducible refine (HMk.out _ 3).mono ?_); rintro e w1 ⟨rfl, b1⟩; have B1 := Lib.hid (BW.out.trans (b1.mono BW.out.size)); clear b1)
      | (go_at_call 19; (with_reducible refine (HLk.out _ 3 rfl B1.out).mono ?_); rintro e w2 ⟨rfl, b2⟩; have B2 := Lib.hid (B1.out.trans (b2.mono B1.out.size)); clear b2))
    go_ret2
    exact ⟨by rw [HSo.out]; rfl, B2.out⟩
  have q4 : (x.ki == 4) = false := by rw [beq_eq_false_iff_ne]; exact h4
  by_cases h5 : x.ki = 5
  · have HSo := Lib.hid (HSx.out 5 4 h5 (.inr (.inr ⟨rfl, rfl⟩)))
    rw [h5] at c0
    clear HSx HSn h2 h4 h5 q2 q4
    go_enter Try.func13, Try.ntmps13
    go_upto_region 1 with fail
    rw [← hW.out]
    clear hW
    go_wp2_with (first
      | (refine wpList_load_row rfl 37 _ rfl w.heap.size rfl 37 R (0, 0) _ (by exact K1.out) Try.underlying37 rfl (by rw [HS.out]; exact sizeEvent) ?_)
      | (go_at_call 20; (with_reducible refine (HMk.out _ 4).mono ?_); rintro e w1 ⟨rfl, b1⟩; have B1 := Lib.hid (BW.out.trans (b1.mono BW.out.size)); clear b1)
      | (go_at_call 19; (with_reducible refine (HLk.out _ 4 rfl B1.out).mono ?_); rintro e w2 ⟨rfl, b2⟩; have B2 := Lib.hid (B1.out.trans (b2.mono B1.out.size)); clear b2))
    go_ret2
    exact ⟨by rw [HSo.out]; rfl, B2.out⟩
  have q5 : (x.ki == 5) = false := by rw [beq_eq_false_iff_ne]; exact h5
  have HSo := Lib.hid (HSn.out h2 h4 h5)
  clear HSx HSn h2 h4 h5 HMk HLk
  generalize x.ki = ki at *
  go_enter Try.func13, Try.ntmps13
  go_upto_region 1 with fail
  rw [← hW.out]
  clear hW
  go_wp2_with fail
  go_ret2
  exact ⟨by rw [HSo.out]; rfl, BW.out⟩
end Go.Proofs.Ytpkkeeblgbdfdaa
