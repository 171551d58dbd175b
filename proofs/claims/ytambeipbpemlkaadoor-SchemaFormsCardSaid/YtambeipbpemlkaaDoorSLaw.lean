/- The walks of SchemaForms and SchemaWords. -/
import Derived.Test.YtambeipbpemlkaaDoorSOf
import Derived.Test.YtambeipbpemlkaaDoorNSm
import Derived.Deep.RegionHeld3
namespace Go.Proofs.YtambeipbpemlkaaDoor
open Go.RowKit

/-! ### SchemaForms -/
/-- What the law's memory keeps. -/
structure SInv (B N : Nat) (w : World) (z : Int) (X : ByteArray) (u : Value) (l : List ByteArray) (W : World) : Prop where
  row : Holds W N 46 #[.int .i64 z, .string X, u]
  texts : TextsAt W u l
  tab : TabAt W
  below : Below B w W
  big : B ≤ N
theorem SInv.keep {B N : Nat} {w : World} {z : Int} {X : ByteArray} {u : Value} {l : List ByteArray} {W W' : World} (h : SInv B N w z X u l W) (hb : Below W.heap.size W W') : SInv B N w z X u l W' ∧ W'.cell? ⟨N, 1, none⟩ = some (.string X) ∧ W'.cell? ⟨N, 2, none⟩ = some u := by
  have hr := Holds.moves h.row (Moves.ofBelow (S := nobody) hb) (fun h => h)
  exact ⟨⟨hr, h.texts.below hb, h.tab.below hb, h.below.trans (hb.mono (by have := h.row.lt; have := h.big; omega)), h.big⟩, by simpa using hr.cell 1, by simpa using hr.cell 2⟩

set_option maxHeartbeats 4000000 in
set_option maxRecDepth 100000 in
theorem schemaForms_any {w : World} (hT : TabAt w) (n m : Int) : Calls Tryd.prog 6 #[.int .i64 n, .int .i64 m] w fun e w' => e = .returned (.bool true) ∧ Below w.heap.size w w' := by
  have hln := formsP_len n
  have HOf : Hid (∀ W : World, Calls Tryd.prog 22 #[.int .i64 n] W fun e w' => ∃ z ao cap, e = .returned (.agg #[.int .i64 z, .string (wordP n), .slice ao (formsP n).length cap]) ∧ TextsAt w' (.slice ao (formsP n).length cap) (formsP n) ∧ Below W.heap.size W w') := fun W =>
    (of_any W n).mono fun e w' ⟨v, he, hv, hb⟩ => by
      rw [ofP_forms] at hv
      obtain ⟨ao, cap, hv', hc⟩ := id hv
      exact ⟨_, ao, cap, by rw [he, hv', ofP_word], hv' ▸ hv, hb⟩
  have HF : Hid (∀ W : World, Calls Tryd.prog 26 #[.int .i64 n] W fun e w' => ∃ ao cap, e = .returned (.slice ao (formsP n).length cap) ∧ TextsAt w' (.slice ao (formsP n).length cap) (formsP n) ∧ Below W.heap.size W w') := fun W =>
    (forms_any W n).mono fun e w' ⟨v, he, hv, hb⟩ => by
      obtain ⟨ao, cap, hv', hc⟩ := id hv
      exact ⟨ao, cap, by rw [he, hv'], hv' ▸ hv, hb⟩
  have HS : Hid (∀ (W : World) (v v' : Value), TextsAt W v (formsP n) → TextsAt W v' (formsP n) → Calls Tryd.prog 14 #[v, v'] W fun e w' => e = .returned (.bool true) ∧ Below W.heap.size W w') := fun W v v' h h' =>
    (same_any h h' (by unfold maxLen; omega)).mono fun e w' ⟨he, hb⟩ => ⟨by rw [he, decide_eq_true rfl], hb⟩
  have HK : Hid (∀ W : World, Calls Tryd.prog 27 #[.int .i64 n] W fun e w' => e = .returned (.bool (decide (((formsP n).length : Int) > 0))) ∧ Below W.heap.size W w') := fun W =>
    (known_any W n).mono fun e w' ⟨he, hb⟩ => ⟨by rw [he]; congr 2; exact decide_eq_decide.2 (by omega), hb⟩
  have HW : Hid (∀ W : World, TabAt W → Calls Tryd.prog 28 #[.int .i64 n] W fun e w' => e = .returned (.string (wordP n)) ∧ Below W.heap.size W w') := fun W h => word_any h n
  have HF1 : Hid (∀ W : World, Calls Tryd.prog 23 #[.int .i64 n, .int .i64 m] W fun e w' => e = .returned (.tuple #[.string (fitP (formsP n) m).1, .bool (fitP (formsP n) m).2]) ∧ Below W.heap.size W w') := fun W => fit_any W n m
  have HF2 : Hid (∀ W : World, Calls Tryd.prog 24 #[.int .i64 n, .int .i64 m] W fun e w' => e = .returned (.tuple #[.string (fitP (formsP n) m).1, .bool (fitP (formsP n) m).2]) ∧ Below W.heap.size W w') := fun W => fit6_any W n m
  have HC1 : Hid (∀ W : World, Calls Tryd.prog 29 #[.int .i64 n] W fun e w' => e = .returned (.int .i64 (classP n)) ∧ w' = W) := fun W => sClass_any W n
  have HC2 : Hid (∀ W : World, Calls Tryd.prog 30 #[.int .i64 n] W fun e w' => e = .returned (.int .i64 (classP n)) ∧ w' = W) := fun W => ref6Class_any W n
  have HAW := Lib.hid awake6_any
  have HT := Lib.hid hT
  clear hT
  generalize fitP (formsP n) m = F at *
  generalize formsP n = l at *
  generalize wordP n = X at *
  generalize classP n = C at *
  obtain ⟨F, F2⟩ := F
  simp only at HF1 HF2
  have s1 := same_yes (rfl : X = X)
  have s2 := same_yes (rfl : F = F)
  go_enter Tryd.func6, Tryd.ntmps6
  go_wp2_with (first
    | (go_at_call 22; with_reducible refine (HOf.out _).mono ?_; rintro e w1 ⟨z, ao, cap, rfl, t1, b1⟩)
    | (go_at_call 23; with_reducible refine (HF1.out _).mono ?_; rintro e w2 ⟨rfl, b2⟩)
    | (go_at_call 24; with_reducible refine (HF2.out _).mono ?_; rintro e w3 ⟨rfl, b3⟩))
  have hI3 : SInv w.heap.size w1.heap.size w z X (.slice ao l.length cap) l w3.drew := by
    have hb0 : Below w1.heap.size w1 (w1.alloc (.cells #[.int .i64 z, .string X, .slice ao l.length cap] 46)) := (Below.refl _ _).alloc (Nat.le_refl _) _
    have hr := Holds.new w1 46 #[.int .i64 z, .string X, .slice ao l.length cap]
    have h0 : SInv w.heap.size w1.heap.size w z X (.slice ao l.length cap) l (w1.alloc (.cells #[.int .i64 z, .string X, .slice ao l.length cap] 46)) :=
      ⟨hr, t1.below hb0, (HT.out.below b1).below hb0, b1.trans (hb0.mono b1.size), b1.size⟩
    obtain ⟨r, t, tb, bl, bg⟩ := ((h0.keep b2).1.keep b3).1
    exact ⟨r, t.drew, tb, bl.drew, bg⟩
  have HI3 := Lib.hid hI3
  have y0 := hI3.row.cell 1
  have y1 := hI3.row.cell 2
  simp only [List.getElem?_toArray, List.getElem?_cons_zero, List.getElem?_cons_succ] at y0 y1
  have HKeep : Hid (∀ W W' : World, SInv w.heap.size w1.heap.size w z X (.slice ao l.length cap) l W → Below W.heap.size W W' → SInv w.heap.size w1.heap.size w z X (.slice ao l.length cap) l W' ∧ W'.cell? ⟨w1.heap.size, 1, none⟩ = some (.string X) ∧ W'.cell? ⟨w1.heap.size, 2, none⟩ = some (.slice ao l.length cap)) := fun W W' h hb => h.keep hb
  have hNl := hI3.row.lt
  clear hI3 HOf HF1 HF2 HT t1 b1 b2 b3
  generalize w1.heap.size = N at *
  go_region_held3 (fun w' => w'.cell? ⟨N, 1, none⟩ = some (.string X) ∧ w'.cell? ⟨N, 2, none⟩ = some (.slice ao l.length cap))
    (first | with_reducible exact ⟨y0, y1⟩ | with_reducible exact y4 | with_reducible exact y5 | with_reducible exact y6 | with_reducible exact y7 | with_reducible exact y8 | go_keep)
    (first
      | (go_at_call 25; with_reducible refine (HAW.out _).mono ?_; rintro e w4 ⟨rfl, b4⟩; obtain ⟨i4, y4⟩ := HKeep.out _ _ HI3.out b4; have I4 := Lib.hid i4; clear i4)
      | (go_at_call 26; with_reducible refine (HF.out _).mono ?_; rintro e w5 ⟨ao5, cap5, rfl, t5, b5⟩; obtain ⟨i5, y5⟩ := HKeep.out _ _ I4.out b5; have I5 := Lib.hid i5; have T5 := Lib.hid t5; clear i5 t5)
      | (go_at_call 14; with_reducible refine (HS.out _ _ _ T5.out I5.out.texts).mono ?_; rintro e w6 ⟨rfl, b6⟩; obtain ⟨i6, y6⟩ := HKeep.out _ _ I5.out b6; have I6 := Lib.hid i6; clear i6)
      | (go_at_call 27; with_reducible refine (HK.out _).mono ?_; rintro e w7 ⟨rfl, b7⟩; obtain ⟨i7, y7⟩ := HKeep.out _ _ I6.out b7; have I7 := Lib.hid i7; clear i7)
      | (go_at_call 28; with_reducible refine (HW.out _ I7.out.tab).mono ?_; rintro e w8 ⟨rfl, b8⟩; obtain ⟨i8, y8⟩ := HKeep.out _ _ I7.out b8; have I8 := Lib.hid i8; clear i8)
      | (go_at_call 29; with_reducible refine (HC1.out _).mono ?_; rintro e w9 ⟨rfl, rfl⟩)
      | (go_at_call 30; with_reducible refine (HC2.out _).mono ?_; rintro e w10 ⟨rfl, rfl⟩))
  go_wp2_with fail
  go_ret
  exact ⟨rfl, I8.out.below⟩
end Go.Proofs.YtambeipbpemlkaaDoor
