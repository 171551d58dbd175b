/- Part 32 of what the statement wants. -/
import Derived.Deep.RegionHeld3
import Derived.Test.YtbhekicoohcaeaaPk31
namespace Go.Proofs.Ytbhekicoohcaeaa
open Go.RowKit

set_option maxRecDepth 100000 in
theorem sh_plain : secretZ [103] (offerL [103] (freshL 1 0)) (freshL 0 0) = 0 ∧ secretZ [103] (offerL [103] (freshL 0 0)) (freshL 1 0) = 0 ∧ secretL [103] (offerL [103] (freshL 0 0)) (freshL 1 0) = secretL [103] (offerL [103] (freshL 1 0)) (freshL 0 0) ∧ freshL 0 0 ≠ freshL 1 0 ∧ kindL (secretL [103] (offerL [103] (freshL 1 0)) (freshL 0 0)) = 5 := by decide +kernel
set_option maxHeartbeats 2000000 in
set_option maxRecDepth 100000 in
theorem awake19_any (w : World) : Calls Try.prog 9 #[] w fun e w' => e = .returned (.bool true) ∧ Below w.heap.size w w' := by
  obtain ⟨p1, p2, p3, p4, p5⟩ := sh_plain
  have HN := Lib.hid (taNew w)
  have HX : Hid (∀ (A : Nat) (W : World), Ta w.heap.size w A [] 0 W → Calls Try.prog 20 #[.pointer (some ⟨A, 0, none⟩), .int .i64 0, .int .i64 0] W (TaPost w.heap.size w A [] 1 W (freshL 0 0))) := fun A W h => hFresh_any h (by omega) 0 0 (by omega)
  have HY : Hid (∀ (A : Nat) (i : Int) (W : World), Ta w.heap.size w A [(i, freshL 0 0)] 1 W → Calls Try.prog 20 #[.pointer (some ⟨A, 0, none⟩), .int .i64 1, .int .i64 0] W (TaPost w.heap.size w A [(i, freshL 0 0)] 2 W (freshL 1 0))) := fun A i W h => hFresh_any h (by omega) 1 0 (by omega)
  have HO1 : Hid (∀ (A : Nat) (i j : Int) (W : World), Ta w.heap.size w A [(j, freshL 1 0), (i, freshL 0 0)] 2 W → Calls Try.prog 18 #[.pointer (some ⟨A, 0, none⟩), .string ⟨#[103]⟩, .int .i64 j] W (TaPost w.heap.size w A [(j, freshL 1 0), (i, freshL 0 0)] 4 W (offerL [103] (freshL 1 0)))) := fun A i j W h => hOffer_any h (by omega) [103] (by simp) (.head _)
  have HS1 : Hid (∀ (A : Nat) (i j o : Int) (W : World), Ta w.heap.size w A [(o, offerL [103] (freshL 1 0)), (j, freshL 1 0), (i, freshL 0 0)] 4 W → Calls Try.prog 13 #[.pointer (some ⟨A, 0, none⟩), .string ⟨#[103]⟩, .int .i64 o, .int .i64 i] W fun e w' => ∃ k : Int, e = .returned (.tuple #[.int .i64 k, .int .i64 0]) ∧ Ta w.heap.size w A [(k, secretL [103] (offerL [103] (freshL 1 0)) (freshL 0 0)), (o, offerL [103] (freshL 1 0)), (j, freshL 1 0), (i, freshL 0 0)] 5 w') := fun A i j o W h =>
    (hSecret_any h (by omega) [103] (.head _) (.tail _ (.tail _ (.head _)))).mono fun e w' ⟨k, h1, h2, _⟩ => ⟨k, by rw [h1, p1], h2⟩
  have HO2 : Hid (∀ (A : Nat) (i j o k : Int) (W : World), Ta w.heap.size w A [(k, secretL [103] (offerL [103] (freshL 1 0)) (freshL 0 0)), (o, offerL [103] (freshL 1 0)), (j, freshL 1 0), (i, freshL 0 0)] 5 W → Calls Try.prog 18 #[.pointer (some ⟨A, 0, none⟩), .string ⟨#[103]⟩, .int .i64 i] W fun e w' => ∃ q : Int, e = .returned (.int .i64 q) ∧ Ta w.heap.size w A [(q, offerL [103] (freshL 0 0)), (k, secretL [103] (offerL [103] (freshL 1 0)) (freshL 0 0)), (o, offerL [103] (freshL 1 0)), (j, freshL 1 0), (i, freshL 0 0)] 7 w') := fun A i j o k W h =>
    (hOffer_any h (by omega) [103] (by simp) (.tail _ (.tail _ (.tail _ (.head _))))).mono fun e w' ⟨q, h1, h2, _⟩ => ⟨q, h1, h2⟩
  have HS2 : Hid (∀ (A : Nat) (i j o k q : Int) (W : World), Ta w.heap.size w A [(q, offerL [103] (freshL 0 0)), (k, secretL [103] (offerL [103] (freshL 1 0)) (freshL 0 0)), (o, offerL [103] (freshL 1 0)), (j, freshL 1 0), (i, freshL 0 0)] 7 W → Calls Try.prog 13 #[.pointer (some ⟨A, 0, none⟩), .string ⟨#[103]⟩, .int .i64 q, .int .i64 j] W fun e w' => e = .returned (.tuple #[.int .i64 k, .int .i64 0]) ∧ (i != j) = true ∧ Ta w.heap.size w A [(k, secretL [103] (offerL [103] (freshL 1 0)) (freshL 0 0))] 8 w') := fun A i j o k q W h =>
    (hSecret_any h (by omega) [103] (.head _) (.tail _ (.tail _ (.tail _ (.head _))))).mono fun e w' ⟨k', h1, h2, _⟩ => by
      have hk : k' = k := (h2.same (.head _) (.tail _ (.tail _ (.head _)))).2 p3
      have hij : i ≠ j := fun e => p4 ((h2.same (.tail _ (.tail _ (.tail _ (.tail _ (.tail _ (.head _)))))) (.tail _ (.tail _ (.tail _ (.tail _ (.head _)))))).1 e)
      refine ⟨by rw [h1, p2, hk], by simpa using hij, h2.mono (Nat.le_refl _) fun p hp => ?_⟩
      rw [List.mem_singleton.1 hp]
      exact .tail _ (.tail _ (.head _))
  have HK : Hid (∀ (A : Nat) (k : Int) (W : World), Ta w.heap.size w A [(k, secretL [103] (offerL [103] (freshL 1 0)) (freshL 0 0))] 8 W → Calls Try.prog 33 #[.pointer (some ⟨A, 0, none⟩), .int .i64 k] W fun e w' => e = .returned (.int .i64 5) ∧ W = w') := fun A k W h => by
    have := taKind h (.head _)
    rwa [p5] at this
  clear p1 p2 p3 p4 p5
  generalize secretL [103] (offerL [103] (freshL 1 0)) (freshL 0 0) = S at *
  generalize offerL [103] (freshL 1 0) = O1 at *
  generalize offerL [103] (freshL 0 0) = O2 at *
  generalize freshL 0 0 = X at *
  generalize freshL 1 0 = Y at *
  go_enter Try.func9, Try.ntmps9
  go_wp2_with (first
    | (go_at_call 10; with_reducible refine HN.out.mono ?_; rintro e w1 ⟨A, rfl, t1⟩)
    | (go_at_call 20; with_reducible refine (HY.out _ _ _ t2).mono ?_; rintro e w3 ⟨j, rfl, t3, _⟩)
    | (go_at_call 20; with_reducible refine (HX.out _ _ t1).mono ?_; rintro e w2 ⟨i, rfl, t2, _⟩)
    | (go_at_call 18; with_reducible refine (HO2.out _ _ _ _ _ _ t5).mono ?_; rintro e w6 ⟨q, rfl, t6⟩)
    | (go_at_call 18; with_reducible refine (HO1.out _ _ _ _ t3).mono ?_; rintro e w4 ⟨o, rfl, t4, _⟩)
    | (go_at_call 13; with_reducible refine (HS2.out _ _ _ _ _ _ _ t6).mono ?_; rintro e w7 ⟨rfl, hij, t7⟩)
    | (go_at_call 13; with_reducible refine (HS1.out _ _ _ _ _ t4).mono ?_; rintro e w5 ⟨k, rfl, t5⟩)
    | (go_at_call 33; with_reducible refine (HK.out _ _ _ t7).mono ?_; rintro e w8 ⟨rfl, hw⟩; have hw := hw.symm; subst hw))
  go_ret
  exact ⟨rfl, t7.bel⟩
end Go.Proofs.Ytbhekicoohcaeaa
