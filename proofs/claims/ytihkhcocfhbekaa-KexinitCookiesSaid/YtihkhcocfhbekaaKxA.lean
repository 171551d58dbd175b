/- Layer 16: KexinitCookies, for all arguments. -/
import Derived.Test.YtihkhcocfhbekaaKx9
import Derived.Test.YtihkhcocfhbekaaKx7
import Derived.Test.YtihkhcocfhbekaaKx7b
namespace Go.Proofs.Ytihkhcocfhbekaa
open Go.RowKit

structure Ten (w : World) (u : Nat → Value) (p : Nat → List (List UInt8)) : Prop where
  at_ : ∀ k < 10, TextsAt w (u k) ((p k).map bs)
  room : ∀ k < 10, Room15 (u k)
  len : ∀ k < 10, (p k).length ≤ maxLen
  siz : ∀ k < 10, ∀ x ∈ p k, x.length ≤ maxLen
def two8 {α : Type} (x y z : α) : Nat → α
  | 0 => x | 1 => y | _ => z
theorem Ten.eight {w : World} {u : Nat → Value} {p : Nat → List (List UInt8)} (h : Ten w u p) : Eight w u p := ⟨fun k hk => h.at_ k (by omega), fun k hk => h.room k (by omega), fun k hk => h.len k (by omega)⟩
theorem Ten.two {w : World} {u : Nat → Value} {p : Nat → List (List UInt8)} (h : Ten w u p) : Eight w (two8 (u 8) (u 9) (.slice none 0 0)) (two8 (p 8) (p 9) []) := by
  refine ⟨fun k hk => ?_, fun k hk => ?_, fun k hk => ?_⟩
  · match k with
    | 0 => exact h.at_ 8 (by omega)
    | 1 => exact h.at_ 9 (by omega)
    | k + 2 => exact TextsAt.nil _
  · match k with
    | 0 => exact h.room 8 (by omega)
    | 1 => exact h.room 9 (by omega)
    | k + 2 => exact fun _ _ _ e => by injection e with _ e2 e3; omega
  · match k with
    | 0 => exact h.len 8 (by omega)
    | 1 => exact h.len 9 (by omega)
    | k + 2 => exact Nat.zero_le _
theorem Ten.two_siz {w : World} {u : Nat → Value} {p : Nat → List (List UInt8)} (h : Ten w u p) : ∀ k < 8, ∀ x ∈ two8 (p 8) (p 9) [] k, x.length ≤ maxLen := fun k _ => by
  match k with
  | 0 => exact h.siz 8 (by omega)
  | 1 => exact h.siz 9 (by omega)
  | k + 2 => exact fun x hx => by cases hx
theorem kxa_slice {w : World} {x : Value} {l : List ByteArray} (h : TextsAt w x l) : ∃ a n c, x = .slice a n c := by
  obtain ⟨a, c, e, _⟩ := h
  exact ⟨_, _, _, e⟩
theorem a_bool (P : Prop) : ∃ z : Bool, z = true ↔ P := by
  by_cases h : P
  · exact ⟨true, fun _ => h, fun _ => rfl⟩
  · exact ⟨false, fun e => absurd e Bool.false_ne_true, fun e => absurd e h⟩

set_option maxHeartbeats 2000000 in
set_option maxRecDepth 100000 in
theorem cookies_any {w : World} {u v : Nat → Value} {p q : Nat → List (List UInt8)} (hu : Ten w u p) (hv : Ten w v q) (C D : ByteArray) (p1 p2 p3 p4 p5 q1 q2 q3 q4 q5 : Bool) (s0 s1 t0 t1 : Int) (hs : s0 < 9223372036854775808 ∧ s1 < 9223372036854775808 ∧ t0 < 9223372036854775808 ∧ t1 < 9223372036854775808) :
    Calls Try.prog 3 #[.agg #[.int .i64 s0, .int .i64 s1], .agg #[.int .i64 t0, .int .i64 t1], .agg #[.string C, u 0, u 1, u 2, u 3, u 4, u 5, u 6, u 7, u 8, u 9, .bool p1, .bool p2, .bool p3, .bool p4, .bool p5, .string D, v 0, v 1, v 2, v 3, v 4, v 5, v 6, v 7, v 8, v 9, .bool q1, .bool q2, .bool q3, .bool q4, .bool q5]] w fun e w' => e = .returned (.bool true) ∧ Below w.heap.size w w' := by
  obtain ⟨a0, n0, c0, e0⟩ := kxa_slice (hu.at_ 0 (by omega))
  obtain ⟨a1, n1, c1, e1⟩ := kxa_slice (hu.at_ 1 (by omega))
  obtain ⟨a2, n2, c2, e2⟩ := kxa_slice (hu.at_ 2 (by omega))
  obtain ⟨a3, n3, c3, e3⟩ := kxa_slice (hu.at_ 3 (by omega))
  obtain ⟨a4, n4, c4, e4⟩ := kxa_slice (hu.at_ 4 (by omega))
  obtain ⟨a5, n5, c5, e5⟩ := kxa_slice (hu.at_ 5 (by omega))
  obtain ⟨a6, n6, c6, e6⟩ := kxa_slice (hu.at_ 6 (by omega))
  obtain ⟨a7, n7, c7, e7⟩ := kxa_slice (hu.at_ 7 (by omega))
  obtain ⟨a8, n8, c8, e8⟩ := kxa_slice (hu.at_ 8 (by omega))
  obtain ⟨a9, n9, c9, e9⟩ := kxa_slice (hu.at_ 9 (by omega))
  obtain ⟨b0, m0, d0, f0⟩ := kxa_slice (hv.at_ 0 (by omega))
  obtain ⟨b1, m1, d1, f1⟩ := kxa_slice (hv.at_ 1 (by omega))
  obtain ⟨b2, m2, d2, f2⟩ := kxa_slice (hv.at_ 2 (by omega))
  obtain ⟨b3, m3, d3, f3⟩ := kxa_slice (hv.at_ 3 (by omega))
  obtain ⟨b4, m4, d4, f4⟩ := kxa_slice (hv.at_ 4 (by omega))
  obtain ⟨b5, m5, d5, f5⟩ := kxa_slice (hv.at_ 5 (by omega))
  obtain ⟨b6, m6, d6, f6⟩ := kxa_slice (hv.at_ 6 (by omega))
  obtain ⟨b7, m7, d7, f7⟩ := kxa_slice (hv.at_ 7 (by omega))
  obtain ⟨b8, m8, d8, f8⟩ := kxa_slice (hv.at_ 8 (by omega))
  obtain ⟨b9, m9, d9, f9⟩ := kxa_slice (hv.at_ 9 (by omega))
  have hX : agg8 u = .agg #[.slice a0 n0 c0, .slice a1 n1 c1, .slice a2 n2 c2, .slice a3 n3 c3, .slice a4 n4 c4, .slice a5 n5 c5, .slice a6 n6 c6, .slice a7 n7 c7] := by unfold agg8; rw [e0, e1, e2, e3, e4, e5, e6, e7]
  have hY : agg8 v = .agg #[.slice b0 m0 d0, .slice b1 m1 d1, .slice b2 m2 d2, .slice b3 m3 d3, .slice b4 m4 d4, .slice b5 m5 d5, .slice b6 m6 d6, .slice b7 m7 d7] := by unfold agg8; rw [f0, f1, f2, f3, f4, f5, f6, f7]
  have hXG : agg8 (two8 (u 8) (u 9) (.slice none 0 0)) = .agg #[.slice a8 n8 c8, .slice a9 n9 c9, .slice none 0 0, .slice none 0 0, .slice none 0 0, .slice none 0 0, .slice none 0 0, .slice none 0 0] := by
    show (.agg #[u 8, u 9, .slice none 0 0, .slice none 0 0, .slice none 0 0, .slice none 0 0, .slice none 0 0, .slice none 0 0] : Value) = _
    rw [e8, e9]
  have hYG : agg8 (two8 (v 8) (v 9) (.slice none 0 0)) = .agg #[.slice b8 m8 d8, .slice b9 m9 d9, .slice none 0 0, .slice none 0 0, .slice none 0 0, .slice none 0 0, .slice none 0 0, .slice none 0 0] := by
    show (.agg #[v 8, v 9, .slice none 0 0, .slice none 0 0, .slice none 0 0, .slice none 0 0, .slice none 0 0, .slice none 0 0] : Value) = _
    rw [f8, f9]
  obtain ⟨zA, hzA⟩ := a_bool (∀ k < 8, okP15 (p k))
  obtain ⟨zB, hzB⟩ := a_bool (∀ k < 8, okP15 (two8 (p 8) (p 9) [] k))
  obtain ⟨zC, hzC⟩ := a_bool (∀ k < 8, okP15 (q k))
  obtain ⟨zD, hzD⟩ := a_bool (∀ k < 8, okP15 (two8 (q 8) (q 9) [] k))
  obtain ⟨bP, hbP⟩ := a_bool (Same15 p q)
  have g1 : ∀ W, Below w.heap.size w W → Calls Try.prog 12 #[.agg #[.slice a0 n0 c0, .slice a1 n1 c1, .slice a2 n2 c2, .slice a3 n3 c3, .slice a4 n4 c4, .slice a5 n5 c5, .slice a6 n6 c6, .slice a7 n7 c7]] W fun e w' => e = .returned (.bool zA) ∧ Below W.heap.size W w' := fun W hb => by
    rw [← hX]
    exact (few15_any (hu.eight.below hb) (fun k hk => hu.siz k (by omega))).mono fun e w' ⟨z, he, hz, hb'⟩ => ⟨by rw [he, show z = zA by rw [Bool.eq_iff_iff, hz, hzA]], hb'⟩
  have g2 : ∀ W, Below w.heap.size w W → Calls Try.prog 12 #[.agg #[.slice a8 n8 c8, .slice a9 n9 c9, .slice none 0 0, .slice none 0 0, .slice none 0 0, .slice none 0 0, .slice none 0 0, .slice none 0 0]] W fun e w' => e = .returned (.bool zB) ∧ Below W.heap.size W w' := fun W hb => by
    rw [← hXG]
    exact (few15_any (hu.two.below hb) hu.two_siz).mono fun e w' ⟨z, he, hz, hb'⟩ => ⟨by rw [he, show z = zB by rw [Bool.eq_iff_iff, hz, hzB]], hb'⟩
  have g3 : ∀ W, Below w.heap.size w W → Calls Try.prog 12 #[.agg #[.slice b0 m0 d0, .slice b1 m1 d1, .slice b2 m2 d2, .slice b3 m3 d3, .slice b4 m4 d4, .slice b5 m5 d5, .slice b6 m6 d6, .slice b7 m7 d7]] W fun e w' => e = .returned (.bool zC) ∧ Below W.heap.size W w' := fun W hb => by
    rw [← hY]
    exact (few15_any (hv.eight.below hb) (fun k hk => hv.siz k (by omega))).mono fun e w' ⟨z, he, hz, hb'⟩ => ⟨by rw [he, show z = zC by rw [Bool.eq_iff_iff, hz, hzC]], hb'⟩
  have g4 : ∀ W, Below w.heap.size w W → Calls Try.prog 12 #[.agg #[.slice b8 m8 d8, .slice b9 m9 d9, .slice none 0 0, .slice none 0 0, .slice none 0 0, .slice none 0 0, .slice none 0 0, .slice none 0 0]] W fun e w' => e = .returned (.bool zD) ∧ Below W.heap.size W w' := fun W hb => by
    rw [← hYG]
    exact (few15_any (hv.two.below hb) hv.two_siz).mono fun e w' ⟨z, he, hz, hb'⟩ => ⟨by rw [he, show z = zD by rw [Bool.eq_iff_iff, hz, hzD]], hb'⟩
  have g5 : ∀ W, Below w.heap.size w W → Calls Try.prog 13 #[.agg #[.slice a0 n0 c0, .slice a1 n1 c1, .slice a2 n2 c2, .slice a3 n3 c3, .slice a4 n4 c4, .slice a5 n5 c5, .slice a6 n6 c6, .slice a7 n7 c7], .agg #[.slice b0 m0 d0, .slice b1 m1 d1, .slice b2 m2 d2, .slice b3 m3 d3, .slice b4 m4 d4, .slice b5 m5 d5, .slice b6 m6 d6, .slice b7 m7 d7]] W fun e w' => e = .returned (.bool bP) ∧ Below W.heap.size W w' := fun W hb => by
    rw [← hX, ← hY]
    exact (pfSame_any (hu.eight.below hb).at_ (hv.eight.below hb).at_ hu.eight.len).mono fun e w' ⟨z, he, hz, hb'⟩ => ⟨by rw [he, show z = bP by rw [Bool.eq_iff_iff, hz, hbP]], hb'⟩
  have g6 : ∀ W, Below w.heap.size w W → Calls Try.prog 15 #[.agg #[.slice a0 n0 c0, .slice a1 n1 c1, .slice a2 n2 c2, .slice a3 n3 c3, .slice a4 n4 c4, .slice a5 n5 c5, .slice a6 n6 c6, .slice a7 n7 c7], .agg #[.slice b0 m0 d0, .slice b1 m1 d1, .slice b2 m2 d2, .slice b3 m3 d3, .slice b4 m4 d4, .slice b5 m5 d5, .slice b6 m6 d6, .slice b7 m7 d7]] W fun e w' => e = .returned (.bool bP) ∧ Below W.heap.size W w' := fun W hb => by
    rw [← hX, ← hY]
    exact (same15_any (hu.eight.below hb).at_ (hv.eight.below hb).at_ hu.eight.len).mono fun e w' ⟨z, he, hz, hb'⟩ => ⟨by rw [he, show z = bP by rw [Bool.eq_iff_iff, hz, hbP]], hb'⟩
  have g7 : ∀ W, Below w.heap.size w W → Calls Try.prog 14 #[.slice a8 n8 c8, .slice b8 m8 d8] W fun e w' => e = .returned (.bool (decide ((p 8).map bs = (q 8).map bs))) ∧ Below W.heap.size W w' := fun W hb => by
    rw [← e8, ← f8]
    exact eqStrs_any ((hu.at_ 8 (by omega)).below hb) ((hv.at_ 8 (by omega)).below hb) (by rw [List.length_map]; exact hu.len 8 (by omega))
  have g8 : ∀ W, Below w.heap.size w W → Calls Try.prog 14 #[.slice a9 n9 c9, .slice b9 m9 d9] W fun e w' => e = .returned (.bool (decide ((p 9).map bs = (q 9).map bs))) ∧ Below W.heap.size W w' := fun W hb => by
    rw [← e9, ← f9]
    exact eqStrs_any ((hu.at_ 9 (by omega)).below hb) ((hv.at_ 9 (by omega)).below hb) (by rw [List.length_map]; exact hu.len 9 (by omega))
  have g9 : ∀ W, Below w.heap.size w W → Calls Try.prog 16 #[.slice a8 n8 c8, .slice b8 m8 d8] W fun e w' => e = .returned (.bool (decide ((p 8).map bs = (q 8).map bs))) ∧ Below W.heap.size W w' := fun W hb => by
    rw [← e8, ← f8]
    exact same_any ((hu.at_ 8 (by omega)).below hb) ((hv.at_ 8 (by omega)).below hb) (by rw [List.length_map]; exact hu.len 8 (by omega))
  have gA : ∀ W, Below w.heap.size w W → Calls Try.prog 16 #[.slice a9 n9 c9, .slice b9 m9 d9] W fun e w' => e = .returned (.bool (decide ((p 9).map bs = (q 9).map bs))) ∧ Below W.heap.size W w' := fun W hb => by
    rw [← e9, ← f9]
    exact same_any ((hu.at_ 9 (by omega)).below hb) ((hv.at_ 9 (by omega)).below hb) (by rw [List.length_map]; exact hu.len 9 (by omega))
  rw [e0, e1, e2, e3, e4, e5, e6, e7, e8, e9, f0, f1, f2, f3, f4, f5, f6, f7, f8, f9]
  exact cookies_main s0 s1 t0 t1 _ _ _
    (fun W hb => few16_raw zA zB (fun V hV => g1 V (hb.trans (hV.mono hb.size))) (fun V hV => g2 V (hb.trans (hV.mono hb.size))))
    (fun W hb => few16_raw zC zD (fun V hV => g3 V (hb.trans (hV.mono hb.size))) (fun V hV => g4 V (hb.trans (hV.mono hb.size))))
    (fun W hb => kxSame_raw _ bP _ _ rfl (fun V hV => g5 V (hb.trans (hV.mono hb.size))) (fun V hV => g7 V (hb.trans (hV.mono hb.size))) (fun V hV => g8 V (hb.trans (hV.mono hb.size))))
    (fun W hb => same16_raw _ bP _ _ rfl (fun V hV => g6 V (hb.trans (hV.mono hb.size))) (fun V hV => g9 V (hb.trans (hV.mono hb.size))) (fun V hV => gA V (hb.trans (hV.mono hb.size))))
    hs
end Go.Proofs.Ytihkhcocfhbekaa
