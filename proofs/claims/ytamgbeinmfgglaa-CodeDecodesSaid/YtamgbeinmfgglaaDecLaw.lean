/- The contracts of layer 2's document, Decode without an arena, and the walk of CodeDecodes. -/
import Derived.Test.YtamgbeinmfgglaaReadR
import Derived.Test.YtamgbeinmfgglaaRefs11
import Derived.Test.YtamgbeinmfgglaaCLong
import Derived.Test.YtamgbeinmfgglaaNone
import Derived.Test.YtamgbeinmfgglaaMakesLaw
namespace Go.Proofs.Ytamgbeinmfgglaa
open Go.RowKit

theorem Decode_nil (s : ByteArray) (w : World) : Calls Try.prog 28 #[.pointer none, .string s] w fun e w' => e = .returned (.tuple #[.int .i64 (-1), .int .i64 1]) ∧ w' = w := by
  go_enter Try.func28, Try.ntmps28
  go_wp2_with fail
  go_ret2
  exact ⟨rfl, rfl⟩

set_option maxRecDepth 100000 in
theorem ref2Right_any (d : List UInt8) (hd : d.length ≤ 131072) (w : World) : Calls Try.prog 33 #[.string (bs d)] w fun e w' => e = .returned (.bool (rightD d)) ∧ Below w.heap.size w w' := by
  have hsz : (bs d).size = d.length := bs_size d
  have HP : Hid (∀ W : World, Calls Try.prog 41 #[.string (bs d), .int .i64 0] W fun e w' => ∃ k a b s ao m c, e = .returned (.tuple #[.agg #[.int .i64 k, .int .i64 a, .int .i64 b, .string s, .slice ao m c], .int .i64 ((parseN (d.length + 1) d 0).2.1 : Int), .bool (parseN (d.length + 1) d 0).2.2]) ∧ Below W.heap.size W w') := fun W =>
    (Parse_any d (by omega) W).mono fun e w' ⟨v, h1, ⟨ao, c, h2, _⟩, h3⟩ => by
      subst h2; subst h1
      exact ⟨_, _, _, _, _, _, _, rfl, h3⟩
  have HR : Hid (rightD d = ((parseN (d.length + 1) d 0).2.2 && decide ((parseN (d.length + 1) d 0).2.1 = d.length))) := rfl
  rw [HR.out]
  clear HR
  generalize (parseN (d.length + 1) d 0).2.2 = ok at *
  generalize (parseN (d.length + 1) d 0).2.1 = E at *
  generalize bs d = S at *
  have q0 : decide ((d.length : Int) > 131072) = false := decide_eq_false (by omega)
  have q1 : ((E : Int) == (d.length : Int)) = decide (E = d.length) := by
    by_cases h : E = d.length
    · simp [h]
    · rw [decide_eq_false h, beq_eq_false_iff_ne]; omega
  generalize d.length = n at *
  generalize decide (E = n) = b at *
  cases ok with
  | true =>
    go_enter Try.func33, Try.ntmps33
    go_wp2_with (go_at_call 41; with_reducible refine (HP.out _).mono ?_; rintro e w1 ⟨k, a, b', s, ao, m, c, rfl, b1⟩)
    go_ret
    exact ⟨by simp, b1.alloc b1.size _⟩
  | false =>
    go_enter Try.func33, Try.ntmps33
    go_wp2_with (go_at_call 41; with_reducible refine (HP.out _).mono ?_; rintro e w1 ⟨k, a, b', s, ao, m, c, rfl, b1⟩)
    go_ret
    exact ⟨by simp, b1.alloc b1.size _⟩

set_option maxRecDepth 100000 in
theorem ref2Opaque_any (d : List UInt8) (hd : d.length ≤ 131072) (w : World) : Calls Try.prog 32 #[.string (bs d)] w fun e w' => e = .returned (.bool (rightD d && decide (kindL d ≠ 1))) ∧ Below w.heap.size w w' := by
  have HR := Lib.hid (fun W => ref2Right_any d hd W)
  have HK := Lib.hid (fun W => refKind_any d W)
  have q1 : ((kindL d : Int) == 1) = !decide (kindL d ≠ 1) := by
    by_cases h : kindL d = 1
    · simp [h]
    · simp [h]; omega
  generalize bs d = S at *
  generalize decide (kindL d ≠ 1) = b at *
  generalize (kindL d : Int) = z at *
  generalize rightD d = r at *
  cases r with
  | true =>
    go_enter Try.func32, Try.ntmps32
    go_wp2_with (first
      | (go_at_call 33; with_reducible refine (HR.out _).mono ?_; rintro e w1 ⟨rfl, b1⟩)
      | (go_at_call 34; with_reducible refine (HK.out _).mono ?_; rintro e w2 ⟨rfl, hw⟩; have hw := hw.symm; subst hw))
    go_ret
    exact ⟨by rw [bne, q1]; simp, b1⟩
  | false =>
    go_enter Try.func32, Try.ntmps32
    go_wp2_with (go_at_call 33; with_reducible refine (HR.out _).mono ?_; rintro e w1 ⟨rfl, b1⟩)
    go_ret
    exact ⟨by simp, b1⟩

set_option maxHeartbeats 4000000 in
set_option maxRecDepth 100000 in
theorem codeDecodes_any (d : List UInt8) (hm : d.length ≤ 9223372036854775807) (w : World) : Calls Try.prog 8 #[.string (bs d)] w fun e w' => e = .returned (.bool true) ∧ Below w.heap.size w w' := by
  have hsz : (bs d).size = d.length := bs_size d
  by_cases hl : 600 < d.length
  · have q0 : decide ((d.length : Int) > 600) = true := decide_eq_true (by omega)
    generalize bs d = S at *
    generalize d.length = n at *
    go_enter Try.func8, Try.ntmps8
    go_wp2_with (go_at_call 26; refine (awake2_any _).mono ?_; rintro e w2 ⟨rfl, b2⟩)
    go_ret
    exact ⟨rfl, b2⟩
  have hd : d.length ≤ 131072 := by omega
  have q0 : decide ((d.length : Int) > 600) = false := decide_eq_false (by omega)
  have HN := Lib.hid New_any
  have HX := Lib.hid (fun W => Decode_nil (bs d) W)
  have HO : Hid (∀ W : World, Calls Try.prog 31 #[.string (bs d)] W fun e w' => e = .returned (.bool (rightD d && decide (kindL d ≠ 1))) ∧ Below W.heap.size W w') := fun W =>
    (Opaque_any hd W).mono fun e w' ⟨q, h1, h2, h3⟩ => ⟨by rw [h2, opa_right hd h1], h3⟩
  have HP := Lib.hid (fun W => ref2Opaque_any d hd W)
  have HR := Lib.hid (fun W => ref2Right_any d hd W)
  have HA := Lib.hid awake2_any
  have HK := Lib.hid (fun W => refKind_any d W)
  have hx : ∀ o : Bool, (o != o) = false := fun o => by simp
  cases hr : rightD d with
  | true =>
    rw [hr] at HO HP HR
    have HD : Hid (∀ (w1 : World) (A : Nat) (F : Nat → Prop), ArenaAt w.heap.size A [] F w1 → Below w.heap.size w w1 → Calls Try.prog 28 #[.pointer (some ⟨A, 0, none⟩), .string (bs d)] w1 fun e w' => ∃ (j : Nat) (L' : List Ent) (F' : Nat → Prop), e = .returned (.tuple #[.int .i64 (j : Int), .int .i64 0]) ∧ (j < L'.length ∧ enc L' j = d ∧ kindAt L' (j : Int) = (kindL d : Int) ∧ Good L') ∧ ArenaAt w.heap.size A L' F' w' ∧ Below w.heap.size w w') := fun w1 A F ha hb => by
      refine (Decode_any ha (by simp; omega) hd).mono ?_
      rintro e w' ⟨⟨t, L', p⟩, h1, rfl, F', h2, h3, h4⟩
      obtain ⟨j, g1, g2, g3, g4, g5⟩ := right_dec hd hr h1
      have hg := (read_rd _ _ _ _ _ Good.nil (by simp; omega) h1).good
      simp only at g1 g3 g4 g5
      subst g1
      exact ⟨j, L', F', by rw [g2], ⟨g3, g4, g5, hg⟩, h2, hb.trans (h3.below hb.size fun i h => (ha.lt i h).1)⟩
    have HE : Hid (∀ (W : World) (A j : Nat) (L' : List Ent) (F' : Nat → Prop), ArenaAt w.heap.size A L' F' W → (j < L'.length ∧ enc L' j = d ∧ kindAt L' (j : Int) = (kindL d : Int) ∧ Good L') → Calls Try.prog 27 #[.pointer (some ⟨A, 0, none⟩), .int .i64 (j : Int)] W fun e w' => e = .returned (.string (bs d)) ∧ Below W.heap.size W w') := fun W A j L' F' h ⟨h1, h2, _, hg⟩ => by
      have := Encode_any h hg.encodable (List.getElem?_eq_getElem h1) (by rw [h2]; omega)
      rw [h2] at this
      exact this
    have HKK : Hid (∀ (W : World) (A j : Nat) (L' : List Ent) (F' : Nat → Prop), ArenaAt w.heap.size A L' F' W → (j < L'.length ∧ enc L' j = d ∧ kindAt L' (j : Int) = (kindL d : Int) ∧ Good L') → Calls Try.prog 17 #[.pointer (some ⟨A, 0, none⟩), .int .i64 (j : Int)] W fun e w' => e = .returned (.int .i64 (kindL d : Int)) ∧ W = w') := fun W A j L' F' h ⟨_, _, h3, _⟩ => by
      have := Kind_any h (j : Int)
      rw [h3] at this
      exact this
    have hq : ((bs d).toList == (bs d).toList) = true := by simp
    generalize (true && decide (kindL d ≠ 1)) = o at *
    have hz : ((kindL d : Int) == (kindL d : Int)) = true := by simp
    generalize bs d = S at *
    generalize (kindL d : Int) = z at *
    have hxo := hx o
    clear hx hr hl hm
    generalize d.length = n at *
    go_enter Try.func8, Try.ntmps8
    go_wp2_with (first
      | (go_at_call 13; with_reducible refine (HN.out _).mono ?_; rintro e w1 ⟨A, F, rfl, h1, b1⟩)
      | (go_at_call 28; with_reducible refine (HX.out _).mono ?_; rintro e w3 ⟨rfl, hw⟩; subst hw)
      | (go_at_call 28; with_reducible refine (HD.out _ _ _ h1 b1).mono ?_; rintro e w2 ⟨j, L', F', rfl, hj, h2, b2⟩)
      | (go_at_call 31; with_reducible refine (HO.out _).mono ?_; rintro e w4 ⟨rfl, b4⟩; have h4 := h2.below b4)
      | (go_at_call 32; with_reducible refine (HP.out _).mono ?_; rintro e w5 ⟨rfl, b5⟩; have h5 := h4.below b5)
      | (go_at_call 33; with_reducible refine (HR.out _).mono ?_; rintro e w6 ⟨rfl, b6⟩; have h6 := h5.below b6)
      | (go_at_call 26; with_reducible refine (HA.out _).mono ?_; rintro e w7 ⟨rfl, b7⟩; have h7 := h6.below b7)
      | (go_at_call 27; with_reducible refine (HE.out _ _ _ _ _ h7 hj).mono ?_; rintro e w8 ⟨rfl, b8⟩; have h8 := h7.below b8)
      | (go_at_call 17; with_reducible refine (HKK.out _ _ _ _ _ h8 hj).mono ?_; rintro e w9 ⟨rfl, hw⟩; subst hw)
      | (go_at_call 34; with_reducible refine (HK.out _).mono ?_; rintro e w10 ⟨rfl, hw⟩; have hw := hw.symm; subst hw))
    go_ret
    have B4 := b2.trans (b4.mono b2.size)
    have B5 := B4.trans (b5.mono B4.size)
    have B6 := B5.trans (b6.mono B5.size)
    have B7 := B6.trans (b7.mono B6.size)
    exact ⟨by simp, B7.trans (b8.mono B7.size)⟩
  | false =>
    rw [hr] at HO HP HR
    have HD : Hid (∀ (w1 : World) (A : Nat) (F : Nat → Prop), ArenaAt w.heap.size A [] F w1 → Below w.heap.size w w1 → Calls Try.prog 28 #[.pointer (some ⟨A, 0, none⟩), .string (bs d)] w1 fun e w' => e = .returned (.tuple #[.int .i64 (-1), .int .i64 3]) ∧ Below w.heap.size w w') := fun w1 A F ha hb => by
      refine (Decode_any ha (by simp; omega) hd).mono ?_
      rintro e w' ⟨q, h1, rfl, F', h2, h3, h4⟩
      exact ⟨by rw [right_no hd hr h1], hb.trans (h3.below hb.size fun i h => (ha.lt i h).1)⟩
    simp only [Bool.false_and] at HO HP
    generalize bs d = S at *
    clear hx hr hl hm
    generalize d.length = n at *
    go_enter Try.func8, Try.ntmps8
    go_wp2_with (first
      | (go_at_call 13; with_reducible refine (HN.out _).mono ?_; rintro e w1 ⟨A, F, rfl, h1, b1⟩)
      | (go_at_call 28; with_reducible refine (HX.out _).mono ?_; rintro e w3 ⟨rfl, hw⟩; subst hw)
      | (go_at_call 28; with_reducible refine (HD.out _ _ _ h1 b1).mono ?_; rintro e w2 ⟨rfl, b2⟩)
      | (go_at_call 31; with_reducible refine (HO.out _).mono ?_; rintro e w4 ⟨rfl, b4⟩)
      | (go_at_call 32; with_reducible refine (HP.out _).mono ?_; rintro e w5 ⟨rfl, b5⟩)
      | (go_at_call 33; with_reducible refine (HR.out _).mono ?_; rintro e w6 ⟨rfl, b6⟩)
      | (go_at_call 26; with_reducible refine (HA.out _).mono ?_; rintro e w7 ⟨rfl, b7⟩))
    go_ret
    have B4 := b2.trans (b4.mono b2.size)
    have B5 := B4.trans (b5.mono B4.size)
    have B6 := B5.trans (b6.mono B5.size)
    exact ⟨by simp, B6.trans (b7.mono B6.size)⟩
end Go.Proofs.Ytamgbeinmfgglaa
