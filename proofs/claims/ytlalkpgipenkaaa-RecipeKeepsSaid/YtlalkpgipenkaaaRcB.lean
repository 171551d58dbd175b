/- Layer 14: result, the steps that hand on. -/
import Derived.Test.YtlalkpgipenkaaaRc1
import Derived.Test.YtlalkpgipenkaaaRc9
namespace Go.Proofs.Ytlalkpgipenkaaa
open Go.RowKit

theorem rcDrewN9 {B : Nat} {w w' : World} (h : Below B w w') (n : Nat) : Below B w (w'.drewN n) := ⟨h.os, h.tape, h.output, h.size, h.block⟩

set_option maxHeartbeats 1000000 in
set_option maxRecDepth 100000 in
theorem cResult_know {A E : Nat} {F : Nat → Prop} {had : Int} {known sent rs : List Int} {w : World} (he : EvOf F E A had known sent rs w) (a b c : Int) (s : ByteArray) :
    Calls Try.prog 54 #[.pointer (some ⟨E, 0, none⟩), .agg #[.int .i64 2, .int .i64 a, .int .i64 b, .int .i64 c, .string s]] w fun r w' => r = .returned (.int .i64 (givenZ had known a)) ∧ Below w.heap.size w w' := by
  have HO0 := Holds.new w 62 #[.int .i64 2, .int .i64 a, .int .i64 b, .int .i64 c, .string s]
  have b0 : Below w.heap.size w (w.alloc (.cells #[.int .i64 2, .int .i64 a, .int .i64 b, .int .i64 c, .string s] 62)) := (Below.refl _ w).alloc (Nat.le_refl _) _
  have HW : ∃ W0, Hid (W0 = w.alloc (.cells #[.int .i64 2, .int .i64 a, .int .i64 b, .int .i64 c, .string s] 62)) := ⟨_, Lib.hid rfl⟩
  obtain ⟨W0, HW⟩ := HW
  rw [← HW.out] at HO0 b0
  have hE := he.moves (Moves.ofBelow b0)
  obtain ⟨vk, vs, vr, h0, h1, h2, h3, _⟩ := hE
  have HGv := Lib.hid (fun (n : Nat) => cGiven_any (w := W0.drewN n) (E := E) (had := had) (v := vk) (l := known) (by exact h0.cell 1) (h1.moves ((Moves.refl nobody W0).drewN n) (fun _ _ h => h)) a)
  have e2 : W0.cell? ⟨E, 2, none⟩ = some vk := h0.cell 2
  obtain ⟨ao, cap, rfl, _⟩ := h1
  have o0 : W0.cell? ⟨w.heap.size, 0, none⟩ = some (.int .i64 2) := HO0.cell 0
  have o1 : W0.cell? ⟨w.heap.size, 1, none⟩ = some (.int .i64 a) := HO0.cell 1
  have HB0 := Lib.hid b0
  generalize givenZ had known a = x at *
  generalize known.length = n at *
  clear he b0 HO0 h0 h2 h3
  go_enter Try.func54, Try.ntmps54
  go_wp2_with fail
  rw [← HW.out]
  go_quiet (first | (go_at_call 70; refine Calls.quiet_of_same (HGv.out _)))
  go_wp2_with fail
  go_ret
  exact ⟨rfl, rcDrewN9 HB0.out _⟩

set_option maxHeartbeats 1000000 in
set_option maxRecDepth 100000 in
theorem cResult_sent {A E : Nat} {F : Nat → Prop} {had : Int} {known sent rs : List Int} {w : World} (he : EvOf F E A had known sent rs w) (a b c : Int) (s : ByteArray) :
    Calls Try.prog 54 #[.pointer (some ⟨E, 0, none⟩), .agg #[.int .i64 3, .int .i64 a, .int .i64 b, .int .i64 c, .string s]] w fun r w' => r = .returned (.int .i64 (givenZ had sent a)) ∧ Below w.heap.size w w' := by
  have HO0 := Holds.new w 62 #[.int .i64 3, .int .i64 a, .int .i64 b, .int .i64 c, .string s]
  have b0 : Below w.heap.size w (w.alloc (.cells #[.int .i64 3, .int .i64 a, .int .i64 b, .int .i64 c, .string s] 62)) := (Below.refl _ w).alloc (Nat.le_refl _) _
  have HW : ∃ W0, Hid (W0 = w.alloc (.cells #[.int .i64 3, .int .i64 a, .int .i64 b, .int .i64 c, .string s] 62)) := ⟨_, Lib.hid rfl⟩
  obtain ⟨W0, HW⟩ := HW
  rw [← HW.out] at HO0 b0
  have hE := he.moves (Moves.ofBelow b0)
  obtain ⟨vk, vs, vr, h0, h1, h2, h3, _⟩ := hE
  have HGv := Lib.hid (fun (n : Nat) => cGiven_any (w := W0.drewN n) (E := E) (had := had) (v := vs) (l := sent) (by exact h0.cell 1) (h2.moves ((Moves.refl nobody W0).drewN n) (fun _ _ h => h)) a)
  have e2 : W0.cell? ⟨E, 3, none⟩ = some vs := h0.cell 3
  obtain ⟨ao, cap, rfl, _⟩ := h2
  have o0 : W0.cell? ⟨w.heap.size, 0, none⟩ = some (.int .i64 3) := HO0.cell 0
  have o1 : W0.cell? ⟨w.heap.size, 1, none⟩ = some (.int .i64 a) := HO0.cell 1
  have HB0 := Lib.hid b0
  generalize givenZ had sent a = x at *
  generalize sent.length = n at *
  clear he b0 HO0 h0 h1 h3
  go_enter Try.func54, Try.ntmps54
  go_wp2_with fail
  rw [← HW.out]
  go_quiet (first | (go_at_call 70; refine Calls.quiet_of_same (HGv.out _)))
  go_wp2_with fail
  go_ret
  exact ⟨rfl, rcDrewN9 HB0.out _⟩

set_option maxHeartbeats 1000000 in
set_option maxRecDepth 100000 in
theorem cResult_9 {E : Nat} {w : World} {P : Ending → World → World → Prop} (a b c : Int) (s : ByteArray) (hC : ∀ W, Below w.heap.size w W → Calls Try.prog 72 #[.pointer (some ⟨E, 0, none⟩), .agg #[.int .i64 9, .int .i64 a, .int .i64 b, .int .i64 c, .string s]] W (fun r w' => (∃ t, r = .returned (.int .i64 t)) ∧ P r W w')) :
    Calls Try.prog 54 #[.pointer (some ⟨E, 0, none⟩), .agg #[.int .i64 9, .int .i64 a, .int .i64 b, .int .i64 c, .string s]] w fun r w' => ∃ W, Below w.heap.size w W ∧ P r W w' := by
  have HO0 := Holds.new w 62 #[.int .i64 9, .int .i64 a, .int .i64 b, .int .i64 c, .string s]
  have b0 : Below w.heap.size w (w.alloc (.cells #[.int .i64 9, .int .i64 a, .int .i64 b, .int .i64 c, .string s] 62)) := (Below.refl _ w).alloc (Nat.le_refl _) _
  have HW : ∃ W0, Hid (W0 = w.alloc (.cells #[.int .i64 9, .int .i64 a, .int .i64 b, .int .i64 c, .string s] 62)) := ⟨_, Lib.hid rfl⟩
  obtain ⟨W0, HW⟩ := HW
  rw [← HW.out] at HO0 b0
  have HC := Lib.hid (hC W0 b0)
  have HB0 := Lib.hid b0
  clear hC b0 HO0 
  go_enter Try.func54, Try.ntmps54
  go_wp2_with fail
  rw [← HW.out]
  go_at_call 72
  (with_reducible refine HC.out.mono ?_)
  rintro r w1 ⟨⟨t, rfl⟩, hp⟩
  have HP := Lib.hid hp
  clear hp HC
  go_wp2_with fail
  go_ret
  exact ⟨W0, HB0.out, HP.out⟩

set_option maxHeartbeats 1000000 in
set_option maxRecDepth 100000 in
theorem cResult_10 {E : Nat} {w : World} {P : Ending → World → World → Prop} (a b c : Int) (s : ByteArray) (hC : ∀ W, Below w.heap.size w W → Calls Try.prog 73 #[.pointer (some ⟨E, 0, none⟩), .agg #[.int .i64 10, .int .i64 a, .int .i64 b, .int .i64 c, .string s]] W (fun r w' => (∃ t, r = .returned (.int .i64 t)) ∧ P r W w')) :
    Calls Try.prog 54 #[.pointer (some ⟨E, 0, none⟩), .agg #[.int .i64 10, .int .i64 a, .int .i64 b, .int .i64 c, .string s]] w fun r w' => ∃ W, Below w.heap.size w W ∧ P r W w' := by
  have HO0 := Holds.new w 62 #[.int .i64 10, .int .i64 a, .int .i64 b, .int .i64 c, .string s]
  have b0 : Below w.heap.size w (w.alloc (.cells #[.int .i64 10, .int .i64 a, .int .i64 b, .int .i64 c, .string s] 62)) := (Below.refl _ w).alloc (Nat.le_refl _) _
  have HW : ∃ W0, Hid (W0 = w.alloc (.cells #[.int .i64 10, .int .i64 a, .int .i64 b, .int .i64 c, .string s] 62)) := ⟨_, Lib.hid rfl⟩
  obtain ⟨W0, HW⟩ := HW
  rw [← HW.out] at HO0 b0
  have HC := Lib.hid (hC W0 b0)
  have HB0 := Lib.hid b0
  clear hC b0 HO0 
  go_enter Try.func54, Try.ntmps54
  go_wp2_with fail
  rw [← HW.out]
  go_at_call 73
  (with_reducible refine HC.out.mono ?_)
  rintro r w1 ⟨⟨t, rfl⟩, hp⟩
  have HP := Lib.hid hp
  clear hp HC
  go_wp2_with fail
  go_ret
  exact ⟨W0, HB0.out, HP.out⟩

set_option maxHeartbeats 1000000 in
set_option maxRecDepth 100000 in
theorem cResult_11 {E : Nat} {w : World} {P : Ending → World → World → Prop} (a b c : Int) (s : ByteArray) (hC : ∀ W, Below w.heap.size w W → Calls Try.prog 74 #[.pointer (some ⟨E, 0, none⟩), .agg #[.int .i64 11, .int .i64 a, .int .i64 b, .int .i64 c, .string s]] W (fun r w' => (∃ t, r = .returned (.int .i64 t)) ∧ P r W w')) :
    Calls Try.prog 54 #[.pointer (some ⟨E, 0, none⟩), .agg #[.int .i64 11, .int .i64 a, .int .i64 b, .int .i64 c, .string s]] w fun r w' => ∃ W, Below w.heap.size w W ∧ P r W w' := by
  have HO0 := Holds.new w 62 #[.int .i64 11, .int .i64 a, .int .i64 b, .int .i64 c, .string s]
  have b0 : Below w.heap.size w (w.alloc (.cells #[.int .i64 11, .int .i64 a, .int .i64 b, .int .i64 c, .string s] 62)) := (Below.refl _ w).alloc (Nat.le_refl _) _
  have HW : ∃ W0, Hid (W0 = w.alloc (.cells #[.int .i64 11, .int .i64 a, .int .i64 b, .int .i64 c, .string s] 62)) := ⟨_, Lib.hid rfl⟩
  obtain ⟨W0, HW⟩ := HW
  rw [← HW.out] at HO0 b0
  have HC := Lib.hid (hC W0 b0)
  have HB0 := Lib.hid b0
  clear hC b0 HO0 
  go_enter Try.func54, Try.ntmps54
  go_wp2_with fail
  rw [← HW.out]
  go_at_call 74
  (with_reducible refine HC.out.mono ?_)
  rintro r w1 ⟨⟨t, rfl⟩, hp⟩
  have HP := Lib.hid hp
  clear hp HC
  go_wp2_with fail
  go_ret
  exact ⟨W0, HB0.out, HP.out⟩

set_option maxHeartbeats 1000000 in
set_option maxRecDepth 100000 in
theorem cResult_more {E : Nat} {w : World} {P : Ending → World → World → Prop} (kd a b c : Int) (s : ByteArray) (h : kd < 0 ∨ 11 < kd) (hC : ∀ W, Below w.heap.size w W → Calls Try.prog 75 #[.pointer (some ⟨E, 0, none⟩), .agg #[.int .i64 kd, .int .i64 a, .int .i64 b, .int .i64 c, .string s]] W (fun r w' => (∃ t, r = .returned (.int .i64 t)) ∧ P r W w')) :
    Calls Try.prog 54 #[.pointer (some ⟨E, 0, none⟩), .agg #[.int .i64 kd, .int .i64 a, .int .i64 b, .int .i64 c, .string s]] w fun r w' => ∃ W, Below w.heap.size w W ∧ P r W w' := by
  have HO0 := Holds.new w 62 #[.int .i64 kd, .int .i64 a, .int .i64 b, .int .i64 c, .string s]
  have b0 : Below w.heap.size w (w.alloc (.cells #[.int .i64 kd, .int .i64 a, .int .i64 b, .int .i64 c, .string s] 62)) := (Below.refl _ w).alloc (Nat.le_refl _) _
  have HW : ∃ W0, Hid (W0 = w.alloc (.cells #[.int .i64 kd, .int .i64 a, .int .i64 b, .int .i64 c, .string s] 62)) := ⟨_, Lib.hid rfl⟩
  obtain ⟨W0, HW⟩ := HW
  rw [← HW.out] at HO0 b0
  have q0 : (kd == 0) = false := by rw [beq_eq_false_iff_ne]; omega
  have q1 : (kd == 1) = false := by rw [beq_eq_false_iff_ne]; omega
  have q2 : (kd == 2) = false := by rw [beq_eq_false_iff_ne]; omega
  have q3 : (kd == 3) = false := by rw [beq_eq_false_iff_ne]; omega
  have q4 : (kd == 4) = false := by rw [beq_eq_false_iff_ne]; omega
  have q5 : (kd == 5) = false := by rw [beq_eq_false_iff_ne]; omega
  have q6 : (kd == 6) = false := by rw [beq_eq_false_iff_ne]; omega
  have q7 : (kd == 7) = false := by rw [beq_eq_false_iff_ne]; omega
  have q8 : (kd == 8) = false := by rw [beq_eq_false_iff_ne]; omega
  have q9 : (kd == 9) = false := by rw [beq_eq_false_iff_ne]; omega
  have q10 : (kd == 10) = false := by rw [beq_eq_false_iff_ne]; omega
  have q11 : (kd == 11) = false := by rw [beq_eq_false_iff_ne]; omega
  have HC := Lib.hid (hC W0 b0)
  have HB0 := Lib.hid b0
  clear hC b0 HO0 h
  go_enter Try.func54, Try.ntmps54
  go_wp2_with fail
  rw [← HW.out]
  go_at_call 75
  (with_reducible refine HC.out.mono ?_)
  rintro r w1 ⟨⟨t, rfl⟩, hp⟩
  have HP := Lib.hid hp
  clear hp HC
  go_wp2_with fail
  go_ret
  exact ⟨W0, HB0.out, HP.out⟩
end Go.Proofs.Ytlalkpgipenkaaa
