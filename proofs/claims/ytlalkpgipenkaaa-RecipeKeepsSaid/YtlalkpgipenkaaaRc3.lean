/- Layer 14: derived, sealed. -/
import Derived.Test.YtlalkpgipenkaaaRc2
namespace Go.Proofs.Ytlalkpgipenkaaa
open Go.RowKit

theorem conv_seq (n : Nat) (hn : n ≤ 4294967295) (W : World) : (convert 3 57 (.int .i64 (n : Int))).run Try.prog W = .ok (.int .u32 (n : Int)) W := by
  have h : IntKind.u32.wrap (n : Int) = n := by rw [IntKind.wrap_u32]; omega
  simp [go_sem, Try.underlying3, Try.underlying57, h]
set_option maxHeartbeats 1000000 in
set_option maxRecDepth 100000 in
theorem cDerived_yes {B A E : Nat} {L : List Ent} {F : Nat → Prop} {had : Int} {known sent rs : List Int} {w : World} (ha : ArenaAt B A L F w) (hlen : L.length < 1073741824) (he : EvOf F E A had known sent rs w) (a b c : Int) (s : ByteArray) (hs : s.size ≤ 1000000) (kd : Int) (q0 : s.toList.isEmpty = false) (ch : Nat) (hch : ch ≤ 255) (hidx : ∀ W, (Instr.index 9 (.string s) (.int .i64 0)).run Try.prog W = .ok (.int .u8 (ch : Int)) W) :
    Calls Try.prog 72 #[.pointer (some ⟨E, 0, none⟩), .agg #[.int .i64 kd, .int .i64 a, .int .i64 b, .int .i64 c, .string s]] w fun r w' => ∃ m, r = .returned (.int .i64 m.1) ∧ m = deriveM L ch (atZ rs a) (atZ rs b) (atZ rs c) ∧ Left B A m.2 F w w' := by
  have hFw : ∀ i, F i → i < w.heap.size := fun i hi => (ha.lt i hi).2
  have hO := Holds.new w 62 #[.int .i64 kd, .int .i64 a, .int .i64 b, .int .i64 c, .string s]
  have b0 : Below w.heap.size w (w.alloc (.cells #[.int .i64 kd, .int .i64 a, .int .i64 b, .int .i64 c, .string s] 62)) := (Below.refl _ w).alloc (Nat.le_refl _) _
  have HW : ∃ W0, Hid (W0 = w.alloc (.cells #[.int .i64 kd, .int .i64 a, .int .i64 b, .int .i64 c, .string s] 62)) := ⟨_, Lib.hid rfl⟩
  obtain ⟨W0, HW⟩ := HW
  rw [← HW.out] at hO b0
  have hE := he.moves (Moves.ofBelow b0)
  have md : Moves F W0 W0.drew := (Moves.refl F W0).drew
  have hEd := hE.moves md
  have nO : ¬ F w.heap.size := fun h => Nat.lt_irrefl _ (hFw _ h)
  have HCl : Hid (∀ W, Moves F W0.drew W → W.cell? ⟨E, 0, none⟩ = some (.pointer (some ⟨A, 0, none⟩)) ∧ W.cell? ⟨w.heap.size, 1, none⟩ = some (.int .i64 a) ∧ W.cell? ⟨w.heap.size, 2, none⟩ = some (.int .i64 b) ∧ W.cell? ⟨w.heap.size, 3, none⟩ = some (.int .i64 c) ∧ W.cell? ⟨w.heap.size, 4, none⟩ = some (.string s)) := fun W m => by
    have hOd := hO.moves (md.trans m (fun i hi => .inl hi)) nO
    obtain ⟨vk, vs, vr, h0, _⟩ := hEd.moves m
    exact ⟨h0.cell 0, hOd.cell 1, hOd.cell 2, hOd.cell 3, hOd.cell 4⟩
  obtain ⟨e0, e1, e2, e3, e4⟩ := HCl.out _ (Moves.refl F W0.drew)
  have HSa := Lib.hid (hEd.step a)
  have HSb := Lib.hid (hEd.step b)
  have HSc := Lib.hid (hEd.step c)
  have bd : Below w.heap.size w W0.drew := b0.drew
  have HX := Lib.hid (Derive_any (ha.below bd) hlen ch hch (atZ rs a) (atZ rs b) (atZ rs c))
  have HBd := Lib.hid bd
  have c0 := hO.cell 0
  have c4 := hO.cell 4
  clear hch hFw ha he b0 hE nO hlen md hEd bd hO hs
  generalize atZ rs a = x at *
  generalize atZ rs b = y at *
  generalize atZ rs c = z at *
  go_enter Try.func72, Try.ntmps72
  go_wp2_with fail
  rw [← HW.out]
  go_region_held3 (fun w' => w'.cell? ⟨E, 0, none⟩ = some (.pointer (some ⟨A, 0, none⟩)) ∧ w'.cell? ⟨w.heap.size, 1, none⟩ = some (.int .i64 a) ∧ w'.cell? ⟨w.heap.size, 2, none⟩ = some (.int .i64 b) ∧ w'.cell? ⟨w.heap.size, 3, none⟩ = some (.int .i64 c) ∧ w'.cell? ⟨w.heap.size, 4, none⟩ = some (.string s))
    (first | with_reducible exact ⟨e0, e1, e2, e3, e4⟩ | with_reducible exact ⟨z0, z1, z2, z3, z4⟩ | go_keep)
    (first
      | (go_at_call 71; (with_reducible refine HSa.out.mono ?_); rintro r w' ⟨rfl, hw⟩; have hw := hw.symm; subst hw)
      | (go_at_call 71; (with_reducible refine HSb.out.mono ?_); rintro r w' ⟨rfl, hw⟩; have hw := hw.symm; subst hw)
      | (go_at_call 71; (with_reducible refine HSc.out.mono ?_); rintro r w' ⟨rfl, hw⟩; have hw := hw.symm; subst hw)
      | (go_at_call 33; (with_reducible refine HX.out.mono ?_); rintro r w3 ⟨rfl, hl3⟩; obtain ⟨z0, z1, z2, z3, z4⟩ := HCl.out _ hl3.moves; have HL := Lib.hid hl3; clear hl3))
  all_goals
    go_wp2_with fail
    go_ret
    exact ⟨_, rfl, rfl, Left.after (Moves.ofBelow HBd.out) HL.out⟩
set_option maxHeartbeats 1000000 in
set_option maxRecDepth 100000 in
theorem cSealed_yes {B A E : Nat} {L : List Ent} {F : Nat → Prop} {had : Int} {known sent rs : List Int} {w : World} (ha : ArenaAt B A L F w) (hlen : L.length < 1073741824) (he : EvOf F E A had known sent rs w) (a b : Int) (s : ByteArray) (hs : s.size ≤ 1000000) (kd : Int) (n : Nat) (hn : n ≤ 4294967295) :
    Calls Try.prog 73 #[.pointer (some ⟨E, 0, none⟩), .agg #[.int .i64 kd, .int .i64 a, .int .i64 b, .int .i64 (n : Int), .string s]] w fun r w' => ∃ m, r = .returned (.int .i64 m.1) ∧ m = sealM L (atZ rs a) n (atZ rs b) ∧ Left B A m.2 F w w' := by
  have hFw : ∀ i, F i → i < w.heap.size := fun i hi => (ha.lt i hi).2
  have hO := Holds.new w 62 #[.int .i64 kd, .int .i64 a, .int .i64 b, .int .i64 (n : Int), .string s]
  have b0 : Below w.heap.size w (w.alloc (.cells #[.int .i64 kd, .int .i64 a, .int .i64 b, .int .i64 (n : Int), .string s] 62)) := (Below.refl _ w).alloc (Nat.le_refl _) _
  have HW : ∃ W0, Hid (W0 = w.alloc (.cells #[.int .i64 kd, .int .i64 a, .int .i64 b, .int .i64 (n : Int), .string s] 62)) := ⟨_, Lib.hid rfl⟩
  obtain ⟨W0, HW⟩ := HW
  rw [← HW.out] at hO b0
  have hE := he.moves (Moves.ofBelow b0)
  have md : Moves F W0 W0.drew := (Moves.refl F W0).drew
  have hEd := hE.moves md
  have nO : ¬ F w.heap.size := fun h => Nat.lt_irrefl _ (hFw _ h)
  have HCl : Hid (∀ W, Moves F W0.drew W → W.cell? ⟨E, 0, none⟩ = some (.pointer (some ⟨A, 0, none⟩)) ∧ W.cell? ⟨w.heap.size, 1, none⟩ = some (.int .i64 a) ∧ W.cell? ⟨w.heap.size, 2, none⟩ = some (.int .i64 b) ∧ W.cell? ⟨w.heap.size, 3, none⟩ = some (.int .i64 (n : Int))) := fun W m => by
    have hOd := hO.moves (md.trans m (fun i hi => .inl hi)) nO
    obtain ⟨vk, vs, vr, h0, _⟩ := hEd.moves m
    exact ⟨h0.cell 0, hOd.cell 1, hOd.cell 2, hOd.cell 3⟩
  obtain ⟨e0, e1, e2, e3⟩ := HCl.out _ (Moves.refl F W0.drew)
  have HSa := Lib.hid (hEd.step a)
  have HSb := Lib.hid (hEd.step b)
  have bd : Below w.heap.size w W0.drew := b0.drew
  have HX := Lib.hid (Seal_any (ha.below bd) hlen (atZ rs a) n hn (atZ rs b))
  have HBd := Lib.hid bd
  have c0 := hO.cell 0
  have c3 := hO.cell 3
  have hcv := conv_seq n hn
  clear hFw ha he b0 hE nO hlen md hEd bd hO hs
  generalize atZ rs a = x at *
  generalize atZ rs b = y at *
  go_enter Try.func73, Try.ntmps73
  go_wp2_with fail
  rw [← HW.out]
  go_region_held3 (fun w' => w'.cell? ⟨E, 0, none⟩ = some (.pointer (some ⟨A, 0, none⟩)) ∧ w'.cell? ⟨w.heap.size, 1, none⟩ = some (.int .i64 a) ∧ w'.cell? ⟨w.heap.size, 2, none⟩ = some (.int .i64 b) ∧ w'.cell? ⟨w.heap.size, 3, none⟩ = some (.int .i64 (n : Int)))
    (first | with_reducible exact ⟨e0, e1, e2, e3⟩ | with_reducible exact ⟨z0, z1, z2, z3⟩ | go_keep)
    (first
      | (go_at_call 71; (with_reducible refine HSa.out.mono ?_); rintro r w' ⟨rfl, hw⟩; have hw := hw.symm; subst hw)
      | (go_at_call 71; (with_reducible refine HSb.out.mono ?_); rintro r w' ⟨rfl, hw⟩; have hw := hw.symm; subst hw)
      | (go_at_call 31; (with_reducible refine HX.out.mono ?_); rintro r w3 ⟨rfl, hl3⟩; obtain ⟨z0, z1, z2, z3⟩ := HCl.out _ hl3.moves; have HL := Lib.hid hl3; clear hl3))
  all_goals
    go_wp2_with fail
    go_ret
    exact ⟨_, rfl, rfl, Left.after (Moves.ofBelow HBd.out) HL.out⟩

theorem cDerived_no {E : Nat} {w : World} (kd a b c : Int) : Calls Try.prog 72 #[.pointer (some ⟨E, 0, none⟩), .agg #[.int .i64 kd, .int .i64 a, .int .i64 b, .int .i64 c, .string ⟨#[]⟩]] w fun r w' => r = .returned (.int .i64 (-1)) ∧ Below w.heap.size w w' := by
  go_enter Try.func72, Try.ntmps72
  go_wp2
  go_ret
  exact ⟨rfl, (Below.refl _ _).alloc (Nat.le_refl _) _⟩
theorem cSealed_no {E : Nat} {w : World} (kd a b c : Int) (s : ByteArray) (h : c < 0 ∨ 4294967295 < c) : Calls Try.prog 73 #[.pointer (some ⟨E, 0, none⟩), .agg #[.int .i64 kd, .int .i64 a, .int .i64 b, .int .i64 c, .string s]] w fun r w' => r = .returned (.int .i64 (-1)) ∧ Below w.heap.size w w' := by
  by_cases h0 : c < 0
  · have q1 : decide (c < 0) = true := decide_eq_true h0
    clear h
    go_enter Try.func73, Try.ntmps73
    go_wp2
    go_ret
    exact ⟨rfl, (Below.refl _ _).alloc (Nat.le_refl _) _⟩
  · have q1 : decide (c < 0) = false := decide_eq_false h0
    have q2 : decide (c > 4294967295) = true := decide_eq_true (by omega)
    clear h h0
    go_enter Try.func73, Try.ntmps73
    go_wp2
    go_ret
    exact ⟨rfl, (Below.refl _ _).alloc (Nat.le_refl _) _⟩
end Go.Proofs.Ytlalkpgipenkaaa
