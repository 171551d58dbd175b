/- Part 12 of what the statement wants. -/
import Derived.Deep.RegionHeld3
import Derived.Deep.RegionWith
import Derived.BigRegion
import Derived.Test.YtkigohenfaomkaaGreatPk07
import Derived.Test.YtkigohenfaomkaaGreatPk11
namespace Go.Proofs.YtkigohenfaomkaaGreat
open Go.RowKit

structure OpR where
  kind : Int
  a : Int
  b : Int
  c : Int
  s : List UInt8
def OpR.cells (o : OpR) : Array Value := #[.int .i64 o.kind, .int .i64 o.a, .int .i64 o.b, .int .i64 o.c, .string (bs o.s)]
def OpR.value (o : OpR) : Value := .agg o.cells

/-- Block E is an evaluation over the arena at A; it and its lists lie outside of F. -/
def EvOf (F : Nat → Prop) (E A : Nat) (had : Int) (known sent rs : List Int) (w : World) : Prop :=
  ∃ vk vs vr, Holds w E 55 #[.pointer (some ⟨A, 0, none⟩), .int .i64 had, vk, vs, vr] ∧ IdsAt w vk known ∧ IdsAt w vs sent ∧ IdsAt w vr rs ∧ ¬ F E ∧
    (∀ k, vk.ownBlock = some k → ¬ F k) ∧ (∀ k, vs.ownBlock = some k → ¬ F k) ∧ (∀ k, vr.ownBlock = some k → ¬ F k)
theorem EvOf.moves {F : Nat → Prop} {E A : Nat} {had : Int} {known sent rs : List Int} {w w' : World} (h : EvOf F E A had known sent rs w) (m : Moves F w w') : EvOf F E A had known sent rs w' := by
  obtain ⟨vk, vs, vr, h0, h1, h2, h3, n0, n1, n2, n3⟩ := h
  exact ⟨vk, vs, vr, h0.moves m n0, h1.moves m n1, h2.moves m n2, h3.moves m n3, n0, n1, n2, n3⟩
theorem EvOf.step {F : Nat → Prop} {E A : Nat} {had : Int} {known sent rs : List Int} {w : World} (h : EvOf F E A had known sent rs w) (i : Int) :
    Calls Tryz.prog 54 #[.pointer (some ⟨E, 0, none⟩), .int .i64 i] w fun r w' => r = .returned (.int .i64 (atZ rs i)) ∧ w' = w := by
  obtain ⟨vk, vs, vr, h0, h1, h2, h3, _⟩ := h
  exact cStep_any (h0.cell 4) h3 i

set_option maxHeartbeats 1000000 in
set_option maxRecDepth 100000 in
theorem cResult_data {B A E : Nat} {L : List Ent} {F : Nat → Prop} {had : Int} {known sent rs : List Int} {w : World} (ha : ArenaAt B A L F w) (hlen : L.length < 1073741824) (he : EvOf F E A had known sent rs w) (a b c : Int) (s : ByteArray) (hs : s.size ≤ 1000000) :
    Calls Tryz.prog 21 #[.pointer (some ⟨E, 0, none⟩), .agg #[.int .i64 0, .int .i64 a, .int .i64 b, .int .i64 c, .string s]] w fun r w' => ∃ m, r = .returned (.int .i64 m.1) ∧ m = dataM L s ∧ Left B A m.2 F w w' := by
  have hFw : ∀ i, F i → i < w.heap.size := fun i hi => (ha.lt i hi).2
  have hO := Holds.new w 43 #[.int .i64 0, .int .i64 a, .int .i64 b, .int .i64 c, .string s]
  have b0 : Below w.heap.size w (w.alloc (.cells #[.int .i64 0, .int .i64 a, .int .i64 b, .int .i64 c, .string s] 43)) := (Below.refl _ w).alloc (Nat.le_refl _) _
  have HW : ∃ W0, Hid (W0 = w.alloc (.cells #[.int .i64 0, .int .i64 a, .int .i64 b, .int .i64 c, .string s] 43)) := ⟨_, Lib.hid rfl⟩
  obtain ⟨W0, HW⟩ := HW
  rw [← HW.out] at hO b0
  have hE := he.moves (Moves.ofBelow b0)
  have md : Moves F W0 W0.drew := (Moves.refl F W0).drew
  have hEd := hE.moves md
  have nO : ¬ F w.heap.size := fun h => Nat.lt_irrefl _ (hFw _ h)
  have HCl : Hid (∀ W, Moves F W0.drew W → W.cell? ⟨E, 0, none⟩ = some (.pointer (some ⟨A, 0, none⟩)) ∧ W.cell? ⟨w.heap.size, 4, none⟩ = some (.string s)) := fun W m => by
    have hOd := hO.moves (md.trans m (fun i hi => .inl hi)) nO
    obtain ⟨vk, vs, vr, h0, _⟩ := hEd.moves m
    exact ⟨h0.cell 0, hOd.cell 4⟩
  obtain ⟨e0, e4⟩ := HCl.out _ (Moves.refl F W0.drew)
  have bd : Below w.heap.size w W0.drew := b0.drew
  have HX := Lib.hid (Data_any (ha.below bd) hlen s (by omega))
  have HBd := Lib.hid bd
  have c0 := hO.cell 0
  clear hFw ha he b0 hE nO hlen md hEd bd hO hs
  go_enter Tryz.func21, Tryz.ntmps21
  go_wp2_with fail
  rw [← HW.out]
  go_region_held3 (fun w' => w'.cell? ⟨E, 0, none⟩ = some (.pointer (some ⟨A, 0, none⟩)) ∧ w'.cell? ⟨w.heap.size, 4, none⟩ = some (.string s))
    (first | with_reducible exact ⟨e0, e4⟩ | with_reducible exact ⟨z0, z4⟩ | go_keep)
    (first
      | (go_at_call 16; (with_reducible refine HX.out.mono ?_); rintro r w3 ⟨rfl, hl3⟩; obtain ⟨z0, z4⟩ := HCl.out _ hl3.moves; have HL := Lib.hid hl3; clear hl3))
  all_goals
    go_wp2_with fail
    go_ret
    exact ⟨_, rfl, rfl, Left.after (Moves.ofBelow HBd.out) HL.out⟩
set_option maxHeartbeats 1000000 in
set_option maxRecDepth 100000 in
theorem cResult_nonce {B A E : Nat} {L : List Ent} {F : Nat → Prop} {had : Int} {known sent rs : List Int} {w : World} (ha : ArenaAt B A L F w) (hlen : L.length < 1073741824) (he : EvOf F E A had known sent rs w) (a b c : Int) (s : ByteArray) (hs : s.size ≤ 1000000) :
    Calls Tryz.prog 21 #[.pointer (some ⟨E, 0, none⟩), .agg #[.int .i64 1, .int .i64 a, .int .i64 b, .int .i64 c, .string s]] w fun r w' => ∃ m, r = .returned (.int .i64 m.1) ∧ m = nonceM L 0 a ∧ Left B A m.2 F w w' := by
  have hFw : ∀ i, F i → i < w.heap.size := fun i hi => (ha.lt i hi).2
  have hO := Holds.new w 43 #[.int .i64 1, .int .i64 a, .int .i64 b, .int .i64 c, .string s]
  have b0 : Below w.heap.size w (w.alloc (.cells #[.int .i64 1, .int .i64 a, .int .i64 b, .int .i64 c, .string s] 43)) := (Below.refl _ w).alloc (Nat.le_refl _) _
  have HW : ∃ W0, Hid (W0 = w.alloc (.cells #[.int .i64 1, .int .i64 a, .int .i64 b, .int .i64 c, .string s] 43)) := ⟨_, Lib.hid rfl⟩
  obtain ⟨W0, HW⟩ := HW
  rw [← HW.out] at hO b0
  have hE := he.moves (Moves.ofBelow b0)
  have md : Moves F W0 W0.drew := (Moves.refl F W0).drew
  have hEd := hE.moves md
  have nO : ¬ F w.heap.size := fun h => Nat.lt_irrefl _ (hFw _ h)
  have HCl : Hid (∀ W, Moves F W0.drew W → W.cell? ⟨E, 0, none⟩ = some (.pointer (some ⟨A, 0, none⟩)) ∧ W.cell? ⟨w.heap.size, 1, none⟩ = some (.int .i64 a)) := fun W m => by
    have hOd := hO.moves (md.trans m (fun i hi => .inl hi)) nO
    obtain ⟨vk, vs, vr, h0, _⟩ := hEd.moves m
    exact ⟨h0.cell 0, hOd.cell 1⟩
  obtain ⟨e0, e1⟩ := HCl.out _ (Moves.refl F W0.drew)
  have bd : Below w.heap.size w W0.drew := b0.drew
  have HX := Lib.hid (Nonce_any (ha.below bd) hlen 0 a)
  have HBd := Lib.hid bd
  have c0 := hO.cell 0
  clear hFw ha he b0 hE nO hlen md hEd bd hO hs
  go_enter Tryz.func21, Tryz.ntmps21
  go_wp2_with fail
  rw [← HW.out]
  go_region_held3 (fun w' => w'.cell? ⟨E, 0, none⟩ = some (.pointer (some ⟨A, 0, none⟩)) ∧ w'.cell? ⟨w.heap.size, 1, none⟩ = some (.int .i64 a))
    (first | with_reducible exact ⟨e0, e1⟩ | with_reducible exact ⟨z0, z1⟩ | go_keep)
    (first
      | (go_at_call 31; (with_reducible refine HX.out.mono ?_); rintro r w3 ⟨rfl, hl3⟩; obtain ⟨z0, z1⟩ := HCl.out _ hl3.moves; have HL := Lib.hid hl3; clear hl3))
  all_goals
    go_wp2_with fail
    go_ret
    exact ⟨_, rfl, rfl, Left.after (Moves.ofBelow HBd.out) HL.out⟩
set_option maxHeartbeats 1000000 in
set_option maxRecDepth 100000 in
theorem cResult_base {B A E : Nat} {L : List Ent} {F : Nat → Prop} {had : Int} {known sent rs : List Int} {w : World} (ha : ArenaAt B A L F w) (hlen : L.length < 1073741824) (he : EvOf F E A had known sent rs w) (a b c : Int) (s : ByteArray) (hs : s.size ≤ 1000000) :
    Calls Tryz.prog 21 #[.pointer (some ⟨E, 0, none⟩), .agg #[.int .i64 4, .int .i64 a, .int .i64 b, .int .i64 c, .string s]] w fun r w' => ∃ m, r = .returned (.int .i64 m.1) ∧ m = baseM L s ∧ Left B A m.2 F w w' := by
  have hFw : ∀ i, F i → i < w.heap.size := fun i hi => (ha.lt i hi).2
  have hO := Holds.new w 43 #[.int .i64 4, .int .i64 a, .int .i64 b, .int .i64 c, .string s]
  have b0 : Below w.heap.size w (w.alloc (.cells #[.int .i64 4, .int .i64 a, .int .i64 b, .int .i64 c, .string s] 43)) := (Below.refl _ w).alloc (Nat.le_refl _) _
  have HW : ∃ W0, Hid (W0 = w.alloc (.cells #[.int .i64 4, .int .i64 a, .int .i64 b, .int .i64 c, .string s] 43)) := ⟨_, Lib.hid rfl⟩
  obtain ⟨W0, HW⟩ := HW
  rw [← HW.out] at hO b0
  have hE := he.moves (Moves.ofBelow b0)
  have md : Moves F W0 W0.drew := (Moves.refl F W0).drew
  have hEd := hE.moves md
  have nO : ¬ F w.heap.size := fun h => Nat.lt_irrefl _ (hFw _ h)
  have HCl : Hid (∀ W, Moves F W0.drew W → W.cell? ⟨E, 0, none⟩ = some (.pointer (some ⟨A, 0, none⟩)) ∧ W.cell? ⟨w.heap.size, 4, none⟩ = some (.string s)) := fun W m => by
    have hOd := hO.moves (md.trans m (fun i hi => .inl hi)) nO
    obtain ⟨vk, vs, vr, h0, _⟩ := hEd.moves m
    exact ⟨h0.cell 0, hOd.cell 4⟩
  obtain ⟨e0, e4⟩ := HCl.out _ (Moves.refl F W0.drew)
  have bd : Below w.heap.size w W0.drew := b0.drew
  have HX := Lib.hid (Base_any (ha.below bd) hlen s (by omega))
  have HBd := Lib.hid bd
  have c0 := hO.cell 0
  clear hFw ha he b0 hE nO hlen md hEd bd hO hs
  go_enter Tryz.func21, Tryz.ntmps21
  go_wp2_with fail
  rw [← HW.out]
  go_region_held3 (fun w' => w'.cell? ⟨E, 0, none⟩ = some (.pointer (some ⟨A, 0, none⟩)) ∧ w'.cell? ⟨w.heap.size, 4, none⟩ = some (.string s))
    (first | with_reducible exact ⟨e0, e4⟩ | with_reducible exact ⟨z0, z4⟩ | go_keep)
    (first
      | (go_at_call 34; (with_reducible refine HX.out.mono ?_); rintro r w3 ⟨rfl, hl3⟩; obtain ⟨z0, z4⟩ := HCl.out _ hl3.moves; have HL := Lib.hid hl3; clear hl3))
  all_goals
    go_wp2_with fail
    go_ret
    exact ⟨_, rfl, rfl, Left.after (Moves.ofBelow HBd.out) HL.out⟩
set_option maxHeartbeats 1000000 in
set_option maxRecDepth 100000 in
theorem cResult_exp {B A E : Nat} {L : List Ent} {F : Nat → Prop} {had : Int} {known sent rs : List Int} {w : World} (ha : ArenaAt B A L F w) (hlen : L.length < 1073741824) (he : EvOf F E A had known sent rs w) (a b c : Int) (s : ByteArray) (hs : s.size ≤ 1000000) :
    Calls Tryz.prog 21 #[.pointer (some ⟨E, 0, none⟩), .agg #[.int .i64 5, .int .i64 a, .int .i64 b, .int .i64 c, .string s]] w fun r w' => ∃ m, r = .returned (.int .i64 m.1) ∧ ExpTo L (atZ rs a) (atZ rs b) m ∧ Left B A m.2 F w w' := by
  have hFw : ∀ i, F i → i < w.heap.size := fun i hi => (ha.lt i hi).2
  have hO := Holds.new w 43 #[.int .i64 5, .int .i64 a, .int .i64 b, .int .i64 c, .string s]
  have b0 : Below w.heap.size w (w.alloc (.cells #[.int .i64 5, .int .i64 a, .int .i64 b, .int .i64 c, .string s] 43)) := (Below.refl _ w).alloc (Nat.le_refl _) _
  have HW : ∃ W0, Hid (W0 = w.alloc (.cells #[.int .i64 5, .int .i64 a, .int .i64 b, .int .i64 c, .string s] 43)) := ⟨_, Lib.hid rfl⟩
  obtain ⟨W0, HW⟩ := HW
  rw [← HW.out] at hO b0
  have hE := he.moves (Moves.ofBelow b0)
  have md : Moves F W0 W0.drew := (Moves.refl F W0).drew
  have hEd := hE.moves md
  have nO : ¬ F w.heap.size := fun h => Nat.lt_irrefl _ (hFw _ h)
  have HCl : Hid (∀ W, Moves F W0.drew W → W.cell? ⟨E, 0, none⟩ = some (.pointer (some ⟨A, 0, none⟩)) ∧ W.cell? ⟨w.heap.size, 1, none⟩ = some (.int .i64 a) ∧ W.cell? ⟨w.heap.size, 2, none⟩ = some (.int .i64 b)) := fun W m => by
    have hOd := hO.moves (md.trans m (fun i hi => .inl hi)) nO
    obtain ⟨vk, vs, vr, h0, _⟩ := hEd.moves m
    exact ⟨h0.cell 0, hOd.cell 1, hOd.cell 2⟩
  obtain ⟨e0, e1, e2⟩ := HCl.out _ (Moves.refl F W0.drew)
  have HSa := Lib.hid (hEd.step a)
  have HSb := Lib.hid (hEd.step b)
  have bd : Below w.heap.size w W0.drew := b0.drew
  have HX := Lib.hid (Exp_any (ha.below bd) hlen (atZ rs a) (atZ rs b))
  have HBd := Lib.hid bd
  have c0 := hO.cell 0
  clear hFw ha he b0 hE nO hlen md hEd bd hO hs
  generalize atZ rs a = x at *
  generalize atZ rs b = y at *
  go_enter Tryz.func21, Tryz.ntmps21
  go_wp2_with fail
  rw [← HW.out]
  go_region_held3 (fun w' => w'.cell? ⟨E, 0, none⟩ = some (.pointer (some ⟨A, 0, none⟩)) ∧ w'.cell? ⟨w.heap.size, 1, none⟩ = some (.int .i64 a) ∧ w'.cell? ⟨w.heap.size, 2, none⟩ = some (.int .i64 b))
    (first | with_reducible exact ⟨e0, e1, e2⟩ | with_reducible exact ⟨z0, z1, z2⟩ | go_keep)
    (first
      | (go_at_call 54; (with_reducible refine HSa.out.mono ?_); rintro r w' ⟨rfl, hw⟩; have hw := hw.symm; subst hw)
      | (go_at_call 54; (with_reducible refine HSb.out.mono ?_); rintro r w' ⟨rfl, hw⟩; have hw := hw.symm; subst hw)
      | (go_at_call 35; (with_reducible refine HX.out.mono ?_); rintro r w3 ⟨m, hm, rfl, hl3⟩; obtain ⟨z0, z1, z2⟩ := HCl.out _ hl3.moves; have HM := Lib.hid hm; have HL := Lib.hid hl3; clear hm hl3))
  all_goals
    go_wp2_with fail
    go_ret
    exact ⟨_, rfl, HM.out, Left.after (Moves.ofBelow HBd.out) HL.out⟩
set_option maxHeartbeats 1000000 in
set_option maxRecDepth 100000 in
theorem cResult_pub {B A E : Nat} {L : List Ent} {F : Nat → Prop} {had : Int} {known sent rs : List Int} {w : World} (ha : ArenaAt B A L F w) (hlen : L.length < 1073741824) (he : EvOf F E A had known sent rs w) (a b c : Int) (s : ByteArray) (hs : s.size ≤ 1000000) :
    Calls Tryz.prog 21 #[.pointer (some ⟨E, 0, none⟩), .agg #[.int .i64 6, .int .i64 a, .int .i64 b, .int .i64 c, .string s]] w fun r w' => ∃ m, r = .returned (.int .i64 m.1) ∧ m = pubM L (atZ rs a) ∧ Left B A m.2 F w w' := by
  have hFw : ∀ i, F i → i < w.heap.size := fun i hi => (ha.lt i hi).2
  have hO := Holds.new w 43 #[.int .i64 6, .int .i64 a, .int .i64 b, .int .i64 c, .string s]
  have b0 : Below w.heap.size w (w.alloc (.cells #[.int .i64 6, .int .i64 a, .int .i64 b, .int .i64 c, .string s] 43)) := (Below.refl _ w).alloc (Nat.le_refl _) _
  have HW : ∃ W0, Hid (W0 = w.alloc (.cells #[.int .i64 6, .int .i64 a, .int .i64 b, .int .i64 c, .string s] 43)) := ⟨_, Lib.hid rfl⟩
  obtain ⟨W0, HW⟩ := HW
  rw [← HW.out] at hO b0
  have hE := he.moves (Moves.ofBelow b0)
  have md : Moves F W0 W0.drew := (Moves.refl F W0).drew
  have hEd := hE.moves md
  have nO : ¬ F w.heap.size := fun h => Nat.lt_irrefl _ (hFw _ h)
  have HCl : Hid (∀ W, Moves F W0.drew W → W.cell? ⟨E, 0, none⟩ = some (.pointer (some ⟨A, 0, none⟩)) ∧ W.cell? ⟨w.heap.size, 1, none⟩ = some (.int .i64 a)) := fun W m => by
    have hOd := hO.moves (md.trans m (fun i hi => .inl hi)) nO
    obtain ⟨vk, vs, vr, h0, _⟩ := hEd.moves m
    exact ⟨h0.cell 0, hOd.cell 1⟩
  obtain ⟨e0, e1⟩ := HCl.out _ (Moves.refl F W0.drew)
  have HSa := Lib.hid (hEd.step a)
  have bd : Below w.heap.size w W0.drew := b0.drew
  have HX := Lib.hid (Pub_any (ha.below bd) hlen (atZ rs a))
  have HBd := Lib.hid bd
  have c0 := hO.cell 0
  clear hFw ha he b0 hE nO hlen md hEd bd hO hs
  generalize atZ rs a = x at *
  go_enter Tryz.func21, Tryz.ntmps21
  go_wp2_with fail
  rw [← HW.out]
  go_region_held3 (fun w' => w'.cell? ⟨E, 0, none⟩ = some (.pointer (some ⟨A, 0, none⟩)) ∧ w'.cell? ⟨w.heap.size, 1, none⟩ = some (.int .i64 a))
    (first | with_reducible exact ⟨e0, e1⟩ | with_reducible exact ⟨z0, z1⟩ | go_keep)
    (first
      | (go_at_call 54; (with_reducible refine HSa.out.mono ?_); rintro r w' ⟨rfl, hw⟩; have hw := hw.symm; subst hw)
      | (go_at_call 33; (with_reducible refine HX.out.mono ?_); rintro r w3 ⟨rfl, hl3⟩; obtain ⟨z0, z1⟩ := HCl.out _ hl3.moves; have HL := Lib.hid hl3; clear hl3))
  all_goals
    go_wp2_with fail
    go_ret
    exact ⟨_, rfl, rfl, Left.after (Moves.ofBelow HBd.out) HL.out⟩
set_option maxHeartbeats 1000000 in
set_option maxRecDepth 100000 in
theorem cResult_sign {B A E : Nat} {L : List Ent} {F : Nat → Prop} {had : Int} {known sent rs : List Int} {w : World} (ha : ArenaAt B A L F w) (hlen : L.length < 1073741824) (he : EvOf F E A had known sent rs w) (a b c : Int) (s : ByteArray) (hs : s.size ≤ 1000000) :
    Calls Tryz.prog 21 #[.pointer (some ⟨E, 0, none⟩), .agg #[.int .i64 7, .int .i64 a, .int .i64 b, .int .i64 c, .string s]] w fun r w' => ∃ m, r = .returned (.int .i64 m.1) ∧ m = signM L s (atZ rs a) (atZ rs b) ∧ Left B A m.2 F w w' := by
  have hFw : ∀ i, F i → i < w.heap.size := fun i hi => (ha.lt i hi).2
  have hO := Holds.new w 43 #[.int .i64 7, .int .i64 a, .int .i64 b, .int .i64 c, .string s]
  have b0 : Below w.heap.size w (w.alloc (.cells #[.int .i64 7, .int .i64 a, .int .i64 b, .int .i64 c, .string s] 43)) := (Below.refl _ w).alloc (Nat.le_refl _) _
  have HW : ∃ W0, Hid (W0 = w.alloc (.cells #[.int .i64 7, .int .i64 a, .int .i64 b, .int .i64 c, .string s] 43)) := ⟨_, Lib.hid rfl⟩
  obtain ⟨W0, HW⟩ := HW
  rw [← HW.out] at hO b0
  have hE := he.moves (Moves.ofBelow b0)
  have md : Moves F W0 W0.drew := (Moves.refl F W0).drew
  have hEd := hE.moves md
  have nO : ¬ F w.heap.size := fun h => Nat.lt_irrefl _ (hFw _ h)
  have HCl : Hid (∀ W, Moves F W0.drew W → W.cell? ⟨E, 0, none⟩ = some (.pointer (some ⟨A, 0, none⟩)) ∧ W.cell? ⟨w.heap.size, 1, none⟩ = some (.int .i64 a) ∧ W.cell? ⟨w.heap.size, 2, none⟩ = some (.int .i64 b) ∧ W.cell? ⟨w.heap.size, 4, none⟩ = some (.string s)) := fun W m => by
    have hOd := hO.moves (md.trans m (fun i hi => .inl hi)) nO
    obtain ⟨vk, vs, vr, h0, _⟩ := hEd.moves m
    exact ⟨h0.cell 0, hOd.cell 1, hOd.cell 2, hOd.cell 4⟩
  obtain ⟨e0, e1, e2, e4⟩ := HCl.out _ (Moves.refl F W0.drew)
  have HSa := Lib.hid (hEd.step a)
  have HSb := Lib.hid (hEd.step b)
  have bd : Below w.heap.size w W0.drew := b0.drew
  have HX := Lib.hid (Sign_any (ha.below bd) hlen s (by omega) (atZ rs a) (atZ rs b))
  have HBd := Lib.hid bd
  have c0 := hO.cell 0
  clear hFw ha he b0 hE nO hlen md hEd bd hO hs
  generalize atZ rs a = x at *
  generalize atZ rs b = y at *
  go_enter Tryz.func21, Tryz.ntmps21
  go_wp2_with fail
  rw [← HW.out]
  go_region_held3 (fun w' => w'.cell? ⟨E, 0, none⟩ = some (.pointer (some ⟨A, 0, none⟩)) ∧ w'.cell? ⟨w.heap.size, 1, none⟩ = some (.int .i64 a) ∧ w'.cell? ⟨w.heap.size, 2, none⟩ = some (.int .i64 b) ∧ w'.cell? ⟨w.heap.size, 4, none⟩ = some (.string s))
    (first | with_reducible exact ⟨e0, e1, e2, e4⟩ | with_reducible exact ⟨z0, z1, z2, z4⟩ | go_keep)
    (first
      | (go_at_call 54; (with_reducible refine HSa.out.mono ?_); rintro r w' ⟨rfl, hw⟩; have hw := hw.symm; subst hw)
      | (go_at_call 54; (with_reducible refine HSb.out.mono ?_); rintro r w' ⟨rfl, hw⟩; have hw := hw.symm; subst hw)
      | (go_at_call 36; (with_reducible refine HX.out.mono ?_); rintro r w3 ⟨rfl, hl3⟩; obtain ⟨z0, z1, z2, z4⟩ := HCl.out _ hl3.moves; have HL := Lib.hid hl3; clear hl3))
  all_goals
    go_wp2_with fail
    go_ret
    exact ⟨_, rfl, rfl, Left.after (Moves.ofBelow HBd.out) HL.out⟩
set_option maxHeartbeats 1000000 in
set_option maxRecDepth 100000 in
theorem cResult_hash {B A E : Nat} {L : List Ent} {F : Nat → Prop} {had : Int} {known sent rs : List Int} {w : World} (ha : ArenaAt B A L F w) (hlen : L.length < 1073741824) (he : EvOf F E A had known sent rs w) (a b c : Int) (s : ByteArray) (hs : s.size ≤ 1000000) :
    Calls Tryz.prog 21 #[.pointer (some ⟨E, 0, none⟩), .agg #[.int .i64 8, .int .i64 a, .int .i64 b, .int .i64 c, .string s]] w fun r w' => ∃ m, r = .returned (.int .i64 m.1) ∧ m = hashM L (atZ rs a) ∧ Left B A m.2 F w w' := by
  have hFw : ∀ i, F i → i < w.heap.size := fun i hi => (ha.lt i hi).2
  have hO := Holds.new w 43 #[.int .i64 8, .int .i64 a, .int .i64 b, .int .i64 c, .string s]
  have b0 : Below w.heap.size w (w.alloc (.cells #[.int .i64 8, .int .i64 a, .int .i64 b, .int .i64 c, .string s] 43)) := (Below.refl _ w).alloc (Nat.le_refl _) _
  have HW : ∃ W0, Hid (W0 = w.alloc (.cells #[.int .i64 8, .int .i64 a, .int .i64 b, .int .i64 c, .string s] 43)) := ⟨_, Lib.hid rfl⟩
  obtain ⟨W0, HW⟩ := HW
  rw [← HW.out] at hO b0
  have hE := he.moves (Moves.ofBelow b0)
  have md : Moves F W0 W0.drew := (Moves.refl F W0).drew
  have hEd := hE.moves md
  have nO : ¬ F w.heap.size := fun h => Nat.lt_irrefl _ (hFw _ h)
  have HCl : Hid (∀ W, Moves F W0.drew W → W.cell? ⟨E, 0, none⟩ = some (.pointer (some ⟨A, 0, none⟩)) ∧ W.cell? ⟨w.heap.size, 1, none⟩ = some (.int .i64 a)) := fun W m => by
    have hOd := hO.moves (md.trans m (fun i hi => .inl hi)) nO
    obtain ⟨vk, vs, vr, h0, _⟩ := hEd.moves m
    exact ⟨h0.cell 0, hOd.cell 1⟩
  obtain ⟨e0, e1⟩ := HCl.out _ (Moves.refl F W0.drew)
  have HSa := Lib.hid (hEd.step a)
  have bd : Below w.heap.size w W0.drew := b0.drew
  have HX := Lib.hid (Hash_any (ha.below bd) hlen (atZ rs a))
  have HBd := Lib.hid bd
  have c0 := hO.cell 0
  clear hFw ha he b0 hE nO hlen md hEd bd hO hs
  generalize atZ rs a = x at *
  go_enter Tryz.func21, Tryz.ntmps21
  go_wp2_with fail
  rw [← HW.out]
  go_region_held3 (fun w' => w'.cell? ⟨E, 0, none⟩ = some (.pointer (some ⟨A, 0, none⟩)) ∧ w'.cell? ⟨w.heap.size, 1, none⟩ = some (.int .i64 a))
    (first | with_reducible exact ⟨e0, e1⟩ | with_reducible exact ⟨z0, z1⟩ | go_keep)
    (first
      | (go_at_call 54; (with_reducible refine HSa.out.mono ?_); rintro r w' ⟨rfl, hw⟩; have hw := hw.symm; subst hw)
      | (go_at_call 15; (with_reducible refine HX.out.mono ?_); rintro r w3 ⟨rfl, hl3⟩; obtain ⟨z0, z1⟩ := HCl.out _ hl3.moves; have HL := Lib.hid hl3; clear hl3))
  all_goals
    go_wp2_with fail
    go_ret
    exact ⟨_, rfl, rfl, Left.after (Moves.ofBelow HBd.out) HL.out⟩
end Go.Proofs.YtkigohenfaomkaaGreat
