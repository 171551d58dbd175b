/- Part 13 of what the statement wants. -/
import Derived.Test.YtkigohenfaomkaaGreatPk12
namespace Go.Proofs.YtkigohenfaomkaaGreat
open Go.RowKit

theorem conv_seq (n : Nat) (hn : n ≤ 4294967295) (W : World) : (convert 3 81 (.int .i64 (n : Int))).run Tryz.prog W = .ok (.int .u32 (n : Int)) W := by
  have h : IntKind.u32.wrap (n : Int) = n := by rw [IntKind.wrap_u32]; omega
  simp [go_sem, Tryz.underlying3, Tryz.underlying81, h]
set_option maxHeartbeats 1000000 in
set_option maxRecDepth 100000 in
theorem cDerived_yes {B A E : Nat} {L : List Ent} {F : Nat → Prop} {had : Int} {known sent rs : List Int} {w : World} (ha : ArenaAt B A L F w) (hlen : L.length < 1073741824) (he : EvOf F E A had known sent rs w) (a b c : Int) (s : ByteArray) (hs : s.size ≤ 1000000) (kd : Int) (q0 : s.toList.isEmpty = false) (ch : Nat) (hch : ch ≤ 255) (hidx : ∀ W, (Instr.index 9 (.string s) (.int .i64 0)).run Tryz.prog W = .ok (.int .u8 (ch : Int)) W) :
    Calls Tryz.prog 55 #[.pointer (some ⟨E, 0, none⟩), .agg #[.int .i64 kd, .int .i64 a, .int .i64 b, .int .i64 c, .string s]] w fun r w' => ∃ m, r = .returned (.int .i64 m.1) ∧ m = deriveM L ch (atZ rs a) (atZ rs b) (atZ rs c) ∧ Left B A m.2 F w w' := by
  have hFw : ∀ i, F i → i < w.heap.size := fun i hi => (ha.lt i hi).2
  have hO := Holds.new w 43 #[.int .i64 kd, .int .i64 a, .int .i64 b, .int .i64 c, .string s]
  have b0 : Below w.heap.size w (w.alloc (.cells #[.int .i64 kd, .int .i64 a, .int .i64 b, .int .i64 c, .string s] 43)) := (Below.refl _ w).alloc (Nat.le_refl _) _
  have HW : ∃ W0, Hid (W0 = w.alloc (.cells #[.int .i64 kd, .int .i64 a, .int .i64 b, .int .i64 c, .string s] 43)) := ⟨_, Lib.hid rfl⟩
  obtain ⟨W0, HW⟩ := HW
  rw [← HW.out] at hO b0
  have hE := he.moves (Moves.ofBelow b0)
  have md : Moves F W0 W0.drew := (Moves.refl F W0).drew
  have hEd := hE.moves md
  have nO : ¬ F w.heap.size := fun h => Nat.lt_irrefl _ (hFw _ h)
  have HCl : Hid (∀ W, Moves F W0.drew W → W.cell? ⟨E, 0, none⟩ = some (.pointer (some ⟨A, 0, none⟩)) ∧ W.cell? ⟨w.heap.size, 1, none⟩ = some (.int .i64 a) ∧ W.cell? ⟨w.heap.size, 2, none⟩ = some (.int .i64 b) ∧ W.cell? ⟨w.heap.size, 3, none⟩ = some (.int .i64 c) ∧ W.cell? ⟨w.heap.size, 4, none⟩ = some (.string s)) := fun W m => by
    have hOd := hO.moves (md.trans m (fun i hi => .inl hi)) nO
    obtain ⟨vk, vs, vr, h0, _⟩ := hEd.moves m
    exact ⟨h0.cell 0, hOd.cell 1, hOd.cell 2, hOd.cell 3, hOd.cell 4⟩
  obtain ⟨e0, e1, e2, e3, e4⟩ := HCl.out _ (Moves.refl F W0.drew)
  have HSa := Lib.hid (hEd.step a)
  have HSb := Lib.hid (hEd.step b)
  have HSc := Lib.hid (hEd.step c)
  have bd : Below w.heap.size w W0.drew := b0.drew
  have HX := Lib.hid (Derive_any (ha.below bd) hlen ch hch (atZ rs a) (atZ rs b) (atZ rs c))
  have HBd := Lib.hid bd
  have c0 := hO.cell 0
  have c4 := hO.cell 4
  clear hch hFw ha he b0 hE nO hlen md hEd bd hO hs
  generalize atZ rs a = x at *
  generalize atZ rs b = y at *
  generalize atZ rs c = z at *
  go_enter Tryz.func55, Tryz.ntmps55
  go_wp2_with fail
  rw [← HW.out]
  go_region_held3 (fun w' => w'.cell? ⟨E, 0, none⟩ = some (.pointer (some ⟨A, 0, none⟩)) ∧ w'.cell? ⟨w.heap.size, 1, none⟩ = some (.int .i64 a) ∧ w'.cell? ⟨w.heap.size, 2, none⟩ = some (.int .i64 b) ∧ w'.cell? ⟨w.heap.size, 3, none⟩ = some (.int .i64 c) ∧ w'.cell? ⟨w.heap.size, 4, none⟩ = some (.string s))
    (first | with_reducible exact ⟨e0, e1, e2, e3, e4⟩ | with_reducible exact ⟨z0, z1, z2, z3, z4⟩ | go_keep)
    (first
      | (go_at_call 54; (with_reducible refine HSa.out.mono ?_); rintro r w' ⟨rfl, hw⟩; have hw := hw.symm; subst hw)
      | (go_at_call 54; (with_reducible refine HSb.out.mono ?_); rintro r w' ⟨rfl, hw⟩; have hw := hw.symm; subst hw)
      | (go_at_call 54; (with_reducible refine HSc.out.mono ?_); rintro r w' ⟨rfl, hw⟩; have hw := hw.symm; subst hw)
      | (go_at_call 37; (with_reducible refine HX.out.mono ?_); rintro r w3 ⟨rfl, hl3⟩; obtain ⟨z0, z1, z2, z3, z4⟩ := HCl.out _ hl3.moves; have HL := Lib.hid hl3; clear hl3))
  all_goals
    go_wp2_with fail
    go_ret
    exact ⟨_, rfl, rfl, Left.after (Moves.ofBelow HBd.out) HL.out⟩
set_option maxHeartbeats 1000000 in
set_option maxRecDepth 100000 in
theorem cSealed_yes {B A E : Nat} {L : List Ent} {F : Nat → Prop} {had : Int} {known sent rs : List Int} {w : World} (ha : ArenaAt B A L F w) (hlen : L.length < 1073741824) (he : EvOf F E A had known sent rs w) (a b : Int) (s : ByteArray) (hs : s.size ≤ 1000000) (kd : Int) (n : Nat) (hn : n ≤ 4294967295) :
    Calls Tryz.prog 56 #[.pointer (some ⟨E, 0, none⟩), .agg #[.int .i64 kd, .int .i64 a, .int .i64 b, .int .i64 (n : Int), .string s]] w fun r w' => ∃ m, r = .returned (.int .i64 m.1) ∧ m = sealM L (atZ rs a) n (atZ rs b) ∧ Left B A m.2 F w w' := by
  have hFw : ∀ i, F i → i < w.heap.size := fun i hi => (ha.lt i hi).2
  have hO := Holds.new w 43 #[.int .i64 kd, .int .i64 a, .int .i64 b, .int .i64 (n : Int), .string s]
  have b0 : Below w.heap.size w (w.alloc (.cells #[.int .i64 kd, .int .i64 a, .int .i64 b, .int .i64 (n : Int), .string s] 43)) := (Below.refl _ w).alloc (Nat.le_refl _) _
  have HW : ∃ W0, Hid (W0 = w.alloc (.cells #[.int .i64 kd, .int .i64 a, .int .i64 b, .int .i64 (n : Int), .string s] 43)) := ⟨_, Lib.hid rfl⟩
  obtain ⟨W0, HW⟩ := HW
  rw [← HW.out] at hO b0
  have hE := he.moves (Moves.ofBelow b0)
  have md : Moves F W0 W0.drew := (Moves.refl F W0).drew
  have hEd := hE.moves md
  have nO : ¬ F w.heap.size := fun h => Nat.lt_irrefl _ (hFw _ h)
  have HCl : Hid (∀ W, Moves F W0.drew W → W.cell? ⟨E, 0, none⟩ = some (.pointer (some ⟨A, 0, none⟩)) ∧ W.cell? ⟨w.heap.size, 1, none⟩ = some (.int .i64 a) ∧ W.cell? ⟨w.heap.size, 2, none⟩ = some (.int .i64 b) ∧ W.cell? ⟨w.heap.size, 3, none⟩ = some (.int .i64 (n : Int))) := fun W m => by
    have hOd := hO.moves (md.trans m (fun i hi => .inl hi)) nO
    obtain ⟨vk, vs, vr, h0, _⟩ := hEd.moves m
    exact ⟨h0.cell 0, hOd.cell 1, hOd.cell 2, hOd.cell 3⟩
  obtain ⟨e0, e1, e2, e3⟩ := HCl.out _ (Moves.refl F W0.drew)
  have HSa := Lib.hid (hEd.step a)
  have HSb := Lib.hid (hEd.step b)
  have bd : Below w.heap.size w W0.drew := b0.drew
  have HX := Lib.hid (Seal_any (ha.below bd) hlen (atZ rs a) n hn (atZ rs b))
  have HBd := Lib.hid bd
  have c0 := hO.cell 0
  have c3 := hO.cell 3
  have hcv := conv_seq n hn
  clear hFw ha he b0 hE nO hlen md hEd bd hO hs
  generalize atZ rs a = x at *
  generalize atZ rs b = y at *
  go_enter Tryz.func56, Tryz.ntmps56
  go_wp2_with fail
  rw [← HW.out]
  go_region_held3 (fun w' => w'.cell? ⟨E, 0, none⟩ = some (.pointer (some ⟨A, 0, none⟩)) ∧ w'.cell? ⟨w.heap.size, 1, none⟩ = some (.int .i64 a) ∧ w'.cell? ⟨w.heap.size, 2, none⟩ = some (.int .i64 b) ∧ w'.cell? ⟨w.heap.size, 3, none⟩ = some (.int .i64 (n : Int)))
    (first | with_reducible exact ⟨e0, e1, e2, e3⟩ | with_reducible exact ⟨z0, z1, z2, z3⟩ | go_keep)
    (first
      | (go_at_call 54; (with_reducible refine HSa.out.mono ?_); rintro r w' ⟨rfl, hw⟩; have hw := hw.symm; subst hw)
      | (go_at_call 54; (with_reducible refine HSb.out.mono ?_); rintro r w' ⟨rfl, hw⟩; have hw := hw.symm; subst hw)
      | (go_at_call 39; (with_reducible refine HX.out.mono ?_); rintro r w3 ⟨rfl, hl3⟩; obtain ⟨z0, z1, z2, z3⟩ := HCl.out _ hl3.moves; have HL := Lib.hid hl3; clear hl3))
  all_goals
    go_wp2_with fail
    go_ret
    exact ⟨_, rfl, rfl, Left.after (Moves.ofBelow HBd.out) HL.out⟩

theorem cDerived_no {E : Nat} {w : World} (kd a b c : Int) : Calls Tryz.prog 55 #[.pointer (some ⟨E, 0, none⟩), .agg #[.int .i64 kd, .int .i64 a, .int .i64 b, .int .i64 c, .string ⟨#[]⟩]] w fun r w' => r = .returned (.int .i64 (-1)) ∧ Below w.heap.size w w' := by
  go_enter Tryz.func55, Tryz.ntmps55
  go_wp2
  go_ret
  exact ⟨rfl, (Below.refl _ _).alloc (Nat.le_refl _) _⟩
theorem cSealed_no {E : Nat} {w : World} (kd a b c : Int) (s : ByteArray) (h : c < 0 ∨ 4294967295 < c) : Calls Tryz.prog 56 #[.pointer (some ⟨E, 0, none⟩), .agg #[.int .i64 kd, .int .i64 a, .int .i64 b, .int .i64 c, .string s]] w fun r w' => r = .returned (.int .i64 (-1)) ∧ Below w.heap.size w w' := by
  by_cases h0 : c < 0
  · have q1 : decide (c < 0) = true := decide_eq_true h0
    clear h
    go_enter Tryz.func56, Tryz.ntmps56
    go_wp2
    go_ret
    exact ⟨rfl, (Below.refl _ _).alloc (Nat.le_refl _) _⟩
  · have q1 : decide (c < 0) = false := decide_eq_false h0
    have q2 : decide (c > 4294967295) = true := decide_eq_true (by omega)
    clear h h0
    go_enter Tryz.func56, Tryz.ntmps56
    go_wp2
    go_ret
    exact ⟨rfl, (Below.refl _ _).alloc (Nat.le_refl _) _⟩
end Go.Proofs.YtkigohenfaomkaaGreat

namespace Go.Proofs.YtkigohenfaomkaaGreat
open Go.RowKit

theorem five_set (w : World) (N : Nat) (a b c d e : Value) : Moves (fun k => k = N) w (((((w.setCell ⟨N, 0, none⟩ a).setCell ⟨N, 1, none⟩ b).setCell ⟨N, 2, none⟩ c).setCell ⟨N, 3, none⟩ d).setCell ⟨N, 4, none⟩ e) :=
  (((((Moves.refl (fun k => k = N) w).setCell (p := ⟨N, 0, none⟩) (.inl rfl) a).setCell (p := ⟨N, 1, none⟩) (.inl rfl) b).setCell (p := ⟨N, 2, none⟩) (.inl rfl) c).setCell (p := ⟨N, 3, none⟩) (.inl rfl) d).setCell (p := ⟨N, 4, none⟩) (.inl rfl) e
theorem rcKeep {w0 W : World} (hW : Below w0.heap.size w0 W) {p : Addr} {v : Value} (h : w0.cell? p = some v) : W.cell? p = some v := (hW.cell (World.block_lt_of_cell? w0 _ h)).trans h

set_option maxHeartbeats 4000000 in
set_option maxRecDepth 100000 in
theorem cElements_view {B A E : Nat} {L : List Ent} {F : Nat → Prop} {had : Int} {known sent rs : List Int} {w : World} (ha : ArenaAt B A L F w) (he : EvOf F E A had known sent rs w) (n : Int) {k : Nat} {en : Ent} (hn : atZ rs n = (k : Int)) (hen : L[k]? = some en) (hk : en.sh.kind = 10) :
    Calls Tryz.prog 77 #[.pointer (some ⟨E, 0, none⟩), .int .i64 n] w fun r w' => ∃ g, r = .returned (.tuple #[.slice (some ⟨g, 0, none⟩) en.sh.args.length en.sh.args.length, .bool true]) ∧
      w'.ownsRow w.heap.size 35 1 (.slice (some ⟨g, 0, none⟩) en.sh.args.length en.sh.args.length) en.sh.args.length (ints en.sh.args) ∧ Below w.heap.size w w' := by
  have bd : Below w.heap.size w w.drew := (Below.refl _ w).drew
  have hEd := he.moves (Moves.ofBelow bd)
  have e0 : w.drew.cell? ⟨E, 0, none⟩ = some (.pointer (some ⟨A, 0, none⟩)) := by
    obtain ⟨vk, vs, vr, h0, _⟩ := hEd
    exact h0.cell 0
  have HS := Lib.hid (fun (W : World) (hb : Below w.heap.size w W) => (he.moves (Moves.ofBelow hb)).step n)
  rw [hn] at HS
  have HV := Lib.hid (fun (W : World) (hb : Below w.heap.size w W) => View_some (ha.below hb) hen)
  unfold nodeV at HV
  rw [hk] at HV
  have HB := Lib.hid bd
  have HBa := Lib.hid (fun (o : Obj) => ((Below.refl w.heap.size w).alloc (Nat.le_refl _) o).drew)
  have e00 : w.cell? ⟨E, 0, none⟩ = some (.pointer (some ⟨A, 0, none⟩)) := e0
  have hne0 := World.new_ne w _ e00
  have e0a : (w.alloc (.cells #[.int .i64 0, .int .i64 0, .int .i64 0, .string ⟨#[]⟩, .slice none 0 0] 59)).drew.cell? ⟨E, 0, none⟩ = some (.pointer (some ⟨A, 0, none⟩)) := rcKeep (HBa.out _) e00
  have HZ : Hid (∀ W, Below (w.alloc (.cells #[.int .i64 0, .int .i64 0, .int .i64 0, .string ⟨#[]⟩, .slice none 0 0] 59)).drew.heap.size (w.alloc (.cells #[.int .i64 0, .int .i64 0, .int .i64 0, .string ⟨#[]⟩, .slice none 0 0] 59)).drew W → Holds W w.heap.size 59 #[.int .i64 0, .int .i64 0, .int .i64 0, .string ⟨#[]⟩, .slice none 0 0]) := fun W hb => (show Holds (w.alloc (.cells #[.int .i64 0, .int .i64 0, .int .i64 0, .string ⟨#[]⟩, .slice none 0 0] 59)).drew w.heap.size 59 _ from Holds.new w _ _).moves (Moves.ofBelow (S := nobody) hb) (fun h => h)
  have hne := World.new_ne w.drew _ e0
  clear bd hEd ha he hn hen hk
  generalize en.sh.args = as0 at *
  generalize (en.sh.a : Int) = ea at *
  generalize (en.sh.b : Int) = eb at *
  generalize en.sh.s = es at *
  have HF1 : Hid (∀ (W : World) (g : Nat) (o : Obj), Below w.drew.heap.size w.drew W → W.ownsRow w.drew.heap.size 35 1 (.slice (some ⟨g, 0, none⟩) as0.length as0.length) as0.length (ints as0) →
      (W.alloc o).ownsRow w.heap.size 35 1 (.slice (some ⟨g, 0, none⟩) as0.length as0.length) as0.length (ints as0) ∧ Below w.heap.size w (W.alloc o)) := fun W g o b hg =>
    ⟨owns_moves hg ((Moves.refl nobody _).alloc o) (fun _ _ h => h), (HB.out.trans (b.mono (Nat.le_refl _))).alloc (Nat.le_trans HB.out.size b.size) o⟩
  have HF2 : Hid (∀ (W : World) (g : Nat) (v0 v1 v2 v3 v4 : Value), Below (w.alloc (.cells #[.int .i64 0, .int .i64 0, .int .i64 0, .string ⟨#[]⟩, .slice none 0 0] 59)).drew.heap.size (w.alloc (.cells #[.int .i64 0, .int .i64 0, .int .i64 0, .string ⟨#[]⟩, .slice none 0 0] 59)).drew W → W.ownsRow (w.alloc (.cells #[.int .i64 0, .int .i64 0, .int .i64 0, .string ⟨#[]⟩, .slice none 0 0] 59)).drew.heap.size 35 1 (.slice (some ⟨g, 0, none⟩) as0.length as0.length) as0.length (ints as0) → Holds W w.heap.size 59 #[.int .i64 0, .int .i64 0, .int .i64 0, .string ⟨#[]⟩, .slice none 0 0] →
      (((((W.setCell ⟨w.heap.size, 0, none⟩ v0).setCell ⟨w.heap.size, 1, none⟩ v1).setCell ⟨w.heap.size, 2, none⟩ v2).setCell ⟨w.heap.size, 3, none⟩ v3).setCell ⟨w.heap.size, 4, none⟩ v4).ownsRow w.heap.size 35 1 (.slice (some ⟨g, 0, none⟩) as0.length as0.length) as0.length (ints as0) ∧
      Below w.heap.size w (((((W.setCell ⟨w.heap.size, 0, none⟩ v0).setCell ⟨w.heap.size, 1, none⟩ v1).setCell ⟨w.heap.size, 2, none⟩ v2).setCell ⟨w.heap.size, 3, none⟩ v3).setCell ⟨w.heap.size, 4, none⟩ v4)) := fun W g v0 v1 v2 v3 v4 b hg hz => by
    have m5 := five_set W w.heap.size v0 v1 v2 v3 v4
    have bz := HBa.out (.cells #[.int .i64 0, .int .i64 0, .int .i64 0, .string ⟨#[]⟩, .slice none 0 0] 59)
    exact ⟨owns_moves (owns_lower hg bz.size) m5 (fun k hk e => own_ne hg hz (by decide) (e ▸ hk)), (bz.trans (b.mono bz.size)).trans (m5.below (Nat.le_trans bz.size b.size) (fun i hi => Nat.le_of_eq hi.symm))⟩
  go_enter Tryz.func77, Tryz.ntmps77
  go_wp2_with fail
  go_region_with (first
    | (go_at_call 54; (with_reducible refine (HS.out _ HB.out).mono ?_); rintro r w' ⟨rfl, hw⟩; have hw := hw.symm; subst hw)
    | (go_at_call 54; (with_reducible refine (HS.out _ (HBa.out _)).mono ?_); rintro r w' ⟨rfl, hw⟩; have hw := hw.symm; subst hw)
    | (go_at_call 23; (with_reducible refine (HV.out _ (HBa.out _)).mono ?_); rintro r w3 ⟨g, rfl, hg, b3⟩; have hz := HZ.out w3 b3; have y0 := Holds.cell hz 0; have y1 := Holds.cell hz 1; have y2 := Holds.cell hz 2; have y3 := Holds.cell hz 3; have y4 := Holds.cell hz 4; have g0 := Holds.frozen hz 0; have g1 := Holds.frozen hz 1; have g2 := Holds.frozen hz 2; have g3 := Holds.frozen hz 3; have g4 := Holds.frozen hz 4; have HZ3 := Lib.hid hz; clear hz; have HG := Lib.hid hg; have B3 := Lib.hid b3; clear hg b3)
    | (go_at_call 23; (with_reducible refine (HV.out _ HB.out).mono ?_); rintro r w3 ⟨g, rfl, hg, b3⟩; have HG := Lib.hid hg; have B3 := Lib.hid b3; clear hg b3))
  all_goals
    go_wp2_with fail
    go_ret2
    first | (with_reducible exact ⟨g, rfl, HF1.out _ _ _ B3.out HG.out⟩) | (with_reducible exact ⟨g, rfl, HF2.out _ _ _ _ _ _ _ B3.out HG.out HZ3.out⟩)
end Go.Proofs.YtkigohenfaomkaaGreat
