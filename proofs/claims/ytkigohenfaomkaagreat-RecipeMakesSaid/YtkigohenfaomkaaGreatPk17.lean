/- Part 17 of what the statement wants. -/
import Derived.Test.YtkigohenfaomkaaGreatPk16
namespace Go.Proofs.YtkigohenfaomkaaGreat
open Go.RowKit

theorem rcRow {w : World} {B n s : Nat} {t : TypeId} {v : Value} {xs : List Value} (h : w.ownsRow B t s v n xs) : ∃ ao c, v = .slice ao n c := by
  rcases h.2 with ⟨rfl, h0⟩ | ⟨g, cap, cur, rfl, _⟩
  · exact ⟨none, 0, by rw [h0]⟩
  · exact ⟨_, _, rfl⟩

set_option maxHeartbeats 2000000 in
set_option maxRecDepth 100000 in
theorem cListed_add {B A E : Nat} {L : List Ent} {F : Nat → Prop} {had : Int} {known sent rs : List Int} {w : World} (ha : ArenaAt B A L F w) (he : EvOf F E A had known sent rs w) (a b c : Int) (s : ByteArray) (hlen : L.length < 1073741824) {k : Nat} {en : Ent} (hn : atZ rs a = (k : Int)) (hen : L[k]? = some en) (hk : en.sh.kind = 10) (hm : en.sh.args.length ≤ 32) :
    Calls Tryz.prog 58 #[.pointer (some ⟨E, 0, none⟩), .agg #[.int .i64 13, .int .i64 a, .int .i64 b, .int .i64 c, .string s]] w fun r w' => r = .returned (.int .i64 (listM L (en.sh.args.map Int.ofNat ++ [atZ rs b])).1) ∧ Left B A (listM L (en.sh.args.map Int.ofNat ++ [atZ rs b])).2 F w w' := by
  have HO0 := Holds.new w 43 #[.int .i64 13, .int .i64 a, .int .i64 b, .int .i64 c, .string s]
  have b0 : Below w.heap.size w (w.alloc (.cells #[.int .i64 13, .int .i64 a, .int .i64 b, .int .i64 c, .string s] 43)) := (Below.refl _ w).alloc (Nat.le_refl _) _
  have HW : ∃ W0, Hid (W0 = w.alloc (.cells #[.int .i64 13, .int .i64 a, .int .i64 b, .int .i64 c, .string s] 43)) := ⟨_, Lib.hid rfl⟩
  obtain ⟨W0, HW⟩ := HW
  rw [← HW.out] at HO0 b0
  have HE := Lib.hid (cElements_view (ha.below b0) (he.moves (Moves.ofBelow b0)) a hn hen hk)
  have HC : Hid (∀ W, Below W0.heap.size W0 W → W.cell? ⟨w.heap.size, 0, none⟩ = some (.int .i64 13) ∧ W.cell? ⟨w.heap.size, 2, none⟩ = some (.int .i64 b) ∧ W.cell? ⟨E, 0, none⟩ = some (.pointer (some ⟨A, 0, none⟩))) := fun W hb => by
    obtain ⟨vk, vs, vr, h0, _⟩ := (he.moves (Moves.ofBelow b0)).moves (Moves.ofBelow hb)
    exact ⟨rcKeep hb (HO0.cell 0), rcKeep hb (HO0.cell 2), h0.cell 0⟩
  have HS := Lib.hid (fun (W : World) (hb : Below W0.heap.size W0 W) => ((he.moves (Moves.ofBelow b0)).moves (Moves.ofBelow hb)).step b)
  generalize atZ rs b = y at *
  have HL : Hid (∀ W v, Below W0.heap.size W0 W → IdsAt W v (en.sh.args.map Int.ofNat ++ [y]) → Calls Tryz.prog 41 #[.pointer (some ⟨A, 0, none⟩), v] W fun r w' => r = .returned (.int .i64 (listM L (en.sh.args.map Int.ofNat ++ [y])).1) ∧ Left B A (listM L (en.sh.args.map Int.ofNat ++ [y])).2 F W w') := fun W v hb hv => List_any ((ha.below b0).below hb) hlen hv (by simp; omega)
  generalize listM L (en.sh.args.map Int.ofNat ++ [y]) = m at *
  have HI : Hid (ints en.sh.args ++ [Value.int .i64 y] = (en.sh.args.map Int.ofNat ++ [y]).map (Value.int .i64)) := by unfold ints; rw [List.map_append, List.map_map]; rfl
  generalize en.sh.args = as0 at *
  obtain ⟨i0, hi, hz0, hz1, hz2⟩ := info_parts info_id
  have HB0 := Lib.hid b0
  have HCE : Hid (∀ W, Below W0.heap.size W0 W → W.cell? ⟨E, 0, none⟩ = some (.pointer (some ⟨A, 0, none⟩))) := fun W hb => (HC.out W hb).2.2
  have c1 := HO0.cell 1
  clear ha he HO0 b0 hlen hn hen hk
  go_enter Tryz.func58, Tryz.ntmps58
  go_wp2_with fail
  rw [← HW.out]
  go_at_call 77
  (with_reducible refine HE.out.mono ?_)
  rintro r w1 ⟨g, rfl, hg, b1⟩
  obtain ⟨d0, d2, d1⟩ := HC.out _ b1
  have HS1 := Lib.hid (HS.out _ b1)
  have HO1 := Lib.hid hg
  have B1 := Lib.hid b1
  have hs1 := b1.size
  clear b1 HC HE HS hg
  go_wp2_with (first
    | (go_at_call 54; (with_reducible refine HS1.out.mono ?_); rintro r w' ⟨rfl, hw⟩; have hw := hw.symm; subst hw)
    | (at_builtin; refine wpList_append_own _ rfl _ _ 29 rfl W0.heap.size 35 i0 _ 1 8 Tryz.underlying29 hi hz0 hz1 hz2 rfl (by decide) _ _ _ rfl (HO1.out.alloc _) ⟨w1.heap.size, 0, none⟩ 1 1 [.int .i64 y] rfl rfl (cell_one_new w1 _ _) (by simp [Value.oneCell']) (by unfold maxLen; omega) (by omega) (by simp; omega) ?_; intro v' w2 hown hg2 hnn; have hB2 : Below W0.heap.size W0 w2 := ((B1.out.alloc B1.out.size _).grown hg2 (by simp; omega) (fun j hj => (HO1.out.lt j hj).1)); have HV2 : Hid (IdsAt w2 v' (as0.map Int.ofNat ++ [y])) := row_ids (by rw [← HI.out]; exact hown) (by simp) (by omega); have HL2 := Lib.hid (HL.out _ _ hB2 HV2.out); have HB2 := Lib.hid hB2; obtain ⟨vo, vc, rfl⟩ := rcRow hown; have e2 : w2.cell? ⟨E, 0, none⟩ = some (.pointer (some ⟨A, 0, none⟩)) := HCE.out _ hB2; clear hown hg2 hnn hB2)
    | (go_at_call 41; (with_reducible refine HL2.out.mono ?_); rintro r w3 ⟨rfl, h3⟩; have H3 := Lib.hid h3; clear h3))
  go_ret
  exact ⟨rfl, Left.after (Moves.ofBelow (HB0.out.trans (HB2.out.mono HB0.out.size))) H3.out⟩

set_option maxHeartbeats 2000000 in
set_option maxRecDepth 100000 in
theorem cListed_at {B A E : Nat} {L : List Ent} {F : Nat → Prop} {had : Int} {known sent rs : List Int} {w : World} (ha : ArenaAt B A L F w) (he : EvOf F E A had known sent rs w) (a b c : Int) (s : ByteArray) {k : Nat} {en : Ent} (hn : atZ rs a = (k : Int)) (hen : L[k]? = some en) (hk : en.sh.kind = 10) :
    Calls Tryz.prog 58 #[.pointer (some ⟨E, 0, none⟩), .agg #[.int .i64 14, .int .i64 a, .int .i64 b, .int .i64 c, .string s]] w fun r w' => r = .returned (.int .i64 (atZ (en.sh.args.map Int.ofNat) b)) ∧ Below w.heap.size w w' := by
  have HO0 := Holds.new w 43 #[.int .i64 14, .int .i64 a, .int .i64 b, .int .i64 c, .string s]
  have b0 : Below w.heap.size w (w.alloc (.cells #[.int .i64 14, .int .i64 a, .int .i64 b, .int .i64 c, .string s] 43)) := (Below.refl _ w).alloc (Nat.le_refl _) _
  have HW : ∃ W0, Hid (W0 = w.alloc (.cells #[.int .i64 14, .int .i64 a, .int .i64 b, .int .i64 c, .string s] 43)) := ⟨_, Lib.hid rfl⟩
  obtain ⟨W0, HW⟩ := HW
  rw [← HW.out] at HO0 b0
  have HE := Lib.hid (cElements_view (ha.below b0) (he.moves (Moves.ofBelow b0)) a hn hen hk)
  have HC : Hid (∀ W, Below W0.heap.size W0 W → W.cell? ⟨w.heap.size, 0, none⟩ = some (.int .i64 14) ∧ W.cell? ⟨w.heap.size, 2, none⟩ = some (.int .i64 b) ∧ W.cell? ⟨E, 0, none⟩ = some (.pointer (some ⟨A, 0, none⟩))) := fun W hb => by
    obtain ⟨vk, vs, vr, h0, _⟩ := (he.moves (Moves.ofBelow b0)).moves (Moves.ofBelow hb)
    exact ⟨rcKeep hb (HO0.cell 0), rcKeep hb (HO0.cell 2), h0.cell 0⟩
  have HAt : Hid (∀ W g c, IdsAt W (.slice (some ⟨g, 0, none⟩) (en.sh.args.map Int.ofNat).length c) (en.sh.args.map Int.ofNat) → Calls Tryz.prog 22 #[.slice (some ⟨g, 0, none⟩) (en.sh.args.map Int.ofNat).length c, .int .i64 b] W fun r w' => r = .returned (.int .i64 (atZ (en.sh.args.map Int.ofNat) b)) ∧ w' = W) := fun W g c h => cAt_any h b
  generalize atZ (en.sh.args.map Int.ofNat) b = y at *
  rw [List.length_map] at HAt
  generalize en.sh.args = as0 at *
  have HB0 := Lib.hid b0
  have c1 := HO0.cell 1
  clear ha he HO0 b0 hn hen hk
  go_enter Tryz.func58, Tryz.ntmps58
  go_wp2_with fail
  rw [← HW.out]
  go_at_call 77
  (with_reducible refine HE.out.mono ?_)
  rintro r w1 ⟨g, rfl, hg, b1⟩
  obtain ⟨d0, d2, d1⟩ := HC.out _ b1
  have hid := ids_own hg rfl
  have HA1 := Lib.hid (HAt.out w1 g as0.length hid)
  have B1 := Lib.hid (HB0.out.trans (b1.mono HB0.out.size))
  clear b1 HC HE hg hid HAt
  go_wp2_with (go_at_call 22; (with_reducible refine HA1.out.mono ?_); rintro r w' ⟨rfl, hw⟩; have hw := hw.symm; subst hw)
  go_ret
  exact ⟨rfl, B1.out⟩

set_option maxHeartbeats 2000000 in
set_option maxRecDepth 100000 in
theorem cListed_add_no {B A E : Nat} {L : List Ent} {F : Nat → Prop} {had : Int} {known sent rs : List Int} {w : World} (ha : ArenaAt B A L F w) (he : EvOf F E A had known sent rs w) (a b c : Int) (s : ByteArray) {kk : Int} (hv : kindAt L (atZ rs a) = kk) (hk : kk ≠ 10) :
    Calls Tryz.prog 58 #[.pointer (some ⟨E, 0, none⟩), .agg #[.int .i64 13, .int .i64 a, .int .i64 b, .int .i64 c, .string s]] w fun r w' => r = .returned (.int .i64 (-1)) ∧ Below w.heap.size w w' := by
  have HO0 := Holds.new w 43 #[.int .i64 13, .int .i64 a, .int .i64 b, .int .i64 c, .string s]
  have b0 : Below w.heap.size w (w.alloc (.cells #[.int .i64 13, .int .i64 a, .int .i64 b, .int .i64 c, .string s] 43)) := (Below.refl _ w).alloc (Nat.le_refl _) _
  have HW : ∃ W0, Hid (W0 = w.alloc (.cells #[.int .i64 13, .int .i64 a, .int .i64 b, .int .i64 c, .string s] 43)) := ⟨_, Lib.hid rfl⟩
  obtain ⟨W0, HW⟩ := HW
  rw [← HW.out] at HO0 b0
  have HE := Lib.hid (cElements_no (he.moves (Moves.ofBelow b0)) a (view_other (ha.below b0) _) (by rw [hv]; exact hk))
  have HC : Hid (∀ W, Below W0.heap.size W0 W → W.cell? ⟨w.heap.size, 0, none⟩ = some (.int .i64 13) ∧ W.cell? ⟨w.heap.size, 2, none⟩ = some (.int .i64 b) ∧ W.cell? ⟨E, 0, none⟩ = some (.pointer (some ⟨A, 0, none⟩))) := fun W hb => by
    obtain ⟨vk, vs, vr, h0, _⟩ := (he.moves (Moves.ofBelow b0)).moves (Moves.ofBelow hb)
    exact ⟨rcKeep hb (HO0.cell 0), rcKeep hb (HO0.cell 2), h0.cell 0⟩
  have HB0 := Lib.hid b0
  have c1 := HO0.cell 1
  clear ha he HO0 b0 hv hk
  go_enter Tryz.func58, Tryz.ntmps58
  go_wp2_with fail
  rw [← HW.out]
  go_at_call 77
  (with_reducible refine HE.out.mono ?_)
  rintro r w1 ⟨rfl, b1⟩
  obtain ⟨d0, d2, d1⟩ := HC.out _ b1
  have B1 := Lib.hid (HB0.out.trans (b1.mono HB0.out.size))
  clear b1 HC HE
  go_wp2_with fail
  go_ret
  exact ⟨rfl, B1.out⟩

set_option maxHeartbeats 2000000 in
set_option maxRecDepth 100000 in
theorem cListed_at_no {B A E : Nat} {L : List Ent} {F : Nat → Prop} {had : Int} {known sent rs : List Int} {w : World} (ha : ArenaAt B A L F w) (he : EvOf F E A had known sent rs w) (a b c : Int) (s : ByteArray) {kk : Int} (hv : kindAt L (atZ rs a) = kk) (hk : kk ≠ 10) :
    Calls Tryz.prog 58 #[.pointer (some ⟨E, 0, none⟩), .agg #[.int .i64 14, .int .i64 a, .int .i64 b, .int .i64 c, .string s]] w fun r w' => r = .returned (.int .i64 (-1)) ∧ Below w.heap.size w w' := by
  have HO0 := Holds.new w 43 #[.int .i64 14, .int .i64 a, .int .i64 b, .int .i64 c, .string s]
  have b0 : Below w.heap.size w (w.alloc (.cells #[.int .i64 14, .int .i64 a, .int .i64 b, .int .i64 c, .string s] 43)) := (Below.refl _ w).alloc (Nat.le_refl _) _
  have HW : ∃ W0, Hid (W0 = w.alloc (.cells #[.int .i64 14, .int .i64 a, .int .i64 b, .int .i64 c, .string s] 43)) := ⟨_, Lib.hid rfl⟩
  obtain ⟨W0, HW⟩ := HW
  rw [← HW.out] at HO0 b0
  have HE := Lib.hid (cElements_no (he.moves (Moves.ofBelow b0)) a (view_other (ha.below b0) _) (by rw [hv]; exact hk))
  have HC : Hid (∀ W, Below W0.heap.size W0 W → W.cell? ⟨w.heap.size, 0, none⟩ = some (.int .i64 14) ∧ W.cell? ⟨w.heap.size, 2, none⟩ = some (.int .i64 b) ∧ W.cell? ⟨E, 0, none⟩ = some (.pointer (some ⟨A, 0, none⟩))) := fun W hb => by
    obtain ⟨vk, vs, vr, h0, _⟩ := (he.moves (Moves.ofBelow b0)).moves (Moves.ofBelow hb)
    exact ⟨rcKeep hb (HO0.cell 0), rcKeep hb (HO0.cell 2), h0.cell 0⟩
  have HAt : Hid (∀ W, Calls Tryz.prog 22 #[.slice none 0 0, .int .i64 b] W fun r w' => r = .returned (.int .i64 (-1)) ∧ w' = W) := fun W => by
    have := cAt_any (IdsAt.nil W) b
    rwa [atZ_no (by simp; omega)] at this
  have HB0 := Lib.hid b0
  have c1 := HO0.cell 1
  clear ha he HO0 b0 hv hk
  go_enter Tryz.func58, Tryz.ntmps58
  go_wp2_with fail
  rw [← HW.out]
  go_at_call 77
  (with_reducible refine HE.out.mono ?_)
  rintro r w1 ⟨rfl, b1⟩
  obtain ⟨d0, d2, d1⟩ := HC.out _ b1
  have B1 := Lib.hid (HB0.out.trans (b1.mono HB0.out.size))
  clear b1 HC HE
  go_wp2_with (go_at_call 22; (with_reducible refine (HAt.out _).mono ?_); rintro r w' ⟨rfl, hw⟩; have hw := hw.symm; subst hw)
  go_ret
  exact ⟨rfl, B1.out⟩
end Go.Proofs.YtkigohenfaomkaaGreat
