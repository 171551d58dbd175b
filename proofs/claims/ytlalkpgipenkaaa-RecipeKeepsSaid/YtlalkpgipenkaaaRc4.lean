/- Layer 14: elements, listed, opened. -/
import Derived.Test.YtlalkpgipenkaaaRc3
namespace Go.Proofs.Ytlalkpgipenkaaa
open Go.RowKit

theorem five_set (w : World) (N : Nat) (a b c d e : Value) : Moves (fun k => k = N) w (((((w.setCell ⟨N, 0, none⟩ a).setCell ⟨N, 1, none⟩ b).setCell ⟨N, 2, none⟩ c).setCell ⟨N, 3, none⟩ d).setCell ⟨N, 4, none⟩ e) :=
  (((((Moves.refl (fun k => k = N) w).setCell (p := ⟨N, 0, none⟩) (.inl rfl) a).setCell (p := ⟨N, 1, none⟩) (.inl rfl) b).setCell (p := ⟨N, 2, none⟩) (.inl rfl) c).setCell (p := ⟨N, 3, none⟩) (.inl rfl) d).setCell (p := ⟨N, 4, none⟩) (.inl rfl) e
theorem rcKeep {w0 W : World} (hW : Below w0.heap.size w0 W) {p : Addr} {v : Value} (h : w0.cell? p = some v) : W.cell? p = some v := (hW.cell (World.block_lt_of_cell? w0 _ h)).trans h

set_option maxHeartbeats 4000000 in
set_option maxRecDepth 100000 in
theorem cElements_view {B A E : Nat} {L : List Ent} {F : Nat → Prop} {had : Int} {known sent rs : List Int} {w : World} (ha : ArenaAt B A L F w) (he : EvOf F E A had known sent rs w) (n : Int) {k : Nat} {en : Ent} (hn : atZ rs n = (k : Int)) (hen : L[k]? = some en) (hk : en.sh.kind = 10) :
    Calls Try.prog 95 #[.pointer (some ⟨E, 0, none⟩), .int .i64 n] w fun r w' => ∃ g, r = .returned (.tuple #[.slice (some ⟨g, 0, none⟩) en.sh.args.length en.sh.args.length, .bool true]) ∧
      w'.ownsRow w.heap.size 49 1 (.slice (some ⟨g, 0, none⟩) en.sh.args.length en.sh.args.length) en.sh.args.length (ints en.sh.args) ∧ Below w.heap.size w w' := by
  have bd : Below w.heap.size w w.drew := (Below.refl _ w).drew
  have hEd := he.moves (Moves.ofBelow bd)
  have e0 : w.drew.cell? ⟨E, 0, none⟩ = some (.pointer (some ⟨A, 0, none⟩)) := by
    obtain ⟨vk, vs, vr, h0, _⟩ := hEd
    exact h0.cell 0
  have HS := Lib.hid (fun (W : World) (hb : Below w.heap.size w W) => (he.moves (Moves.ofBelow hb)).step n)
  rw [hn] at HS
  have HV := Lib.hid (fun (W : World) (hb : Below w.heap.size w W) => View_some (ha.below hb) hen)
  unfold nodeV at HV
  rw [hk] at HV
  have HB := Lib.hid bd
  have HBa := Lib.hid (fun (o : Obj) => ((Below.refl w.heap.size w).alloc (Nat.le_refl _) o).drew)
  have e00 : w.cell? ⟨E, 0, none⟩ = some (.pointer (some ⟨A, 0, none⟩)) := e0
  have hne0 := World.new_ne w _ e00
  have e0a : (w.alloc (.cells #[.int .i64 0, .int .i64 0, .int .i64 0, .string ⟨#[]⟩, .slice none 0 0] 65)).drew.cell? ⟨E, 0, none⟩ = some (.pointer (some ⟨A, 0, none⟩)) := rcKeep (HBa.out _) e00
  have HZ : Hid (∀ W, Below (w.alloc (.cells #[.int .i64 0, .int .i64 0, .int .i64 0, .string ⟨#[]⟩, .slice none 0 0] 65)).drew.heap.size (w.alloc (.cells #[.int .i64 0, .int .i64 0, .int .i64 0, .string ⟨#[]⟩, .slice none 0 0] 65)).drew W → Holds W w.heap.size 65 #[.int .i64 0, .int .i64 0, .int .i64 0, .string ⟨#[]⟩, .slice none 0 0]) := fun W hb => (show Holds (w.alloc (.cells #[.int .i64 0, .int .i64 0, .int .i64 0, .string ⟨#[]⟩, .slice none 0 0] 65)).drew w.heap.size 65 _ from Holds.new w _ _).moves (Moves.ofBelow (S := nobody) hb) (fun h => h)
  have hne := World.new_ne w.drew _ e0
  clear bd hEd ha he hn hen hk
  generalize en.sh.args = as0 at *
  generalize (en.sh.a : Int) = ea at *
  generalize (en.sh.b : Int) = eb at *
  generalize en.sh.s = es at *
  have HF1 : Hid (∀ (W : World) (g : Nat) (o : Obj), Below w.drew.heap.size w.drew W → W.ownsRow w.drew.heap.size 49 1 (.slice (some ⟨g, 0, none⟩) as0.length as0.length) as0.length (ints as0) →
      (W.alloc o).ownsRow w.heap.size 49 1 (.slice (some ⟨g, 0, none⟩) as0.length as0.length) as0.length (ints as0) ∧ Below w.heap.size w (W.alloc o)) := fun W g o b hg =>
    ⟨owns_moves hg ((Moves.refl nobody _).alloc o) (fun _ _ h => h), (HB.out.trans (b.mono (Nat.le_refl _))).alloc (Nat.le_trans HB.out.size b.size) o⟩
  have HF2 : Hid (∀ (W : World) (g : Nat) (v0 v1 v2 v3 v4 : Value), Below (w.alloc (.cells #[.int .i64 0, .int .i64 0, .int .i64 0, .string ⟨#[]⟩, .slice none 0 0] 65)).drew.heap.size (w.alloc (.cells #[.int .i64 0, .int .i64 0, .int .i64 0, .string ⟨#[]⟩, .slice none 0 0] 65)).drew W → W.ownsRow (w.alloc (.cells #[.int .i64 0, .int .i64 0, .int .i64 0, .string ⟨#[]⟩, .slice none 0 0] 65)).drew.heap.size 49 1 (.slice (some ⟨g, 0, none⟩) as0.length as0.length) as0.length (ints as0) → Holds W w.heap.size 65 #[.int .i64 0, .int .i64 0, .int .i64 0, .string ⟨#[]⟩, .slice none 0 0] →
      (((((W.setCell ⟨w.heap.size, 0, none⟩ v0).setCell ⟨w.heap.size, 1, none⟩ v1).setCell ⟨w.heap.size, 2, none⟩ v2).setCell ⟨w.heap.size, 3, none⟩ v3).setCell ⟨w.heap.size, 4, none⟩ v4).ownsRow w.heap.size 49 1 (.slice (some ⟨g, 0, none⟩) as0.length as0.length) as0.length (ints as0) ∧
      Below w.heap.size w (((((W.setCell ⟨w.heap.size, 0, none⟩ v0).setCell ⟨w.heap.size, 1, none⟩ v1).setCell ⟨w.heap.size, 2, none⟩ v2).setCell ⟨w.heap.size, 3, none⟩ v3).setCell ⟨w.heap.size, 4, none⟩ v4)) := fun W g v0 v1 v2 v3 v4 b hg hz => by
    have m5 := five_set W w.heap.size v0 v1 v2 v3 v4
    have bz := HBa.out (.cells #[.int .i64 0, .int .i64 0, .int .i64 0, .string ⟨#[]⟩, .slice none 0 0] 65)
    exact ⟨owns_moves (owns_lower hg bz.size) m5 (fun k hk e => own_ne hg hz (by decide) (e ▸ hk)), (bz.trans (b.mono bz.size)).trans (m5.below (Nat.le_trans bz.size b.size) (fun i hi => Nat.le_of_eq hi.symm))⟩
  go_enter Try.func95, Try.ntmps95
  go_wp2_with fail
  go_region_with (first
    | (go_at_call 71; (with_reducible refine (HS.out _ HB.out).mono ?_); rintro r w' ⟨rfl, hw⟩; have hw := hw.symm; subst hw)
    | (go_at_call 71; (with_reducible refine (HS.out _ (HBa.out _)).mono ?_); rintro r w' ⟨rfl, hw⟩; have hw := hw.symm; subst hw)
    | (go_at_call 35; (with_reducible refine (HV.out _ (HBa.out _)).mono ?_); rintro r w3 ⟨g, rfl, hg, b3⟩; have hz := HZ.out w3 b3; have y0 := Holds.cell hz 0; have y1 := Holds.cell hz 1; have y2 := Holds.cell hz 2; have y3 := Holds.cell hz 3; have y4 := Holds.cell hz 4; have g0 := Holds.frozen hz 0; have g1 := Holds.frozen hz 1; have g2 := Holds.frozen hz 2; have g3 := Holds.frozen hz 3; have g4 := Holds.frozen hz 4; have HZ3 := Lib.hid hz; clear hz; have HG := Lib.hid hg; have B3 := Lib.hid b3; clear hg b3)
    | (go_at_call 35; (with_reducible refine (HV.out _ HB.out).mono ?_); rintro r w3 ⟨g, rfl, hg, b3⟩; have HG := Lib.hid hg; have B3 := Lib.hid b3; clear hg b3))
  all_goals
    go_wp2_with fail
    go_ret2
    first | (with_reducible exact ⟨g, rfl, HF1.out _ _ _ B3.out HG.out⟩) | (with_reducible exact ⟨g, rfl, HF2.out _ _ _ _ _ _ _ B3.out HG.out HZ3.out⟩)
end Go.Proofs.Ytlalkpgipenkaaa
