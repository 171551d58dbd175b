/- Layer 14: elements of what is no list; opened. -/
import Derived.Test.YtlalkpgipenkaaaRc4
import Derived.Deep.QuietTactic
import Derived.BigQuiet
namespace Go.Proofs.Ytlalkpgipenkaaa
open Go.RowKit

/-- What View answers where it is not what is asked for. -/
def ViewOther (A : Nat) (x : Int) (kk : Int) (w : World) : Prop :=
  ∀ W, Below w.heap.size w W → Calls Try.prog 35 #[.pointer (some ⟨A, 0, none⟩), .int .i64 x] W fun r w' => ∃ (ea eb : Int) (es : ByteArray) (ao : Option Addr) (n c : Nat) (f : Bool), r = .returned (.tuple #[.agg #[.int .i64 kk, .int .i64 ea, .int .i64 eb, .string es, .slice ao n c], .bool f]) ∧ Below W.heap.size W w'
theorem view_other {B A : Nat} {L : List Ent} {F : Nat → Prop} {w : World} (ha : ArenaAt B A L F w) (x : Int) : ViewOther A x (kindAt L x) w := fun W hb => by
  by_cases h : x < 0 ∨ (L.length : Int) ≤ x
  · have hk : kindAt L x = 0 := by unfold kindAt; rw [at_no h]; rfl
    rw [hk]
    exact (View_no (ha.below hb) x h).mono fun r w' ⟨h1, h2⟩ => ⟨0, 0, _, none, 0, 0, false, h1, h2⟩
  · obtain ⟨k, rfl⟩ : ∃ k : Nat, x = k := ⟨x.toNat, by omega⟩
    have hk : k < L.length := by omega
    have he : kindAt L (k : Int) = (L[k].sh.kind : Int) := by unfold kindAt; rw [at_nat, List.getElem?_eq_getElem hk]; rfl
    rw [he]
    exact (View_some (ha.below hb) (List.getElem?_eq_getElem hk)).mono fun r w' ⟨g, h1, h2, h3⟩ => ⟨_, _, _, _, _, _, true, h1, h3⟩

set_option maxHeartbeats 4000000 in
set_option maxRecDepth 100000 in
theorem cElements_no {A E : Nat} {F : Nat → Prop} {had : Int} {known sent rs : List Int} {w : World} (he : EvOf F E A had known sent rs w) (n : Int) {kk : Int} (hv : ViewOther A (atZ rs n) kk w) (hk : kk ≠ 10) :
    Calls Try.prog 95 #[.pointer (some ⟨E, 0, none⟩), .int .i64 n] w fun r w' => r = .returned (.tuple #[.slice none 0 0, .bool false]) ∧ Below w.heap.size w w' := by
  have bd : Below w.heap.size w w.drew := (Below.refl _ w).drew
  have hEd := he.moves (Moves.ofBelow bd)
  have e0 : w.drew.cell? ⟨E, 0, none⟩ = some (.pointer (some ⟨A, 0, none⟩)) := by
    obtain ⟨vk, vs, vr, h0, _⟩ := hEd
    exact h0.cell 0
  have HS := Lib.hid (fun (W : World) (hb : Below w.heap.size w W) => (he.moves (Moves.ofBelow hb)).step n)
  generalize atZ rs n = x at *
  have HV := Lib.hid hv
  unfold ViewOther at HV
  have HB := Lib.hid bd
  have HBa := Lib.hid (fun (o : Obj) => ((Below.refl w.heap.size w).alloc (Nat.le_refl _) o).drew)
  have e00 : w.cell? ⟨E, 0, none⟩ = some (.pointer (some ⟨A, 0, none⟩)) := e0
  have e0a : (w.alloc (.cells #[.int .i64 0, .int .i64 0, .int .i64 0, .string ⟨#[]⟩, .slice none 0 0] 65)).drew.cell? ⟨E, 0, none⟩ = some (.pointer (some ⟨A, 0, none⟩)) := rcKeep (HBa.out _) e00
  have HZ : Hid (∀ W, Below (w.alloc (.cells #[.int .i64 0, .int .i64 0, .int .i64 0, .string ⟨#[]⟩, .slice none 0 0] 65)).drew.heap.size (w.alloc (.cells #[.int .i64 0, .int .i64 0, .int .i64 0, .string ⟨#[]⟩, .slice none 0 0] 65)).drew W → Holds W w.heap.size 65 #[.int .i64 0, .int .i64 0, .int .i64 0, .string ⟨#[]⟩, .slice none 0 0]) := fun W hb => (show Holds (w.alloc (.cells #[.int .i64 0, .int .i64 0, .int .i64 0, .string ⟨#[]⟩, .slice none 0 0] 65)).drew w.heap.size 65 _ from Holds.new w _ _).moves (Moves.ofBelow (S := nobody) hb) (fun h => h)
  have HF1 : Hid (∀ (W : World) (o : Obj), Below w.drew.heap.size w.drew W → Below w.heap.size w (W.alloc o)) := fun W o b => (HB.out.trans (b.mono (Nat.le_refl _))).alloc (Nat.le_trans HB.out.size b.size) o
  have HF2 : Hid (∀ (W : World) (v0 v1 v2 v3 v4 : Value), Below (w.alloc (.cells #[.int .i64 0, .int .i64 0, .int .i64 0, .string ⟨#[]⟩, .slice none 0 0] 65)).drew.heap.size (w.alloc (.cells #[.int .i64 0, .int .i64 0, .int .i64 0, .string ⟨#[]⟩, .slice none 0 0] 65)).drew W →
      Below w.heap.size w (((((W.setCell ⟨w.heap.size, 0, none⟩ v0).setCell ⟨w.heap.size, 1, none⟩ v1).setCell ⟨w.heap.size, 2, none⟩ v2).setCell ⟨w.heap.size, 3, none⟩ v3).setCell ⟨w.heap.size, 4, none⟩ v4)) := fun W v0 v1 v2 v3 v4 b => by
    have bz := HBa.out (.cells #[.int .i64 0, .int .i64 0, .int .i64 0, .string ⟨#[]⟩, .slice none 0 0] 65)
    exact (bz.trans (b.mono bz.size)).trans ((five_set W w.heap.size v0 v1 v2 v3 v4).below (Nat.le_trans bz.size b.size) (fun i hi => Nat.le_of_eq hi.symm))
  have q1 : (kk == 10) = false := by simpa using hk
  have q2 : (kk != 10) = true := by rw [bne, q1]; rfl
  clear bd hEd he hv hk
  go_enter Try.func95, Try.ntmps95
  go_wp2_with fail
  go_region_with (first
    | (go_at_call 71; (with_reducible refine (HS.out _ HB.out).mono ?_); rintro r w' ⟨rfl, hw⟩; have hw := hw.symm; subst hw)
    | (go_at_call 71; (with_reducible refine (HS.out _ (HBa.out _)).mono ?_); rintro r w' ⟨rfl, hw⟩; have hw := hw.symm; subst hw)
    | (go_at_call 35; (with_reducible refine (HV.out _ (HBa.out _)).mono ?_); rintro r w3 ⟨ea, eb, es, ao, nn, cc, f, rfl, b3⟩; have hz := HZ.out w3 b3; have y0 := Holds.cell hz 0; have y1 := Holds.cell hz 1; have y2 := Holds.cell hz 2; have y3 := Holds.cell hz 3; have y4 := Holds.cell hz 4; have g0 := Holds.frozen hz 0; have g1 := Holds.frozen hz 1; have g2 := Holds.frozen hz 2; have g3 := Holds.frozen hz 3; have g4 := Holds.frozen hz 4; have B3 := Lib.hid b3; clear b3 hz)
    | (go_at_call 35; (with_reducible refine (HV.out _ HB.out).mono ?_); rintro r w3 ⟨ea, eb, es, ao, nn, cc, f, rfl, b3⟩; have B3 := Lib.hid b3; clear b3))
  all_goals
    go_wp2_with fail
    go_ret2
    first | (with_reducible exact ⟨rfl, HF1.out _ _ B3.out⟩) | (with_reducible exact ⟨rfl, HF2.out _ _ _ _ _ _ B3.out⟩)
end Go.Proofs.Ytlalkpgipenkaaa
