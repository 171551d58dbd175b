/- Part 14 of what the statement wants. -/
import Derived.Deep.QuietTactic
import Derived.BigQuiet
import Derived.Deep.CutRange
import Derived.Test.YtkigohenfaomkaaGreatPk13
namespace Go.Proofs.YtkigohenfaomkaaGreat
open Go.RowKit

/-- What View answers where it is not what is asked for. -/
def ViewOther (A : Nat) (x : Int) (kk : Int) (w : World) : Prop :=
  ∀ W, Below w.heap.size w W → Calls Tryz.prog 23 #[.pointer (some ⟨A, 0, none⟩), .int .i64 x] W fun r w' => ∃ (ea eb : Int) (es : ByteArray) (ao : Option Addr) (n c : Nat) (f : Bool), r = .returned (.tuple #[.agg #[.int .i64 kk, .int .i64 ea, .int .i64 eb, .string es, .slice ao n c], .bool f]) ∧ Below W.heap.size W w'
theorem view_other {B A : Nat} {L : List Ent} {F : Nat → Prop} {w : World} (ha : ArenaAt B A L F w) (x : Int) : ViewOther A x (kindAt L x) w := fun W hb => by
  by_cases h : x < 0 ∨ (L.length : Int) ≤ x
  · have hk : kindAt L x = 0 := by unfold kindAt; rw [at_no h]; rfl
    rw [hk]
    exact (nView_no (ha.below hb) x h).mono fun r w' ⟨h1, h2⟩ => ⟨0, 0, _, none, 0, 0, false, h1, h2⟩
  · obtain ⟨k, rfl⟩ : ∃ k : Nat, x = k := ⟨x.toNat, by omega⟩
    have hk : k < L.length := by omega
    have he : kindAt L (k : Int) = (L[k].sh.kind : Int) := by unfold kindAt; rw [at_nat, List.getElem?_eq_getElem hk]; rfl
    rw [he]
    exact (View_some (ha.below hb) (List.getElem?_eq_getElem hk)).mono fun r w' ⟨g, h1, h2, h3⟩ => ⟨_, _, _, _, _, _, true, h1, h3⟩

set_option maxHeartbeats 4000000 in
set_option maxRecDepth 100000 in
theorem cElements_no {A E : Nat} {F : Nat → Prop} {had : Int} {known sent rs : List Int} {w : World} (he : EvOf F E A had known sent rs w) (n : Int) {kk : Int} (hv : ViewOther A (atZ rs n) kk w) (hk : kk ≠ 10) :
    Calls Tryz.prog 77 #[.pointer (some ⟨E, 0, none⟩), .int .i64 n] w fun r w' => r = .returned (.tuple #[.slice none 0 0, .bool false]) ∧ Below w.heap.size w w' := by
  have bd : Below w.heap.size w w.drew := (Below.refl _ w).drew
  have hEd := he.moves (Moves.ofBelow bd)
  have e0 : w.drew.cell? ⟨E, 0, none⟩ = some (.pointer (some ⟨A, 0, none⟩)) := by
    obtain ⟨vk, vs, vr, h0, _⟩ := hEd
    exact h0.cell 0
  have HS := Lib.hid (fun (W : World) (hb : Below w.heap.size w W) => (he.moves (Moves.ofBelow hb)).step n)
  generalize atZ rs n = x at *
  have HV := Lib.hid hv
  unfold ViewOther at HV
  have HB := Lib.hid bd
  have HBa := Lib.hid (fun (o : Obj) => ((Below.refl w.heap.size w).alloc (Nat.le_refl _) o).drew)
  have e00 : w.cell? ⟨E, 0, none⟩ = some (.pointer (some ⟨A, 0, none⟩)) := e0
  have e0a : (w.alloc (.cells #[.int .i64 0, .int .i64 0, .int .i64 0, .string ⟨#[]⟩, .slice none 0 0] 59)).drew.cell? ⟨E, 0, none⟩ = some (.pointer (some ⟨A, 0, none⟩)) := rcKeep (HBa.out _) e00
  have HZ : Hid (∀ W, Below (w.alloc (.cells #[.int .i64 0, .int .i64 0, .int .i64 0, .string ⟨#[]⟩, .slice none 0 0] 59)).drew.heap.size (w.alloc (.cells #[.int .i64 0, .int .i64 0, .int .i64 0, .string ⟨#[]⟩, .slice none 0 0] 59)).drew W → Holds W w.heap.size 59 #[.int .i64 0, .int .i64 0, .int .i64 0, .string ⟨#[]⟩, .slice none 0 0]) := fun W hb => (show Holds (w.alloc (.cells #[.int .i64 0, .int .i64 0, .int .i64 0, .string ⟨#[]⟩, .slice none 0 0] 59)).drew w.heap.size 59 _ from Holds.new w _ _).moves (Moves.ofBelow (S := nobody) hb) (fun h => h)
  have HF1 : Hid (∀ (W : World) (o : Obj), Below w.drew.heap.size w.drew W → Below w.heap.size w (W.alloc o)) := fun W o b => (HB.out.trans (b.mono (Nat.le_refl _))).alloc (Nat.le_trans HB.out.size b.size) o
  have HF2 : Hid (∀ (W : World) (v0 v1 v2 v3 v4 : Value), Below (w.alloc (.cells #[.int .i64 0, .int .i64 0, .int .i64 0, .string ⟨#[]⟩, .slice none 0 0] 59)).drew.heap.size (w.alloc (.cells #[.int .i64 0, .int .i64 0, .int .i64 0, .string ⟨#[]⟩, .slice none 0 0] 59)).drew W →
      Below w.heap.size w (((((W.setCell ⟨w.heap.size, 0, none⟩ v0).setCell ⟨w.heap.size, 1, none⟩ v1).setCell ⟨w.heap.size, 2, none⟩ v2).setCell ⟨w.heap.size, 3, none⟩ v3).setCell ⟨w.heap.size, 4, none⟩ v4)) := fun W v0 v1 v2 v3 v4 b => by
    have bz := HBa.out (.cells #[.int .i64 0, .int .i64 0, .int .i64 0, .string ⟨#[]⟩, .slice none 0 0] 59)
    exact (bz.trans (b.mono bz.size)).trans ((five_set W w.heap.size v0 v1 v2 v3 v4).below (Nat.le_trans bz.size b.size) (fun i hi => Nat.le_of_eq hi.symm))
  have q1 : (kk == 10) = false := by simpa using hk
  have q2 : (kk != 10) = true := by rw [bne, q1]; rfl
  clear bd hEd he hv hk
  go_enter Tryz.func77, Tryz.ntmps77
  go_wp2_with fail
  go_region_with (first
    | (go_at_call 54; (with_reducible refine (HS.out _ HB.out).mono ?_); rintro r w' ⟨rfl, hw⟩; have hw := hw.symm; subst hw)
    | (go_at_call 54; (with_reducible refine (HS.out _ (HBa.out _)).mono ?_); rintro r w' ⟨rfl, hw⟩; have hw := hw.symm; subst hw)
    | (go_at_call 23; (with_reducible refine (HV.out _ (HBa.out _)).mono ?_); rintro r w3 ⟨ea, eb, es, ao, nn, cc, f, rfl, b3⟩; have hz := HZ.out w3 b3; have y0 := Holds.cell hz 0; have y1 := Holds.cell hz 1; have y2 := Holds.cell hz 2; have y3 := Holds.cell hz 3; have y4 := Holds.cell hz 4; have g0 := Holds.frozen hz 0; have g1 := Holds.frozen hz 1; have g2 := Holds.frozen hz 2; have g3 := Holds.frozen hz 3; have g4 := Holds.frozen hz 4; have B3 := Lib.hid b3; clear b3 hz)
    | (go_at_call 23; (with_reducible refine (HV.out _ HB.out).mono ?_); rintro r w3 ⟨ea, eb, es, ao, nn, cc, f, rfl, b3⟩; have B3 := Lib.hid b3; clear b3))
  all_goals
    go_wp2_with fail
    go_ret2
    first | (with_reducible exact ⟨rfl, HF1.out _ _ B3.out⟩) | (with_reducible exact ⟨rfl, HF2.out _ _ _ _ _ _ B3.out⟩)
end Go.Proofs.YtkigohenfaomkaaGreat

namespace Go.Proofs.YtkigohenfaomkaaGreat
open Go.RowKit

/-- What stands behind the look at a term: its node at V, its subterms at g. -/
structure OpAft (w : World) (O E : Nat) (b : Int) (y : Int) (kk : Int) (V : Nat) (u : Value) (W : World) : Prop where
  bel : Below w.heap.size w W
  n0 : W.cell? ⟨V, 0, none⟩ = some (.int .i64 kk)
  n4 : W.cell? ⟨V, 4, none⟩ = some u
  o2 : W.cell? ⟨O, 2, none⟩ = some (.int .i64 b)
  st : ∀ n, Calls Tryz.prog 54 #[.pointer (some ⟨E, 0, none⟩), .int .i64 b] (W.drewN n) fun r w' => r = .returned (.int .i64 y) ∧ w' = W.drewN n
theorem rcDrewN {B : Nat} {w w' : World} (h : Below B w w') (n : Nat) : Below B w (w'.drewN n) := ⟨h.os, h.tape, h.output, h.size, h.block⟩

def OpCut (w : World) (O E : Nat) (b y kk : Int) (v : Value) (W : World) : Prop := ∃ V ao nn cc, v = .pointer (some ⟨V, 0, none⟩) ∧ OpAft w O E b y kk V (.slice ao nn cc) W
def OpCut2 (w : World) (O E : Nat) (b y p q : Int) (v : Value) (W : World) : Prop := ∃ V g, v = .pointer (some ⟨V, 0, none⟩) ∧ OpAft w O E b y 9 V (.slice (some ⟨g, 0, none⟩) 2 2) W ∧ W.cell? ⟨g, 0, none⟩ = some (.int .i64 p) ∧ W.cell? ⟨g, 1, none⟩ = some (.int .i64 q)
theorem OpCut.mk {w : World} {O E : Nat} {b y kk : Int} {V : Nat} {ao : Option Addr} {nn cc : Nat} {W : World} (h : OpAft w O E b y kk V (.slice ao nn cc) W) : OpCut w O E b y kk (.pointer (some ⟨V, 0, none⟩)) W := ⟨V, ao, nn, cc, rfl, h⟩
theorem OpCut2.mk {w : World} {O E : Nat} {b y : Int} {p q V g base : Nat} {W : World} (h : OpAft w O E b y 9 V (.slice (some ⟨g, 0, none⟩) 2 2) W) (ho : W.ownsRow base 35 1 (.slice (some ⟨g, 0, none⟩) 2 2) 2 (ints [p, q])) : OpCut2 w O E b y p q (.pointer (some ⟨V, 0, none⟩)) W := by
  refine ⟨V, g, rfl, h, ?_, ?_⟩
  · have := ho.cells (g := g) rfl 0 (.int .i64 (p : Int)) rfl
    rwa [Addr.add_lit, Nat.zero_add] at this
  · have := ho.cells (g := g) rfl 1 (.int .i64 (q : Int)) rfl
    rwa [Addr.add_lit, Nat.zero_add] at this

set_option maxHeartbeats 8000000 in
set_option maxRecDepth 100000 in
theorem cOpened_no1 {A E : Nat} {F : Nat → Prop} {had : Int} {known sent rs : List Int} {w : World} (he : EvOf F E A had known sent rs w) (hFw : ∀ i, F i → i < w.heap.size) (kd a b c : Int) (s : ByteArray) {x y : Int} (hx : atZ rs a = x) (hyb : atZ rs b = y) {kk : Int} (hv : ViewOther A x kk w) (hk : kk ≠ 9) :
    Calls Tryz.prog 57 #[.pointer (some ⟨E, 0, none⟩), .agg #[.int .i64 kd, .int .i64 a, .int .i64 b, .int .i64 c, .string s]] w fun r w' => r = .returned (.int .i64 (-1)) ∧ Below w.heap.size w w' := by
  have HO0 := Holds.new w 43 #[.int .i64 kd, .int .i64 a, .int .i64 b, .int .i64 c, .string s]
  have b0 : Below w.heap.size w (w.alloc (.cells #[.int .i64 kd, .int .i64 a, .int .i64 b, .int .i64 c, .string s] 43)) := (Below.refl _ w).alloc (Nat.le_refl _) _
  have hs0 : (w.alloc (.cells #[.int .i64 kd, .int .i64 a, .int .i64 b, .int .i64 c, .string s] 43)).heap.size = w.heap.size + 1 := World.size_alloc _ _
  have HW : ∃ W0, Hid (W0 = w.alloc (.cells #[.int .i64 kd, .int .i64 a, .int .i64 b, .int .i64 c, .string s] 43)) := ⟨_, Lib.hid rfl⟩
  obtain ⟨W0, HW⟩ := HW
  rw [← HW.out] at HO0 b0 hs0
  have hE := he.moves (Moves.ofBelow b0)
  have bd : Below W0.heap.size W0 W0.drew := (Below.refl _ W0).drew
  have hEd := hE.moves (Moves.ofBelow bd)
  have e0 : W0.drew.cell? ⟨E, 0, none⟩ = some (.pointer (some ⟨A, 0, none⟩)) := by
    obtain ⟨vk, vs, vr, h0, _⟩ := hEd
    exact h0.cell 0
  have o1 : W0.drew.cell? ⟨w.heap.size, 1, none⟩ = some (.int .i64 a) := HO0.cell 1
  have HS := Lib.hid (fun (W : World) (hb : Below W0.heap.size W0 W) => (hE.moves (Moves.ofBelow hb)).step a)
  have HS2 := Lib.hid (fun (W : World) (hb : Below W0.heap.size W0 W) => (hE.moves (Moves.ofBelow hb)).step b)
  rw [hx] at HS
  rw [hyb] at HS2
  have HV : Hid (∀ W, Below W0.heap.size W0 W → Calls Tryz.prog 23 #[.pointer (some ⟨A, 0, none⟩), .int .i64 x] W fun r w' => ∃ (ea eb : Int) (es : ByteArray) (ao : Option Addr) (n c : Nat) (f : Bool), r = .returned (.tuple #[.agg #[.int .i64 kk, .int .i64 ea, .int .i64 eb, .string es, .slice ao n c], .bool f]) ∧ Below W.heap.size W w') := fun W hb => hv W (b0.trans (hb.mono (by omega)))
  have q1 : (kk == 9) = false := by simpa using hk
  have q2 : (kk != 9) = true := by rw [bne, q1]; rfl
  clear hv hk hx hyb
  have HB := Lib.hid bd
  have HBa := Lib.hid (fun (o : Obj) => ((Below.refl W0.heap.size W0).alloc (Nat.le_refl _) o).drew)
  have e00 : W0.cell? ⟨E, 0, none⟩ = some (.pointer (some ⟨A, 0, none⟩)) := e0
  have o10 : W0.cell? ⟨w.heap.size, 1, none⟩ = some (.int .i64 a) := o1
  have o20 : W0.cell? ⟨w.heap.size, 2, none⟩ = some (.int .i64 b) := HO0.cell 2
  have e0a : (W0.alloc (.cells #[.int .i64 0, .int .i64 0, .int .i64 0, .string ⟨#[]⟩, .slice none 0 0] 59)).drew.cell? ⟨E, 0, none⟩ = some (.pointer (some ⟨A, 0, none⟩)) := rcKeep (HBa.out _) e00
  have o1a : (W0.alloc (.cells #[.int .i64 0, .int .i64 0, .int .i64 0, .string ⟨#[]⟩, .slice none 0 0] 59)).drew.cell? ⟨w.heap.size, 1, none⟩ = some (.int .i64 a) := rcKeep (HBa.out _) o10
  have HZ : Hid (∀ W, Below (W0.alloc (.cells #[.int .i64 0, .int .i64 0, .int .i64 0, .string ⟨#[]⟩, .slice none 0 0] 59)).drew.heap.size (W0.alloc (.cells #[.int .i64 0, .int .i64 0, .int .i64 0, .string ⟨#[]⟩, .slice none 0 0] 59)).drew W → Holds W W0.heap.size 59 #[.int .i64 0, .int .i64 0, .int .i64 0, .string ⟨#[]⟩, .slice none 0 0]) := fun W hb => (show Holds (W0.alloc (.cells #[.int .i64 0, .int .i64 0, .int .i64 0, .string ⟨#[]⟩, .slice none 0 0] 59)).drew W0.heap.size 59 _ from Holds.new W0 _ _).moves (Moves.ofBelow (S := nobody) hb) (fun h => h)
  have HA0 : Hid (∀ (W : World) (V : Nat) (u : Value), Below W0.heap.size W0 W → W.cell? ⟨V, 0, none⟩ = some (.int .i64 kk) → W.cell? ⟨V, 4, none⟩ = some u → OpAft w w.heap.size E b y kk V u W) := fun W V u hb h0 h4 =>
    ⟨b0.trans (hb.mono (by rw [hs0]; omega)), h0, h4, rcKeep hb o20, fun n => HS2.out _ (rcDrewN hb n)⟩
  have HF1 : Hid (∀ (W : World) (ea eb : Int) (es : ByteArray) (u : Value), Below W0.drew.heap.size W0.drew W → OpAft w w.heap.size E b y kk W.heap.size u (W.alloc (.cells #[.int .i64 kk, .int .i64 ea, .int .i64 eb, .string es, u] 59))) := fun W ea eb es u b3 =>
    HA0.out _ _ _ ((HB.out.trans (b3.mono (Nat.le_refl _))).alloc (Nat.le_trans HB.out.size b3.size) _) ((Holds.new W _ _).cell 0) ((Holds.new W _ _).cell 4)
  have HF2 : Hid (∀ (W : World) (ea eb : Int) (es : ByteArray) (u : Value), Below (W0.alloc (.cells #[.int .i64 0, .int .i64 0, .int .i64 0, .string ⟨#[]⟩, .slice none 0 0] 59)).drew.heap.size (W0.alloc (.cells #[.int .i64 0, .int .i64 0, .int .i64 0, .string ⟨#[]⟩, .slice none 0 0] 59)).drew W →
      OpAft w w.heap.size E b y kk W0.heap.size u (((((W.setCell ⟨W0.heap.size, 0, none⟩ (.int .i64 kk)).setCell ⟨W0.heap.size, 1, none⟩ (.int .i64 ea)).setCell ⟨W0.heap.size, 2, none⟩ (.int .i64 eb)).setCell ⟨W0.heap.size, 3, none⟩ (.string es)).setCell ⟨W0.heap.size, 4, none⟩ u)) := fun W ea eb es u b3 => by
    have bz := HBa.out (.cells #[.int .i64 0, .int .i64 0, .int .i64 0, .string ⟨#[]⟩, .slice none 0 0] 59)
    have hh := Holds.set (Holds.set (Holds.set (Holds.set (Holds.set (HZ.out W b3) 0 (.int .i64 kk)) 1 (.int .i64 ea)) 2 (.int .i64 eb)) 3 (.string es)) 4 u
    exact HA0.out _ _ _ ((bz.trans (b3.mono bz.size)).trans ((five_set W W0.heap.size (.int .i64 kk) (.int .i64 ea) (.int .i64 eb) (.string es) u).below (Nat.le_trans bz.size b3.size) (fun i hi => Nat.le_of_eq hi.symm))) (hh.cell 0) (hh.cell 4)
  have c0 := HO0.cell 0
  clear bd hEd hE he b0 HO0 hs0 HS2 hFw
  go_enter Tryz.func57, Tryz.ntmps57
  go_upto_region 1 with fail
  rw [← HW.out]
  go_cut [5] from 6 to 18 (fun v wc => OpCut w w.heap.size E b y kk v wc)
  case first =>
   go_wp2_with fail
   go_region_with (first
    | (go_at_call 54; (with_reducible refine (HS.out _ HB.out).mono ?_); rintro r w' ⟨rfl, hw⟩; have hw := hw.symm; subst hw)
    | (go_at_call 54; (with_reducible refine (HS.out _ (HBa.out _)).mono ?_); rintro r w' ⟨rfl, hw⟩; have hw := hw.symm; subst hw)
    | (go_at_call 23; (with_reducible refine (HV.out _ (HBa.out _)).mono ?_); rintro r w3 ⟨ea, eb, es, ao, nn, cc, f, rfl, b3⟩; have hz := HZ.out w3 b3; have y0 := Holds.cell hz 0; have y1 := Holds.cell hz 1; have y2 := Holds.cell hz 2; have y3 := Holds.cell hz 3; have y4 := Holds.cell hz 4; have g0 := Holds.frozen hz 0; have g1 := Holds.frozen hz 1; have g2 := Holds.frozen hz 2; have g3 := Holds.frozen hz 3; have g4 := Holds.frozen hz 4; have B3 := Lib.hid b3; clear b3 hz)
    | (go_at_call 23; (with_reducible refine (HV.out _ HB.out).mono ?_); rintro r w3 ⟨ea, eb, es, ao, nn, cc, f, rfl, b3⟩; have B3 := Lib.hid b3; clear b3))
   all_goals
    go_wp2_with fail
    go_meet
    case rel => first | (with_reducible exact OpCut.mk (HF1.out _ _ _ _ _ B3.out)) | (with_reducible exact OpCut.mk (HF2.out _ _ _ _ _ B3.out))
  case rest =>
   obtain ⟨V, ao, nn, cc, rfl, hA⟩ := hcut
   have n0 := hA.n0
   have HAA := Lib.hid hA
   clear hA HF1 HF2 HA0 HV HS HZ HB HBa
   go_wp2_with fail
   go_quiet (fail)
   go_wp2_with fail
   go_ret
   exact ⟨rfl, rcDrewN HAA.out.bel _⟩
end Go.Proofs.YtkigohenfaomkaaGreat
