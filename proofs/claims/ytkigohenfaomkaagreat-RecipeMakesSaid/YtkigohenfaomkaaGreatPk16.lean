/- Part 16 of what the statement wants. -/
import Derived.Test.YtkigohenfaomkaaGreatPk14
namespace Go.Proofs.YtkigohenfaomkaaGreat
open Go.RowKit

set_option maxHeartbeats 8000000 in
set_option maxRecDepth 100000 in
theorem cOpened_yes {A E : Nat} {F : Nat → Prop} {had : Int} {known sent rs : List Int} {w : World} (he : EvOf F E A had known sent rs w) (hFw : ∀ i, F i → i < w.heap.size) (kd a b c : Int) (s : ByteArray) {B : Nat} {L : List Ent} (ha : ArenaAt B A L F w) {x : Nat} {y : Int} {p q : Nat} {en : Ent} (hx : atZ rs a = (x : Int)) (hyb : atZ rs b = y) (hen : L[x]? = some en) (hk : en.sh.kind = 9) (hargs : en.sh.args = [p, q]) (hpy : (p : Int) = y) :
    Calls Tryz.prog 57 #[.pointer (some ⟨E, 0, none⟩), .agg #[.int .i64 kd, .int .i64 a, .int .i64 b, .int .i64 c, .string s]] w fun r w' => r = .returned (.int .i64 (q : Int)) ∧ Below w.heap.size w w' := by
  have HO0 := Holds.new w 43 #[.int .i64 kd, .int .i64 a, .int .i64 b, .int .i64 c, .string s]
  have b0 : Below w.heap.size w (w.alloc (.cells #[.int .i64 kd, .int .i64 a, .int .i64 b, .int .i64 c, .string s] 43)) := (Below.refl _ w).alloc (Nat.le_refl _) _
  have hs0 : (w.alloc (.cells #[.int .i64 kd, .int .i64 a, .int .i64 b, .int .i64 c, .string s] 43)).heap.size = w.heap.size + 1 := World.size_alloc _ _
  have HW : ∃ W0, Hid (W0 = w.alloc (.cells #[.int .i64 kd, .int .i64 a, .int .i64 b, .int .i64 c, .string s] 43)) := ⟨_, Lib.hid rfl⟩
  obtain ⟨W0, HW⟩ := HW
  rw [← HW.out] at HO0 b0 hs0
  have hE := he.moves (Moves.ofBelow b0)
  have bd : Below W0.heap.size W0 W0.drew := (Below.refl _ W0).drew
  have hEd := hE.moves (Moves.ofBelow bd)
  have e0 : W0.drew.cell? ⟨E, 0, none⟩ = some (.pointer (some ⟨A, 0, none⟩)) := by
    obtain ⟨vk, vs, vr, h0, _⟩ := hEd
    exact h0.cell 0
  have o1 : W0.drew.cell? ⟨w.heap.size, 1, none⟩ = some (.int .i64 a) := HO0.cell 1
  have HS := Lib.hid (fun (W : World) (hb : Below W0.heap.size W0 W) => (hE.moves (Moves.ofBelow hb)).step a)
  have HS2 := Lib.hid (fun (W : World) (hb : Below W0.heap.size W0 W) => (hE.moves (Moves.ofBelow hb)).step b)
  rw [hx] at HS
  rw [hyb] at HS2
  have HV : Hid (∀ W, Below W0.heap.size W0 W → Calls Tryz.prog 23 #[.pointer (some ⟨A, 0, none⟩), .int .i64 (x : Int)] W fun r w' => ∃ g, r = .returned (.tuple #[.agg #[.int .i64 9, .int .i64 (en.sh.a : Int), .int .i64 (en.sh.b : Int), .string en.sh.s, .slice (some ⟨g, 0, none⟩) 2 2], .bool true]) ∧ (w'.ownsRow W.heap.size 35 1 (.slice (some ⟨g, 0, none⟩) 2 2) 2 (ints [p, q])) ∧ Below W.heap.size W w') := fun W hb =>
    (View_some (ha.below (b0.trans (hb.mono (by omega)))) hen).mono fun r w' ⟨g, h1, h2, h3⟩ => by
      unfold nodeV at h1
      rw [hk] at h1
      rw [hargs] at h1 h2
      exact ⟨g, h1, h2, h3⟩
  generalize (en.sh.a : Int) = ea at *
  generalize (en.sh.b : Int) = eb at *
  generalize en.sh.s = es at *
  clear hx hyb ha hen hk hargs
  have HB := Lib.hid bd
  have HBa := Lib.hid (fun (o : Obj) => ((Below.refl W0.heap.size W0).alloc (Nat.le_refl _) o).drew)
  have e00 : W0.cell? ⟨E, 0, none⟩ = some (.pointer (some ⟨A, 0, none⟩)) := e0
  have o10 : W0.cell? ⟨w.heap.size, 1, none⟩ = some (.int .i64 a) := o1
  have o20 : W0.cell? ⟨w.heap.size, 2, none⟩ = some (.int .i64 b) := HO0.cell 2
  have e0a : (W0.alloc (.cells #[.int .i64 0, .int .i64 0, .int .i64 0, .string ⟨#[]⟩, .slice none 0 0] 59)).drew.cell? ⟨E, 0, none⟩ = some (.pointer (some ⟨A, 0, none⟩)) := rcKeep (HBa.out _) e00
  have o1a : (W0.alloc (.cells #[.int .i64 0, .int .i64 0, .int .i64 0, .string ⟨#[]⟩, .slice none 0 0] 59)).drew.cell? ⟨w.heap.size, 1, none⟩ = some (.int .i64 a) := rcKeep (HBa.out _) o10
  have HZ : Hid (∀ W, Below (W0.alloc (.cells #[.int .i64 0, .int .i64 0, .int .i64 0, .string ⟨#[]⟩, .slice none 0 0] 59)).drew.heap.size (W0.alloc (.cells #[.int .i64 0, .int .i64 0, .int .i64 0, .string ⟨#[]⟩, .slice none 0 0] 59)).drew W → Holds W W0.heap.size 59 #[.int .i64 0, .int .i64 0, .int .i64 0, .string ⟨#[]⟩, .slice none 0 0]) := fun W hb => (show Holds (W0.alloc (.cells #[.int .i64 0, .int .i64 0, .int .i64 0, .string ⟨#[]⟩, .slice none 0 0] 59)).drew W0.heap.size 59 _ from Holds.new W0 _ _).moves (Moves.ofBelow (S := nobody) hb) (fun h => h)
  have HA0 : Hid (∀ (W : World) (V : Nat) (u : Value), Below W0.heap.size W0 W → W.cell? ⟨V, 0, none⟩ = some (.int .i64 9) → W.cell? ⟨V, 4, none⟩ = some u → OpAft w w.heap.size E b y 9 V u W) := fun W V u hb h0 h4 =>
    ⟨b0.trans (hb.mono (by rw [hs0]; omega)), h0, h4, rcKeep hb o20, fun n => HS2.out _ (rcDrewN hb n)⟩
  have HF1 : Hid (∀ (W : World) (ea eb : Int) (es : ByteArray) (u : Value), Below W0.drew.heap.size W0.drew W → OpAft w w.heap.size E b y 9 W.heap.size u (W.alloc (.cells #[.int .i64 9, .int .i64 ea, .int .i64 eb, .string es, u] 59))) := fun W ea eb es u b3 =>
    HA0.out _ _ _ ((HB.out.trans (b3.mono (Nat.le_refl _))).alloc (Nat.le_trans HB.out.size b3.size) _) ((Holds.new W _ _).cell 0) ((Holds.new W _ _).cell 4)
  have HF2 : Hid (∀ (W : World) (ea eb : Int) (es : ByteArray) (u : Value), Below (W0.alloc (.cells #[.int .i64 0, .int .i64 0, .int .i64 0, .string ⟨#[]⟩, .slice none 0 0] 59)).drew.heap.size (W0.alloc (.cells #[.int .i64 0, .int .i64 0, .int .i64 0, .string ⟨#[]⟩, .slice none 0 0] 59)).drew W →
      OpAft w w.heap.size E b y 9 W0.heap.size u (((((W.setCell ⟨W0.heap.size, 0, none⟩ (.int .i64 9)).setCell ⟨W0.heap.size, 1, none⟩ (.int .i64 ea)).setCell ⟨W0.heap.size, 2, none⟩ (.int .i64 eb)).setCell ⟨W0.heap.size, 3, none⟩ (.string es)).setCell ⟨W0.heap.size, 4, none⟩ u)) := fun W ea eb es u b3 => by
    have bz := HBa.out (.cells #[.int .i64 0, .int .i64 0, .int .i64 0, .string ⟨#[]⟩, .slice none 0 0] 59)
    have hh := Holds.set (Holds.set (Holds.set (Holds.set (Holds.set (HZ.out W b3) 0 (.int .i64 9)) 1 (.int .i64 ea)) 2 (.int .i64 eb)) 3 (.string es)) 4 u
    exact HA0.out _ _ _ ((bz.trans (b3.mono bz.size)).trans ((five_set W W0.heap.size (.int .i64 9) (.int .i64 ea) (.int .i64 eb) (.string es) u).below (Nat.le_trans bz.size b3.size) (fun i hi => Nat.le_of_eq hi.symm))) (hh.cell 0) (hh.cell 4)
  have c0 := HO0.cell 0
  have HP1 : Hid (∀ (W : World) (g base : Nat), Below W0.drew.heap.size W0.drew W → W.ownsRow base 35 1 (.slice (some ⟨g, 0, none⟩) 2 2) 2 (ints [p, q]) → OpCut2 w w.heap.size E b y p q (.pointer (some ⟨W.heap.size, 0, none⟩)) (W.alloc (.cells #[.int .i64 9, .int .i64 ea, .int .i64 eb, .string es, .slice (some ⟨g, 0, none⟩) 2 2] 59))) := fun W g base b3 ho =>
    OpCut2.mk (HF1.out W ea eb es _ b3) (owns_moves ho ((Moves.refl nobody W).alloc _) (fun _ _ h => h))
  have HP2 : Hid (∀ (W : World) (g base : Nat), Below (W0.alloc (.cells #[.int .i64 0, .int .i64 0, .int .i64 0, .string ⟨#[]⟩, .slice none 0 0] 59)).drew.heap.size (W0.alloc (.cells #[.int .i64 0, .int .i64 0, .int .i64 0, .string ⟨#[]⟩, .slice none 0 0] 59)).drew W → W.ownsRow base 35 1 (.slice (some ⟨g, 0, none⟩) 2 2) 2 (ints [p, q]) →
      OpCut2 w w.heap.size E b y p q (.pointer (some ⟨W0.heap.size, 0, none⟩)) (((((W.setCell ⟨W0.heap.size, 0, none⟩ (.int .i64 9)).setCell ⟨W0.heap.size, 1, none⟩ (.int .i64 ea)).setCell ⟨W0.heap.size, 2, none⟩ (.int .i64 eb)).setCell ⟨W0.heap.size, 3, none⟩ (.string es)).setCell ⟨W0.heap.size, 4, none⟩ (.slice (some ⟨g, 0, none⟩) 2 2))) := fun W g base b3 ho =>
    OpCut2.mk (HF2.out W ea eb es _ b3) (owns_moves ho (five_set W W0.heap.size (.int .i64 9) (.int .i64 ea) (.int .i64 eb) (.string es) (.slice (some ⟨g, 0, none⟩) 2 2)) (fun k hk e => own_ne ho (HZ.out W b3) (by decide) (e ▸ hk)))
  have qy : (((p : Int)) == y) = true := by simpa using hpy
  have qy2 : (((p : Int)) != y) = false := by rw [bne, qy]; rfl
  clear hpy
  clear bd hEd hE he b0 HO0 hs0 HS2 hFw
  go_enter Tryz.func57, Tryz.ntmps57
  go_upto_region 1 with fail
  rw [← HW.out]
  go_cut [5] from 6 to 18 (fun v wc => OpCut2 w w.heap.size E b y p q v wc)
  case first =>
   go_wp2_with fail
   go_region_with (first
    | (go_at_call 54; (with_reducible refine (HS.out _ HB.out).mono ?_); rintro r w' ⟨rfl, hw⟩; have hw := hw.symm; subst hw)
    | (go_at_call 54; (with_reducible refine (HS.out _ (HBa.out _)).mono ?_); rintro r w' ⟨rfl, hw⟩; have hw := hw.symm; subst hw)
    | (go_at_call 23; (with_reducible refine (HV.out _ (HBa.out _)).mono ?_); rintro r w3 ⟨g, rfl, hg, b3⟩; have HGo := Lib.hid hg; clear hg; have hz := HZ.out w3 b3; have y0 := Holds.cell hz 0; have y1 := Holds.cell hz 1; have y2 := Holds.cell hz 2; have y3 := Holds.cell hz 3; have y4 := Holds.cell hz 4; have g0 := Holds.frozen hz 0; have g1 := Holds.frozen hz 1; have g2 := Holds.frozen hz 2; have g3 := Holds.frozen hz 3; have g4 := Holds.frozen hz 4; have B3 := Lib.hid b3; clear b3 hz)
    | (go_at_call 23; (with_reducible refine (HV.out _ HB.out).mono ?_); rintro r w3 ⟨g, rfl, hg, b3⟩; have HGo := Lib.hid hg; clear hg; have B3 := Lib.hid b3; clear b3))
   all_goals
    go_wp2_with fail
    go_meet
    case rel => first | (with_reducible exact HP1.out _ _ _ B3.out HGo.out) | (with_reducible exact HP2.out _ _ _ B3.out HGo.out)
  case rest =>
   obtain ⟨V, g, rfl, hA, cp, cq⟩ := hcut
   have n0 := hA.n0
   have n4 := hA.n4
   have o2 := hA.o2
   have HAA := Lib.hid hA
   clear hA HF1 HF2 HA0 HV HS HZ HB HBa HP1 HP2
   go_wp2_with fail
   go_quiet (first | (go_at_call 54; refine Calls.quiet_of_same (HAA.out.st _)))
   go_wp2_with fail
   go_ret
   exact ⟨rfl, rcDrewN HAA.out.bel _⟩
end Go.Proofs.YtkigohenfaomkaaGreat

namespace Go.Proofs.YtkigohenfaomkaaGreat
open Go.RowKit

/-- What elements hands back, where its list plays no part. -/
theorem cElements_any {B A E : Nat} {L : List Ent} {F : Nat → Prop} {had : Int} {known sent rs : List Int} {w : World} (ha : ArenaAt B A L F w) (he : EvOf F E A had known sent rs w) (n : Int) :
    Calls Tryz.prog 77 #[.pointer (some ⟨E, 0, none⟩), .int .i64 n] w fun r w' => ∃ (ao : Option Addr) (k c : Nat) (f : Bool), r = .returned (.tuple #[.slice ao k c, .bool f]) ∧ Below w.heap.size w w' := by
  by_cases h : kindAt L (atZ rs n) = 10
  · obtain ⟨k, hk, hlt, he2⟩ := kindAt_some (by rw [h]; decide)
    rw [h] at he2
    exact (cElements_view ha he n hk (List.getElem?_eq_getElem hlt) (by omega)).mono fun r w' ⟨g, h1, _, h3⟩ => ⟨_, _, _, _, h1, h3⟩
  · exact (cElements_no he n (view_other ha _) h).mono fun r w' ⟨h1, h2⟩ => ⟨_, _, _, _, h1, h2⟩

/-- A row of the call's own that holds integers reads as them. -/
theorem row_ids {w : World} {B n : Nat} {v : Value} {l : List Int} (h : w.ownsRow B 35 1 v n (l.map (Value.int .i64))) (hn : n = l.length) (hp : 0 < n) : IdsAt w v l := by
  rcases h.2 with ⟨rfl, h0⟩ | ⟨g, cap, cur, rfl, hb, hg, rest⟩
  · omega
  · subst hn
    refine ⟨_, _, rfl, fun _ => ⟨g, 0, rfl, (Array.getElem?_eq_some_iff.1 hg).1, fun k x hk => ?_⟩⟩
    have := h.cells (g := g) rfl k (.int .i64 x) (by simp [hk])
    rwa [Addr.add_lit] at this

set_option maxHeartbeats 1000000 in
set_option maxRecDepth 100000 in
theorem cListed_empty {B A E : Nat} {L : List Ent} {F : Nat → Prop} {had : Int} {known sent rs : List Int} {w : World} (ha : ArenaAt B A L F w) (hlen : L.length < 1073741824) (he : EvOf F E A had known sent rs w) (a b c : Int) (s : ByteArray) :
    Calls Tryz.prog 58 #[.pointer (some ⟨E, 0, none⟩), .agg #[.int .i64 12, .int .i64 a, .int .i64 b, .int .i64 c, .string s]] w fun r w' => r = .returned (.int .i64 (listM L []).1) ∧ Left B A (listM L []).2 F w w' := by
  have HO0 := Holds.new w 43 #[.int .i64 12, .int .i64 a, .int .i64 b, .int .i64 c, .string s]
  have b0 : Below w.heap.size w (w.alloc (.cells #[.int .i64 12, .int .i64 a, .int .i64 b, .int .i64 c, .string s] 43)) := (Below.refl _ w).alloc (Nat.le_refl _) _
  have HW : ∃ W0, Hid (W0 = w.alloc (.cells #[.int .i64 12, .int .i64 a, .int .i64 b, .int .i64 c, .string s] 43)) := ⟨_, Lib.hid rfl⟩
  obtain ⟨W0, HW⟩ := HW
  rw [← HW.out] at HO0 b0
  have HE := Lib.hid (cElements_any (ha.below b0) (he.moves (Moves.ofBelow b0)) a)
  have HL : Hid (∀ W, Below W0.heap.size W0 W → Calls Tryz.prog 41 #[.pointer (some ⟨A, 0, none⟩), .slice none 0 0] W fun r w' => r = .returned (.int .i64 (listM L []).1) ∧ Left B A (listM L []).2 F W w') := fun W hb => List_any ((ha.below b0).below hb) hlen (IdsAt.nil W) (by simp)
  have HC : Hid (∀ W, Below W0.heap.size W0 W → W.cell? ⟨w.heap.size, 0, none⟩ = some (.int .i64 12) ∧ W.cell? ⟨E, 0, none⟩ = some (.pointer (some ⟨A, 0, none⟩))) := fun W hb => by
    obtain ⟨vk, vs, vr, h0, _⟩ := (he.moves (Moves.ofBelow b0)).moves (Moves.ofBelow hb)
    exact ⟨rcKeep hb (HO0.cell 0), h0.cell 0⟩
  have HB0 := Lib.hid b0
  have c1 := HO0.cell 1
  generalize listM L [] = m at *
  clear ha he hlen HO0 b0
  go_enter Tryz.func58, Tryz.ntmps58
  go_wp2_with fail
  rw [← HW.out]
  go_at_call 77
  (with_reducible refine HE.out.mono ?_)
  rintro r w1 ⟨ao, k, cc, f, rfl, b1⟩
  obtain ⟨d0, d1⟩ := HC.out _ b1
  have HL1 := Lib.hid (HL.out _ b1)
  have B1 := Lib.hid (HB0.out.trans (b1.mono HB0.out.size))
  clear b1 HL HC HE
  go_wp2_with (go_at_call 41; (with_reducible refine HL1.out.mono ?_); rintro r w2 ⟨rfl, h2⟩; have H2 := Lib.hid h2; clear h2)
  go_ret
  exact ⟨rfl, Left.after (Moves.ofBelow B1.out) H2.out⟩

set_option maxHeartbeats 1000000 in
set_option maxRecDepth 100000 in
theorem cListed_other {B A E : Nat} {L : List Ent} {F : Nat → Prop} {had : Int} {known sent rs : List Int} {w : World} (ha : ArenaAt B A L F w) (he : EvOf F E A had known sent rs w) (kd a b c : Int) (s : ByteArray) (h12 : kd ≠ 12) (h13 : kd ≠ 13) (h14 : kd ≠ 14) :
    Calls Tryz.prog 58 #[.pointer (some ⟨E, 0, none⟩), .agg #[.int .i64 kd, .int .i64 a, .int .i64 b, .int .i64 c, .string s]] w fun r w' => r = .returned (.int .i64 (-1)) ∧ Below w.heap.size w w' := by
  have HO0 := Holds.new w 43 #[.int .i64 kd, .int .i64 a, .int .i64 b, .int .i64 c, .string s]
  have b0 : Below w.heap.size w (w.alloc (.cells #[.int .i64 kd, .int .i64 a, .int .i64 b, .int .i64 c, .string s] 43)) := (Below.refl _ w).alloc (Nat.le_refl _) _
  have HW : ∃ W0, Hid (W0 = w.alloc (.cells #[.int .i64 kd, .int .i64 a, .int .i64 b, .int .i64 c, .string s] 43)) := ⟨_, Lib.hid rfl⟩
  obtain ⟨W0, HW⟩ := HW
  rw [← HW.out] at HO0 b0
  have HE := Lib.hid (cElements_any (ha.below b0) (he.moves (Moves.ofBelow b0)) a)
  have HC : Hid (∀ W, Below W0.heap.size W0 W → W.cell? ⟨w.heap.size, 0, none⟩ = some (.int .i64 kd)) := fun W hb => rcKeep hb (HO0.cell 0)
  have q12 : (kd == 12) = false := by simpa using h12
  have q13 : (kd == 13) = false := by simpa using h13
  have q14 : (kd == 14) = false := by simpa using h14
  have HB0 := Lib.hid b0
  have c1 := HO0.cell 1
  clear ha he HO0 b0 h12 h13 h14
  go_enter Tryz.func58, Tryz.ntmps58
  go_wp2_with fail
  rw [← HW.out]
  go_at_call 77
  (with_reducible refine HE.out.mono ?_)
  rintro r w1 ⟨ao, k, cc, f, rfl, b1⟩
  have d0 := HC.out _ b1
  have B1 := Lib.hid (HB0.out.trans (b1.mono HB0.out.size))
  clear b1 HC HE
  go_wp2_with fail
  go_ret
  exact ⟨rfl, B1.out⟩
end Go.Proofs.YtkigohenfaomkaaGreat
