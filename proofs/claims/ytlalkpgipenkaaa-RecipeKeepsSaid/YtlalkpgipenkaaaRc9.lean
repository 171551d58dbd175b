/- Layer 14: listed. -/
import Derived.Test.YtlalkpgipenkaaaRc5
namespace Go.Proofs.Ytlalkpgipenkaaa
open Go.RowKit

/-- What elements hands back, where its list plays no part. -/
theorem cElements_any {B A E : Nat} {L : List Ent} {F : Nat → Prop} {had : Int} {known sent rs : List Int} {w : World} (ha : ArenaAt B A L F w) (he : EvOf F E A had known sent rs w) (n : Int) :
    Calls Try.prog 95 #[.pointer (some ⟨E, 0, none⟩), .int .i64 n] w fun r w' => ∃ (ao : Option Addr) (k c : Nat) (f : Bool), r = .returned (.tuple #[.slice ao k c, .bool f]) ∧ Below w.heap.size w w' := by
  by_cases h : kindAt L (atZ rs n) = 10
  · obtain ⟨k, hk, hlt, he2⟩ := kindAt_some (by rw [h]; decide)
    rw [h] at he2
    exact (cElements_view ha he n hk (List.getElem?_eq_getElem hlt) (by omega)).mono fun r w' ⟨g, h1, _, h3⟩ => ⟨_, _, _, _, h1, h3⟩
  · exact (cElements_no he n (view_other ha _) h).mono fun r w' ⟨h1, h2⟩ => ⟨_, _, _, _, h1, h2⟩

/-- A row of the call's own that holds integers reads as them. -/
theorem row_ids {w : World} {B n : Nat} {v : Value} {l : List Int} (h : w.ownsRow B 49 1 v n (l.map (Value.int .i64))) (hn : n = l.length) (hp : 0 < n) : IdsAt w v l := by
  rcases h.2 with ⟨rfl, h0⟩ | ⟨g, cap, cur, rfl, hb, hg, rest⟩
  · omega
  · subst hn
    refine ⟨_, _, rfl, fun _ => ⟨g, 0, rfl, (Array.getElem?_eq_some_iff.1 hg).1, fun k x hk => ?_⟩⟩
    have := h.cells (g := g) rfl k (.int .i64 x) (by simp [hk])
    rwa [Addr.add_lit] at this

set_option maxHeartbeats 1000000 in
set_option maxRecDepth 100000 in
theorem cListed_empty {B A E : Nat} {L : List Ent} {F : Nat → Prop} {had : Int} {known sent rs : List Int} {w : World} (ha : ArenaAt B A L F w) (hlen : L.length < 1073741824) (he : EvOf F E A had known sent rs w) (a b c : Int) (s : ByteArray) :
    Calls Try.prog 75 #[.pointer (some ⟨E, 0, none⟩), .agg #[.int .i64 12, .int .i64 a, .int .i64 b, .int .i64 c, .string s]] w fun r w' => r = .returned (.int .i64 (listM L []).1) ∧ Left B A (listM L []).2 F w w' := by
  have HO0 := Holds.new w 62 #[.int .i64 12, .int .i64 a, .int .i64 b, .int .i64 c, .string s]
  have b0 : Below w.heap.size w (w.alloc (.cells #[.int .i64 12, .int .i64 a, .int .i64 b, .int .i64 c, .string s] 62)) := (Below.refl _ w).alloc (Nat.le_refl _) _
  have HW : ∃ W0, Hid (W0 = w.alloc (.cells #[.int .i64 12, .int .i64 a, .int .i64 b, .int .i64 c, .string s] 62)) := ⟨_, Lib.hid rfl⟩
  obtain ⟨W0, HW⟩ := HW
  rw [← HW.out] at HO0 b0
  have HE := Lib.hid (cElements_any (ha.below b0) (he.moves (Moves.ofBelow b0)) a)
  have HL : Hid (∀ W, Below W0.heap.size W0 W → Calls Try.prog 32 #[.pointer (some ⟨A, 0, none⟩), .slice none 0 0] W fun r w' => r = .returned (.int .i64 (listM L []).1) ∧ Left B A (listM L []).2 F W w') := fun W hb => List_any ((ha.below b0).below hb) hlen (IdsAt.nil W) (by simp)
  have HC : Hid (∀ W, Below W0.heap.size W0 W → W.cell? ⟨w.heap.size, 0, none⟩ = some (.int .i64 12) ∧ W.cell? ⟨E, 0, none⟩ = some (.pointer (some ⟨A, 0, none⟩))) := fun W hb => by
    obtain ⟨vk, vs, vr, h0, _⟩ := (he.moves (Moves.ofBelow b0)).moves (Moves.ofBelow hb)
    exact ⟨rcKeep hb (HO0.cell 0), h0.cell 0⟩
  have HB0 := Lib.hid b0
  have c1 := HO0.cell 1
  generalize listM L [] = m at *
  clear ha he hlen HO0 b0
  go_enter Try.func75, Try.ntmps75
  go_wp2_with fail
  rw [← HW.out]
  go_at_call 95
  (with_reducible refine HE.out.mono ?_)
  rintro r w1 ⟨ao, k, cc, f, rfl, b1⟩
  obtain ⟨d0, d1⟩ := HC.out _ b1
  have HL1 := Lib.hid (HL.out _ b1)
  have B1 := Lib.hid (HB0.out.trans (b1.mono HB0.out.size))
  clear b1 HL HC HE
  go_wp2_with (go_at_call 32; (with_reducible refine HL1.out.mono ?_); rintro r w2 ⟨rfl, h2⟩; have H2 := Lib.hid h2; clear h2)
  go_ret
  exact ⟨rfl, Left.after (Moves.ofBelow B1.out) H2.out⟩

set_option maxHeartbeats 1000000 in
set_option maxRecDepth 100000 in
theorem cListed_other {B A E : Nat} {L : List Ent} {F : Nat → Prop} {had : Int} {known sent rs : List Int} {w : World} (ha : ArenaAt B A L F w) (he : EvOf F E A had known sent rs w) (kd a b c : Int) (s : ByteArray) (h12 : kd ≠ 12) (h13 : kd ≠ 13) (h14 : kd ≠ 14) :
    Calls Try.prog 75 #[.pointer (some ⟨E, 0, none⟩), .agg #[.int .i64 kd, .int .i64 a, .int .i64 b, .int .i64 c, .string s]] w fun r w' => r = .returned (.int .i64 (-1)) ∧ Below w.heap.size w w' := by
  have HO0 := Holds.new w 62 #[.int .i64 kd, .int .i64 a, .int .i64 b, .int .i64 c, .string s]
  have b0 : Below w.heap.size w (w.alloc (.cells #[.int .i64 kd, .int .i64 a, .int .i64 b, .int .i64 c, .string s] 62)) := (Below.refl _ w).alloc (Nat.le_refl _) _
  have HW : ∃ W0, Hid (W0 = w.alloc (.cells #[.int .i64 kd, .int .i64 a, .int .i64 b, .int .i64 c, .string s] 62)) := ⟨_, Lib.hid rfl⟩
  obtain ⟨W0, HW⟩ := HW
  rw [← HW.out] at HO0 b0
  have HE := Lib.hid (cElements_any (ha.below b0) (he.moves (Moves.ofBelow b0)) a)
  have HC : Hid (∀ W, Below W0.heap.size W0 W → W.cell? ⟨w.heap.size, 0, none⟩ = some (.int .i64 kd)) := fun W hb => rcKeep hb (HO0.cell 0)
  have q12 : (kd == 12) = false := by simpa using h12
  have q13 : (kd == 13) = false := by simpa using h13
  have q14 : (kd == 14) = false := by simpa using h14
  have HB0 := Lib.hid b0
  have c1 := HO0.cell 1
  clear ha he HO0 b0 h12 h13 h14
  go_enter Try.func75, Try.ntmps75
  go_wp2_with fail
  rw [← HW.out]
  go_at_call 95
  (with_reducible refine HE.out.mono ?_)
  rintro r w1 ⟨ao, k, cc, f, rfl, b1⟩
  have d0 := HC.out _ b1
  have B1 := Lib.hid (HB0.out.trans (b1.mono HB0.out.size))
  clear b1 HC HE
  go_wp2_with fail
  go_ret
  exact ⟨rfl, B1.out⟩
end Go.Proofs.Ytlalkpgipenkaaa
