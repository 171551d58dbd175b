/- Part 12 of what the statement wants. -/
import Derived.Test.YtgoinpibllomfaaDoorPk11
namespace Go.Proofs.YtgoinpibllomfaaDoor
open Go.RowKit

def prefsS : ByteArray := ⟨#[112, 114, 101, 102, 115]⟩
theorem PrefsAt.sl {w : World} {u : Nat → Value} {p : Nat → List (List UInt8)} (h : ∀ k < 8, TextsAt w (u k) ((p k).map bs)) : ∀ k < 8, ∃ a n c, u k = .slice a n c := fun k hk => by
  obtain ⟨a, c, e, _⟩ := h k hk
  exact ⟨a, _, c, e⟩
/-- Names of a size that a walk can count. -/
def Sized15 (p : Nat → List (List UInt8)) : Prop := ∀ k < 8, (p k).length ≤ maxLen ∧ ∀ x ∈ p k, x.length ≤ 1000000
theorem opened {w : World} {u : Nat → Value} {p : Nat → List (List UInt8)} (h : ∀ k < 8, TextsAt w (u k) ((p k).map bs)) : Calls Tryd.prog 78 #[agg8 u] w fun e w' => e = .returned (agg8 u) ∧ Below w.heap.size w w' := pfEight_any (PrefsAt.sl h) w

set_option maxHeartbeats 1000000 in
set_option maxRecDepth 100000 in
theorem pfCheck_walk {w : World} (hT : Tab15 w) {u : Nat → Value} {p : Nat → List (List UInt8)} (h : ∀ k < 8, TextsAt w (u k) ((p k).map bs)) (hs : Sized15 p) {m : Nat} (hm : m ≤ 8) (hok : ∀ j < m, oneP j (p j) = 0) (hbad : m < 8 → oneP m (p m) ≠ 0) :
    Calls Tryd.prog 61 #[agg8 u] w fun e w' => Below w.heap.size w w' ∧ ((m = 8 ∧ e = .returned .nilIface) ∨ (m < 8 ∧ ∃ t v, e = .returned (.iface t v) ∧ ErrAt w' (.iface t v) [prefsS, bs (wordZ m)] (some (oneP m (p m))))) := by
  have hi8 := index8 u
  have hpe := fun (W : World) (hb : Below w.heap.size w W) => opened (w := W) fun k hk => (h k hk).below hb
  obtain ⟨a0, n0, c0, e0⟩ := PrefsAt.sl h 0 (by omega)
  obtain ⟨a1, n1, c1, e1⟩ := PrefsAt.sl h 1 (by omega)
  obtain ⟨a2, n2, c2, e2⟩ := PrefsAt.sl h 2 (by omega)
  obtain ⟨a3, n3, c3, e3⟩ := PrefsAt.sl h 3 (by omega)
  obtain ⟨a4, n4, c4, e4⟩ := PrefsAt.sl h 4 (by omega)
  obtain ⟨a5, n5, c5, e5⟩ := PrefsAt.sl h 5 (by omega)
  obtain ⟨a6, n6, c6, e6⟩ := PrefsAt.sl h 6 (by omega)
  obtain ⟨a7, n7, c7, e7⟩ := PrefsAt.sl h 7 (by omega)
  obtain ⟨E, hE⟩ : ∃ E, E = agg8 u := ⟨_, rfl⟩
  have hX : E = .agg #[.slice a0 n0 c0, .slice a1 n1 c1, .slice a2 n2 c2, .slice a3 n3 c3, .slice a4 n4 c4, .slice a5 n5 c5, .slice a6 n6 c6, .slice a7 n7 c7] := by rw [hE]; unfold agg8; rw [e0, e1, e2, e3, e4, e5, e6, e7]
  have hb1 : Below w.heap.size w (w.alloc (.cells #[.slice a0 n0 c0, .slice a1 n1 c1, .slice a2 n2 c2, .slice a3 n3 c3, .slice a4 n4 c4, .slice a5 n5 c5, .slice a6 n6 c6, .slice a7 n7 c7] 46)) := (Below.refl _ _).alloc (Nat.le_refl _) _
  rw [← hE] at hpe hi8 ⊢
  have HE : Hid (Calls Tryd.prog 78 #[.agg #[.slice a0 n0 c0, .slice a1 n1 c1, .slice a2 n2 c2, .slice a3 n3 c3, .slice a4 n4 c4, .slice a5 n5 c5, .slice a6 n6 c6, .slice a7 n7 c7]] (w.alloc (.cells #[.slice a0 n0 c0, .slice a1 n1 c1, .slice a2 n2 c2, .slice a3 n3 c3, .slice a4 n4 c4, .slice a5 n5 c5, .slice a6 n6 c6, .slice a7 n7 c7] 46)) fun e w' => e = .returned E ∧ Below w.heap.size w w') := by
    show Calls _ _ _ _ _
    rw [← hX]
    exact (hpe _ hb1).mono fun e w' ⟨h1, h2⟩ => ⟨h1, hb1.trans (h2.mono hb1.size)⟩
  have HI := Lib.hid hi8
  have HO := Lib.hid (fun (k : Nat) (hk : k < 8) (W : World) (hb : Below w.heap.size w W) => pfOne_any (hT.below hb) ((h k hk).below hb) (hs k hk).1 (hs k hk).2 k)
  have HL := Lib.hid (fun (z : Int) (W : World) (hb : Below w.heap.size w W) => pfList_any (hT.below hb) z)
  have HSl : Hid (∀ k < 8, ∃ a n c, u k = .slice a n c) := PrefsAt.sl h
  have HOk := Lib.hid hok
  have HBad := Lib.hid hbad
  rw [hX]
  clear hb1 hok hbad hT h hs hpe hi8 hX hE e0 e1 e2 e3 e4 e5 e6 e7
  go_enter Tryd.func61, Tryd.ntmps61
  go_wp2_with (go_at_call 78; (with_reducible refine HE.out.mono ?_); rintro e w2 ⟨rfl, b2⟩)
  go_loopw [8] (fun i wr => ∃ k : Nat, k ≤ m ∧ i = .int .i64 k ∧ Below w.heap.size w wr) (fun i _ => 9 - (intOf i).toNat)
  case atStart => exact ⟨0, Nat.zero_le _, rfl, b2⟩
  case round =>
    obtain ⟨k, hk, rfl, hb⟩ := hrel
    by_cases hlt : k < 8
    · have hi := HI.out k hlt
      obtain ⟨ak, nk, ck, ek⟩ := HSl.out k hlt
      have HOk1 := Lib.hid (HO.out k hlt wr hb)
      rw [ek] at hi HOk1
      by_cases hkm : k < m
      · rw [HOk.out k hkm] at HOk1
        have HB := Lib.hid hb
        clear hb ek HI HO HL HSl HOk HBad
        go_wp2_with (go_at_call 80; (with_reducible refine HOk1.out.mono ?_); rintro e w3 ⟨rfl, b3⟩)
        go_roundw
        case rel => exact ⟨k + 1, by omega, by go_num, HB.out.trans (b3.mono HB.out.size)⟩
        case measure => simp [intOf]; omega
      · have hkm2 : k = m := by omega
        subst hkm2
        have hne := HBad.out hlt
        have HNe := Lib.hid hne
        obtain ⟨c, hc⟩ : ∃ c, c = oneP k (p k) := ⟨_, rfl⟩
        rw [← hc] at HOk1 hne HNe
        have HC := Lib.hid hc
        clear hc
        have q : (c != 0) = true := by simpa using hne
        have q' : (c == 0) = false := by simpa using hne
        have HOf : Hid (∀ W : World, Calls Tryd.prog 46 #[.string (bs (wordZ k)), .int .i64 c] W fun r w' => ∃ t v, r = .returned (.iface t v) ∧ ErrAt w' (.iface t v) [bs (wordZ k)] (some c) ∧ Below W.heap.size W w') := fun W => (fOf_any (bs (wordZ k)) c hne W).mono (by
          rintro r w' ⟨v, rfl, he, hn, hb⟩
          cases he with
          | fault h1 h2 h3 h4 => exact ⟨_, _, rfl, .fault h1 h2 h3 h4, hb⟩)
        have HAt : Hid (∀ (W : World) (t : TypeId) (v : Value), ErrAt W (.iface t v) [bs (wordZ k)] (some c) → Calls Tryd.prog 45 #[.string prefsS, .iface t v] W fun r w' => ∃ t v, r = .returned (.iface t v) ∧ ErrAt w' (.iface t v) [prefsS, bs (wordZ k)] (some c) ∧ Below W.heap.size W w') := fun W t v hv => (fAt_any hv (by simp) prefsS).mono (by
          rintro r w' ⟨v, rfl, he, hn, hb⟩
          cases he with
          | fault h1 h2 h3 h4 => exact ⟨_, _, rfl, .fault h1 h2 h3 h4, hb⟩)
        have HL1 : Hid (∀ W, Below w.heap.size w W → Calls Tryd.prog 81 #[.int .i64 (k : Int)] W fun e w' => e = .returned (.string (bs (wordZ k))) ∧ w' = W) := HL.out k
        have HB := Lib.hid hb
        clear hb ek HI HO HL HSl HOk HBad hne
        obtain ⟨S, hS⟩ : ∃ S, S = bs (wordZ k) := ⟨_, rfl⟩
        rw [← hS] at HOf HAt HL1
        have HS := Lib.hid hS
        clear hS
        unfold prefsS at HAt
        go_wp2_with (first
          | (go_at_call 80; (with_reducible refine HOk1.out.mono ?_); rintro e w3 ⟨rfl, b3⟩; have B3 := Lib.hid (HB.out.trans (b3.mono HB.out.size)))
          | (go_at_call 81; (with_reducible refine (HL1.out _ B3.out).mono ?_); rintro e w4 ⟨rfl, hw⟩; have hw := hw.symm; subst hw)
          | (go_at_call 46; (with_reducible refine (HOf.out _).mono ?_); rintro e w4 ⟨t1, v1, rfl, he1, b4⟩; have B4 := Lib.hid (B3.out.trans (b4.mono B3.out.size)))
          | (go_at_call 45; (with_reducible refine (HAt.out _ _ _ he1).mono ?_); rintro e w5 ⟨t2, v2, rfl, he2, b5⟩))
        go_ret
        exact ⟨B4.out.trans (b5.mono B4.out.size), .inr ⟨hlt, t2, v2, rfl, by rw [← HC.out, ← HS.out]; exact he2⟩⟩
    · have hkl : k = 8 := by omega
      have hm8 : m = 8 := by omega
      subst hkl
      have HB := Lib.hid hb
      clear hb HI HO HL HSl HOk HBad hlt
      go_wp2_with fail
      go_ret
      exact ⟨HB.out, .inl ⟨hm8, rfl⟩⟩
end Go.Proofs.YtgoinpibllomfaaDoor
