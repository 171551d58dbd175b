/- Part 31 of what the statement wants. -/
import Derived.LoopTactic
import Derived.Test.YtkdljicagepebaaGreatDoorPk05
import Derived.Test.YtkdljicagepebaaGreatDoorPk30
namespace Go.Proofs.YtkdljicagepebaaGreatDoor
open Go.RowKit

set_option maxHeartbeats 1000000 in
set_option maxRecDepth 100000 in
theorem r15Check_walk {w : World} {u : Nat → Value} {p : Nat → List (List UInt8)} (h : Eight w u p) (hs : ∀ k < 8, ∀ x ∈ p k, x.length ≤ 1000000) {m : Nat} (hm : m ≤ 8) (hok : ∀ j < m, oneP j (p j) = 0) (hbad : m < 8 → oneP m (p m) ≠ 0) :
    Calls Tryz.prog 15 #[agg8 u] w fun e w' => Below w.heap.size w w' ∧ ((m = 8 ∧ e = .returned (.tuple #[.int .i64 0, .int .i64 (-1)])) ∨ (m < 8 ∧ e = .returned (.tuple #[.int .i64 (oneP m (p m)), .int .i64 (m : Int)]))) := by
  have hpe := fun (W : World) (hb : Below w.heap.size w W) => r15Lists_any (w := W) fun k hk => (h.at_ k hk).below hb
  have hsl := h.sl
  obtain ⟨a0, n0, c0, e0⟩ := hsl 0 (by omega)
  obtain ⟨a1, n1, c1, e1⟩ := hsl 1 (by omega)
  obtain ⟨a2, n2, c2, e2⟩ := hsl 2 (by omega)
  obtain ⟨a3, n3, c3, e3⟩ := hsl 3 (by omega)
  obtain ⟨a4, n4, c4, e4⟩ := hsl 4 (by omega)
  obtain ⟨a5, n5, c5, e5⟩ := hsl 5 (by omega)
  obtain ⟨a6, n6, c6, e6⟩ := hsl 6 (by omega)
  obtain ⟨a7, n7, c7, e7⟩ := hsl 7 (by omega)
  obtain ⟨E, hE⟩ : ∃ E, E = agg8 u := ⟨_, rfl⟩
  have hX : E = .agg #[.slice a0 n0 c0, .slice a1 n1 c1, .slice a2 n2 c2, .slice a3 n3 c3, .slice a4 n4 c4, .slice a5 n5 c5, .slice a6 n6 c6, .slice a7 n7 c7] := by rw [hE]; unfold agg8; rw [e0, e1, e2, e3, e4, e5, e6, e7]
  have hb1 : Below w.heap.size w (w.alloc (.cells #[.slice a0 n0 c0, .slice a1 n1 c1, .slice a2 n2 c2, .slice a3 n3 c3, .slice a4 n4 c4, .slice a5 n5 c5, .slice a6 n6 c6, .slice a7 n7 c7] 24)) := (Below.refl _ _).alloc (Nat.le_refl _) _
  rw [← hE] at hpe ⊢
  have HE : Hid (Calls Tryz.prog 24 #[.agg #[.slice a0 n0 c0, .slice a1 n1 c1, .slice a2 n2 c2, .slice a3 n3 c3, .slice a4 n4 c4, .slice a5 n5 c5, .slice a6 n6 c6, .slice a7 n7 c7]] (w.alloc (.cells #[.slice a0 n0 c0, .slice a1 n1 c1, .slice a2 n2 c2, .slice a3 n3 c3, .slice a4 n4 c4, .slice a5 n5 c5, .slice a6 n6 c6, .slice a7 n7 c7] 24)) fun e w' => ∃ b, e = .returned (.slice (some ⟨b, 0, none⟩) 8 8) ∧ b < w'.heap.size ∧ (∀ k < 8, w'.cell? ⟨b, k, none⟩ = some (u k)) ∧ Below w.heap.size w w') := by
    show Calls _ _ _ _ _
    rw [← hX]
    exact (hpe _ hb1).mono fun e w' ⟨b, h1, h2, h3, h4⟩ => ⟨b, h1, h2, h3, hb1.trans (h4.mono hb1.size)⟩
  have HO : Hid (∀ (k : Nat) (hk : k < 8) (W : World) (hb : Below w.heap.size w W), Calls Tryz.prog 43 #[u k, .bool ((k : Int) == 0)] W fun e w' => e = .returned (.int .i64 (oneP k (p k))) ∧ Below W.heap.size W w') := fun k hk W hb => by
    have e : ((k : Int) == 0) = decide (k = 0) := by
      rw [Bool.eq_iff_iff, beq_iff_eq, decide_eq_true_eq]
      omega
    rw [e]
    exact r15wrong_any ((h.at_ k hk).below hb) (h.room k hk) (h.len k hk) (hs k hk) k
  have HSl := Lib.hid hsl
  have HOk := Lib.hid hok
  have HBad := Lib.hid hbad
  rw [hX]
  clear hb1 hok hbad h hs hpe hX hE hsl e0 e1 e2 e3 e4 e5 e6 e7
  go_enter Tryz.func15, Tryz.ntmps15
  go_wp2_with (go_at_call 24; (with_reducible refine HE.out.mono ?_); rintro e w2 ⟨b, rfl, hbs, hcl, b2⟩)
  have HCl := Lib.hid hcl
  clear hcl HE
  go_loopw [5] (fun i wr => ∃ k : Nat, k ≤ m ∧ i = .int .i64 k ∧ Below w2.heap.size w2 wr) (fun i _ => 9 - (intOf i).toNat)
  case atStart => exact ⟨0, Nat.zero_le _, rfl, Below.refl _ _⟩
  case round =>
    obtain ⟨k, hk, rfl, hb⟩ := hrel
    have hbw := b2.trans (hb.mono b2.size)
    by_cases hlt : k < 8
    · obtain ⟨ak, nk, ck, ek⟩ := HSl.out k hlt
      have c1 := (hb.cell (p := ⟨b, k, none⟩) hbs).trans (HCl.out k hlt)
      have HOk1 := Lib.hid (HO.out k hlt wr hbw)
      rw [ek] at c1 HOk1
      have HB := Lib.hid hb
      have HBw := Lib.hid hbw
      by_cases hkm : k < m
      · rw [HOk.out k hkm] at HOk1
        clear hb hbw ek HO HSl HOk HBad HCl
        go_wp2_with (go_at_call 43; (with_reducible refine HOk1.out.mono ?_); rintro e w3 ⟨rfl, b3⟩)
        go_roundw
        case rel => exact ⟨k + 1, by omega, by go_num, HB.out.trans (b3.mono HB.out.size)⟩
        case measure => simp [intOf]; omega
      · have hkm2 : k = m := by omega
        subst hkm2
        have hne := HBad.out hlt
        obtain ⟨c, hc⟩ : ∃ c, c = oneP k (p k) := ⟨_, rfl⟩
        rw [← hc] at HOk1 hne
        have HC := Lib.hid hc
        have q : (c != 0) = true := by simpa using hne
        have q' : (c == 0) = false := by simpa using hne
        clear hb hbw ek HO HSl HOk HBad hne hc HCl
        go_wp2_with (go_at_call 43; (with_reducible refine HOk1.out.mono ?_); rintro e w3 ⟨rfl, b3⟩)
        go_ret2
        exact ⟨HBw.out.trans (b3.mono HBw.out.size), .inr ⟨hlt, by rw [← HC.out]; rfl⟩⟩
    · have hkl : k = 8 := by omega
      have hm8 : m = 8 := by omega
      subst hkl
      have HBw := Lib.hid hbw
      clear hb hbw HO HSl HOk HBad hlt HCl
      go_wp2_with fail
      go_ret2
      exact ⟨HBw.out, .inl ⟨hm8, rfl⟩⟩

end Go.Proofs.YtkdljicagepebaaGreatDoor

namespace Go.Proofs.YtkdljicagepebaaGreatDoor
open Go.RowKit

theorem r15Check_ok {w : World} {u : Nat → Value} {p : Nat → List (List UInt8)} (h : Eight w u p) (hs : ∀ k < 8, ∀ x ∈ p k, x.length ≤ 1000000) (hok : ∀ j < 8, oneP j (p j) = 0) :
    Calls Tryz.prog 15 #[agg8 u] w fun e w' => e = .returned (.tuple #[.int .i64 0, .int .i64 (-1)]) ∧ Below w.heap.size w w' :=
  (r15Check_walk h hs (Nat.le_refl 8) hok (fun h => absurd h (by omega))).mono fun e w' ⟨hb, hc⟩ => by
    rcases hc with ⟨_, he⟩ | ⟨h, _⟩
    · exact ⟨he, hb⟩
    · omega
theorem r15Check_bad {w : World} {u : Nat → Value} {p : Nat → List (List UInt8)} (h : Eight w u p) (hs : ∀ k < 8, ∀ x ∈ p k, x.length ≤ 1000000) {m : Nat} (hb : BadAt p m) :
    Calls Tryz.prog 15 #[agg8 u] w fun e w' => e = .returned (.tuple #[.int .i64 (oneP m (p m)), .int .i64 (m : Int)]) ∧ Below w.heap.size w w' :=
  (r15Check_walk h hs (Nat.le_of_lt hb.1) hb.2.1 (fun _ => hb.2.2)).mono fun e w' ⟨hbl, hc⟩ => by
    rcases hc with ⟨h, _⟩ | ⟨_, he⟩
    · have := hb.1; omega
    · exact ⟨he, hbl⟩
end Go.Proofs.YtkdljicagepebaaGreatDoor

namespace Go.Proofs.YtkdljicagepebaaGreatDoor
open Go.RowKit


set_option maxRecDepth 100000 in
theorem r18Right_any (a b c : Nat) (w : World) : Calls Tryz.prog 46 #[.int .i64 (a : Int), .int .i64 (b : Int), .int .i64 (c : Int)] w fun e w' => e = .returned (.bool (rightB a b c)) ∧ w' = w := by
  have HI : Hid (rightB a b c = (decide ((a : Int) ≥ (1024 : Int)) && decide ((b : Int) ≥ (a : Int)) && decide ((c : Int) ≥ (b : Int)) && decide ((c : Int) ≤ (8192 : Int)))) := by
    have e1 : decide (1024 ≤ a) = decide ((a : Int) ≥ (1024 : Int)) := decide_eq_decide.2 (by omega)
    have e2 : decide (a ≤ b) = decide ((b : Int) ≥ (a : Int)) := decide_eq_decide.2 (by omega)
    have e3 : decide (b ≤ c) = decide ((c : Int) ≥ (b : Int)) := decide_eq_decide.2 (by omega)
    have e4 : decide (c ≤ 8192) = decide ((c : Int) ≤ (8192 : Int)) := decide_eq_decide.2 (by omega)
    show rightB a b c = _
    unfold rightB
    rw [e1, e2, e3, e4]
  rw [HI.out]
  clear HI
  obtain ⟨r1, q1⟩ : ∃ r, decide ((a : Int) ≥ (1024 : Int)) = r := ⟨_, rfl⟩
  obtain ⟨r2, q2⟩ : ∃ r, decide ((b : Int) ≥ (a : Int)) = r := ⟨_, rfl⟩
  obtain ⟨r3, q3⟩ : ∃ r, decide ((c : Int) ≥ (b : Int)) = r := ⟨_, rfl⟩
  obtain ⟨r4, q4⟩ : ∃ r, decide ((c : Int) ≤ (8192 : Int)) = r := ⟨_, rfl⟩
  rw [q1, q2, q3, q4]
  generalize (a : Int) = x at *
  generalize (b : Int) = y at *
  generalize (c : Int) = z at *
  cases r1 with
  | false => (go_enter Tryz.func46, Tryz.ntmps46; go_wp2_with fail; go_ret; exact ⟨rfl, rfl⟩)
  | true =>
  cases r2 with
  | false => (go_enter Tryz.func46, Tryz.ntmps46; go_wp2_with fail; go_ret; exact ⟨rfl, rfl⟩)
  | true =>
  cases r3 with
  | false => (go_enter Tryz.func46, Tryz.ntmps46; go_wp2_with fail; go_ret; exact ⟨rfl, rfl⟩)
  | true =>
  cases r4 with
  | false => (go_enter Tryz.func46, Tryz.ntmps46; go_wp2_with fail; go_ret; exact ⟨rfl, rfl⟩)
  | true => (go_enter Tryz.func46, Tryz.ntmps46; go_wp2_with fail; go_ret; exact ⟨rfl, rfl⟩)
end Go.Proofs.YtkdljicagepebaaGreatDoor
