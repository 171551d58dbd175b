/- Layer 15: Check as the laws ask it; awake; the law PrefsCheck. -/
import Derived.Test.YtkigohenfaomkaaDoorPfA
import Derived.Test.YtkigohenfaomkaaDoorPf6
import Derived.Test.YtkigohenfaomkaaDoorWr2
namespace Go.Proofs.YtkigohenfaomkaaDoor
open Go.RowKit

theorem pfCheck_ok {w : World} (hT : Tab15 w) {u : Nat → Value} {p : Nat → List (List UInt8)} (h : Eight w u p) (hs : ∀ k < 8, ∀ x ∈ p k, x.length ≤ 1000000) (hok : ∀ j < 8, oneP j (p j) = 0) :
    Calls Tryd.prog 8 #[agg8 u] w fun e w' => e = .returned .nilIface ∧ Below w.heap.size w w' :=
  (pfCheck_walk hT h.at_ (fun k hk => ⟨h.len k hk, hs k hk⟩) (Nat.le_refl 8) hok (fun h => absurd h (by omega))).mono fun e w' ⟨hb, hc⟩ => by
    rcases hc with ⟨_, he⟩ | ⟨h, _⟩
    · exact ⟨he, hb⟩
    · omega
theorem pfCheck_bad {w : World} (hT : Tab15 w) {u : Nat → Value} {p : Nat → List (List UInt8)} (h : Eight w u p) (hs : ∀ k < 8, ∀ x ∈ p k, x.length ≤ 1000000) {m : Nat} (hb : BadAt p m) :
    Calls Tryd.prog 8 #[agg8 u] w fun e w' => ∃ t v, e = .returned (.iface t v) ∧ ErrAt w' (.iface t v) [prefsS, bs (wordZ m)] (some (oneP m (p m))) ∧ Below w.heap.size w w' :=
  (pfCheck_walk hT h.at_ (fun k hk => ⟨h.len k hk, hs k hk⟩) (Nat.le_of_lt hb.1) hb.2.1 (fun _ => hb.2.2)).mono fun e w' ⟨hbl, hc⟩ => by
    rcases hc with ⟨h, _⟩ | ⟨_, t, v, he, ha⟩
    · have := hb.1; omega
    · exact ⟨t, v, he, ha, hbl⟩
theorem r15Check_ok {w : World} {u : Nat → Value} {p : Nat → List (List UInt8)} (h : Eight w u p) (hs : ∀ k < 8, ∀ x ∈ p k, x.length ≤ 1000000) (hok : ∀ j < 8, oneP j (p j) = 0) :
    Calls Tryd.prog 9 #[agg8 u] w fun e w' => e = .returned (.tuple #[.int .i64 0, .int .i64 (-1)]) ∧ Below w.heap.size w w' :=
  (r15Check_walk h hs (Nat.le_refl 8) hok (fun h => absurd h (by omega))).mono fun e w' ⟨hb, hc⟩ => by
    rcases hc with ⟨_, he⟩ | ⟨h, _⟩
    · exact ⟨he, hb⟩
    · omega
theorem r15Check_bad {w : World} {u : Nat → Value} {p : Nat → List (List UInt8)} (h : Eight w u p) (hs : ∀ k < 8, ∀ x ∈ p k, x.length ≤ 1000000) {m : Nat} (hb : BadAt p m) :
    Calls Tryd.prog 9 #[agg8 u] w fun e w' => e = .returned (.tuple #[.int .i64 (oneP m (p m)), .int .i64 (m : Int)]) ∧ Below w.heap.size w w' :=
  (r15Check_walk h hs (Nat.le_of_lt hb.1) hb.2.1 (fun _ => hb.2.2)).mono fun e w' ⟨hbl, hc⟩ => by
    rcases hc with ⟨h, _⟩ | ⟨_, he⟩
    · have := hb.1; omega
    · exact ⟨he, hbl⟩
theorem plain_ok : ∀ j, j < 8 → oneP j (plainP j) = 0
  | 0, _ => by decide +kernel
  | 1, _ => by decide +kernel
  | 2, _ => by decide +kernel
  | 3, _ => by decide +kernel
  | 4, _ => by decide +kernel
  | 5, _ => by decide +kernel
  | 6, _ => by decide +kernel
  | 7, _ => by decide +kernel
  | k + 8, h => absurd h (by omega)
theorem plain_small : ∀ k < 8, ∀ x ∈ plainP k, x.length ≤ 1000000 := by
  have h : ∀ k < 8, ∀ x ∈ plainP k, x.length ≤ 40 := by decide +kernel
  exact fun k hk x hx => Nat.le_trans (h k hk x hx) (by omega)
theorem zero_eight (w : World) : Eight w (fun _ => .slice none 0 0) (fun _ => []) :=
  ⟨fun _ _ => TextsAt.nil w, fun _ _ a n c e => by injection e with _ e2 e3; omega, fun _ _ => by simp⟩
theorem zero_bad : BadAt (fun _ => []) 0 := ⟨by omega, fun j hj => absurd hj (by omega), by decide⟩

set_option maxRecDepth 100000 in
theorem awake15_any {w : World} (hT : Tab15 w) : Calls Tryd.prog 7 #[] w fun e w' => e = .returned (.bool true) ∧ Below w.heap.size w w' := by
  have HM : Hid (Calls Tryd.prog 21 #[.string ⟨#[99, 117, 114, 118, 101, 50, 53, 53, 49, 57, 45, 115, 104, 97, 50, 53, 54]⟩] w fun e w' => e = .returned (.int .i64 1) ∧ Below w.heap.size w w') := pfMethod_any hT meCurve
  have HP := Lib.hid (fun (W : World) (hb : Below w.heap.size w W) => pfPlain_any (hT.below hb))
  have HC := Lib.hid (fun (W : World) (u : Nat → Value) (hb : Below w.heap.size w W) (h : Eight W u plainP) => pfCheck_ok (hT.below hb) h plain_small plain_ok)
  have HZ : Hid (∀ W, Below w.heap.size w W → Calls Tryd.prog 8 #[.agg #[.slice none 0 0, .slice none 0 0, .slice none 0 0, .slice none 0 0, .slice none 0 0, .slice none 0 0, .slice none 0 0, .slice none 0 0]] W fun e w' => ∃ t v, e = .returned (.iface t v) ∧ ErrAt w' (.iface t v) [prefsS, bs (wordZ 0)] (some (oneP 0 [])) ∧ Below W.heap.size W w') := fun W hb => pfCheck_bad (hT.below hb) (zero_eight W) (fun _ _ x hx => by simp at hx) zero_bad
  clear hT
  go_enter Tryd.func7, Tryd.ntmps7
  go_wp2_with (first
    | (go_at_call 21; (with_reducible refine HM.out.mono ?_); rintro e w1 ⟨rfl, b1⟩; have B1 := Lib.hid b1; clear b1)
    | (go_at_call 20; (with_reducible refine (HP.out _ B1.out).mono ?_); rintro e w2 ⟨u, rfl, hu, b2⟩; have B2 := Lib.hid (B1.out.trans (b2.mono B1.out.size)); clear b2)
    | (go_at_call 8; (with_reducible refine (HC.out _ u B2.out hu).mono ?_); rintro e w3 ⟨rfl, b3⟩; have B3 := Lib.hid (B2.out.trans (b3.mono B2.out.size)); clear b3)
    | (go_at_call 8; (with_reducible refine (HZ.out _ B3.out).mono ?_); rintro e w4 ⟨t, v, rfl, he, b4⟩; have B4 := Lib.hid (B3.out.trans (b4.mono B3.out.size)); clear b4))
  go_ret
  exact ⟨rfl, B4.out⟩
end Go.Proofs.YtkigohenfaomkaaDoor
