/- Layer 17: awake. -/
import Derived.Test.YtihkhcocfhbekaaDoorCh2
import Derived.Test.YtihkhcocfhbekaaDoorPfA
import Derived.Deep.RegionHeld3
namespace Go.Proofs.YtihkhcocfhbekaaDoor
open Go.RowKit

theorem plain_small17 : ∀ k < 8, ∀ x ∈ plainP k, x.length ≤ 1000 := by
  have h : ∀ k < 8, ∀ x ∈ plainP k, x.length ≤ 40 := by decide +kernel
  exact fun k hk x hx => Nat.le_trans (h k hk x hx) (by omega)
theorem plain_len17 : ∀ k < 8, (plainP k).length ≤ 1000 := fun k hk => Nat.le_trans (plain_len k hk) (by omega)
theorem plain_first : ∀ k < 8, ((chAt plainP plainP k).2 = true ∧ (chAt plainP plainP k).1 = bs ((plainP k).headD [])) := by decide +kernel
theorem plain_bad : badAt (fun k => (chAt plainP plainP k).2) = 8 := badAt_none fun k hk => (plain_first k hk).1

set_option maxHeartbeats 2000000 in
set_option maxRecDepth 100000 in
theorem awake17_any {w : World} (hT : Tab15 w) : Calls Tryd.prog 11 #[] w fun e w' => e = .returned (.bool true) ∧ Below w.heap.size w w' := by
  have HP := Lib.hid (fun (W : World) (hb : Below w.heap.size w W) => pfPlain_any (hT.below hb))
  have HC : Hid (∀ (W : World) (u v : Nat → Value), Below w.heap.size w W → Eight W u plainP → Eight W v plainP → Calls Tryd.prog 12 #[agg8 u, agg8 v] W fun e w' => e = .returned (.tuple #[.agg #[.string (chAt plainP plainP 0).1, .string (chAt plainP plainP 1).1, .string (chAt plainP plainP 2).1, .string (chAt plainP plainP 3).1, .string (chAt plainP plainP 4).1, .string (chAt plainP plainP 5).1, .string (chAt plainP plainP 6).1, .string (chAt plainP plainP 7).1], .nilIface]) ∧ Below W.heap.size W w') := fun W u v hb h1 h2 => (chChoose_any (hT.below hb) h1.at_ h2.at_ plain_len17 plain_len17 plain_small17 plain_small17).mono fun e w' ⟨h, _, h3⟩ => ⟨h plain_bad, h3⟩
  have q0 : ((chAt plainP plainP 0).1.toList == [99, 117, 114, 118, 101, 50, 53, 53, 49, 57, 45, 115, 104, 97, 50, 53, 54]) = true := by
    rw [(plain_first 0 (by omega)).2, ba_toList]
    decide +kernel
  have q1 : ((chAt plainP plainP 1).1.toList == [115, 115, 104, 45, 101, 100, 50, 53, 53, 49, 57]) = true := by
    rw [(plain_first 1 (by omega)).2, ba_toList]
    decide +kernel
  have q3 : ((chAt plainP plainP 3).1.toList == [97, 101, 115, 50, 53, 54, 45, 103, 99, 109]) = true := by
    rw [(plain_first 3 (by omega)).2, ba_toList]
    decide +kernel
  have q7 : ((chAt plainP plainP 7).1.toList == [110, 111, 110, 101]) = true := by
    rw [(plain_first 7 (by omega)).2, ba_toList]
    decide +kernel
  generalize (chAt plainP plainP 0).1 = F0 at *
  generalize (chAt plainP plainP 1).1 = F1 at *
  generalize (chAt plainP plainP 2).1 = F2 at *
  generalize (chAt plainP plainP 3).1 = F3 at *
  generalize (chAt plainP plainP 4).1 = F4 at *
  generalize (chAt plainP plainP 5).1 = F5 at *
  generalize (chAt plainP plainP 6).1 = F6 at *
  generalize (chAt plainP plainP 7).1 = F7 at *
  clear hT
  go_enter Tryd.func11, Tryd.ntmps11
  go_wp2_with (first
    | (go_at_call 39; (with_reducible refine (HP.out _ (Below.refl _ _)).mono ?_); rintro e w1 ⟨u, rfl, hu, b1⟩; have B1 := Lib.hid b1; have HU := Lib.hid hu; clear b1 hu)
    | (go_at_call 39; (with_reducible refine (HP.out _ B1.out).mono ?_); rintro e w2 ⟨v, rfl, hv, b2⟩; have B2 := Lib.hid (B1.out.trans (b2.mono B1.out.size)); have HV := Lib.hid hv; have HU2 := Lib.hid (HU.out.below b2); clear b2 hv)
    | (go_at_call 12; (with_reducible refine (HC.out _ u v B2.out HU2.out HV.out).mono ?_); rintro e w3 ⟨rfl, b3⟩; have B3 := Lib.hid (B2.out.trans (b3.mono B2.out.size)); clear b3)
    | fail)
  go_ret
  exact ⟨rfl, B3.out.alloc B3.out.size _⟩
end Go.Proofs.YtihkhcocfhbekaaDoor
