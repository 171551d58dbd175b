/- Part 8 of what the statement wants. -/
import Derived.BigQuiet
import Derived.Laws.Rows
import Derived.RowKitTokens
import Derived.Test.YtgoinpibllomfaaDoorPk02
import Derived.Test.YtgoinpibllomfaaDoorPk07
namespace Go.Proofs.YtgoinpibllomfaaDoor
open Go.RowKit


set_option maxRecDepth 100000 in
theorem dWithin_any (x : ByteArray) (e : Int) (he : e ≠ 0) (w : World) : Calls Tryd.prog 30 #[.string x, .int .i64 e] w fun r w' => ∃ t v, r = .returned (.iface t v) ∧ ErrAt w' (.iface t v) [denyS, x] (some e) ∧ Below w.heap.size w w' := by
  have HO : Hid (∀ W : World, Calls Tryd.prog 46 #[.string x, .int .i64 e] W fun r w' => ∃ t v, r = .returned (.iface t v) ∧ ErrAt w' (.iface t v) [x] (some e) ∧ Below W.heap.size W w') := fun W => (fOf_any x e he W).mono (by
    rintro r w' ⟨v, rfl, he, hn, hb⟩
    cases he with
    | fault h1 h2 h3 h4 => exact ⟨_, _, rfl, .fault h1 h2 h3 h4, hb⟩)
  have HA : Hid (∀ (W : World) (t : TypeId) (v : Value), ErrAt W (.iface t v) [x] (some e) → Calls Tryd.prog 45 #[.string denyS, .iface t v] W fun r w' => ∃ t v, r = .returned (.iface t v) ∧ ErrAt w' (.iface t v) [denyS, x] (some e) ∧ Below W.heap.size W w') := fun W t v hv => (fAt_any hv (by simp) denyS).mono (by
    rintro r w' ⟨v, rfl, he, hn, hb⟩
    cases he with
    | fault h1 h2 h3 h4 => exact ⟨_, _, rfl, .fault h1 h2 h3 h4, hb⟩)
  unfold denyS at HA ⊢
  go_enter Tryd.func30, Tryd.ntmps30
  go_wp2_with (first
    | (go_at_call 46; (with_reducible refine (HO.out _).mono ?_); rintro r w1 ⟨t1, v1, rfl, he1, b1⟩)
    | (go_at_call 45; (with_reducible refine (HA.out _ _ _ he1).mono ?_); rintro r w2 ⟨t2, v2, rfl, he2, b2⟩))
  go_ret
  exact ⟨t2, v2, rfl, he2, b1.trans (b2.mono b1.size)⟩
/-- What a check of a gate returns. -/
def GateSaid (w : World) (l : List GrantR) (al : List (List UInt8)) (lim : Int) (v : Value) : Prop :=
  (gateZ l al lim = 0 ∧ v = .nilIface) ∨ (gateZ l al lim ≠ 0 ∧ ∃ t u, v = .iface t u ∧ ErrAt w v [denyS, gateS (gateI l al lim)] (some (gateZ l al lim)))
set_option maxHeartbeats 1000000 in
set_option maxRecDepth 100000 in
theorem dCheck_any {w : World} {vg va : Value} {l : List GrantR} {al : List (List UInt8)} (hg : GrantsAt w vg l) (hlg : l.length ≤ maxLen) (hsg : ∀ x ∈ l, x.user.length ≤ 1000000) (ha : TextsAt w va (al.map bs)) (hla : al.length ≤ maxLen) (hsa : ∀ x ∈ al, x.length ≤ 1000000) (lim : Int) :
    Calls Tryd.prog 10 #[vg, va, .int .i64 lim] w fun e w' => ∃ v, e = .returned v ∧ GateSaid w' l al lim v ∧ Below w.heap.size w w' := by
  have HG := Lib.hid (dGrants_any hg hlg hsg)
  have HA := Lib.hid (fun (W : World) (hb : Below w.heap.size w W) => dCAlgs_any (ha.below hb) hla hsa)
  have HW := Lib.hid (fun (W : World) (x : ByteArray) (e : Int) (he : e ≠ 0) => dWithin_any x e he W)
  obtain ⟨ag, cg, rfl, _⟩ := hg
  obtain ⟨aa, ca, rfl, _⟩ := ha
  rw [List.length_map] at *
  by_cases h0 : grantsZ l ≠ 0
  · have HS : Hid (∀ (W : World) (t : TypeId) (u : Value), ErrAt W (.iface t u) [denyS, gateS 0] (some (grantsZ l)) → GateSaid W l al lim (.iface t u)) := fun W t u h => .inr ⟨by rw [(gate0 h0).1]; exact h0, t, u, rfl, by rw [(gate0 h0).1, (gate0 h0).2]; exact h⟩
    have HW1 : Hid (∀ W, Calls Tryd.prog 30 #[.string ⟨#[103, 114, 97, 110, 116, 115]⟩, .int .i64 (grantsZ l)] W fun r w' => ∃ t v, r = .returned (.iface t v) ∧ ErrAt w' (.iface t v) [denyS, gateS 0] (some (grantsZ l)) ∧ Below W.heap.size W w') := fun W => HW.out W _ _ h0
    have q : (grantsZ l != 0) = true := by simpa using h0
    have q' : (grantsZ l == 0) = false := by simpa using h0
    clear h0 HW HA hlg hsg hla hsa
    generalize grantsZ l = z at *
    go_enter Tryd.func10, Tryd.ntmps10
    go_wp2_with (first
      | (go_at_call 29; (with_reducible refine HG.out.mono ?_); rintro e w1 ⟨rfl, b1⟩)
      | (go_at_call 30; (with_reducible refine (HW1.out _).mono ?_); rintro e w2 ⟨t, v, rfl, he, b2⟩))
    go_ret
    exact ⟨_, rfl, HS.out _ _ _ he, b1.trans (b2.mono b1.size)⟩
  have h0 : grantsZ l = 0 := by omega
  by_cases h1 : algsZ al ≠ 0
  · have HS : Hid (∀ (W : World) (t : TypeId) (u : Value), ErrAt W (.iface t u) [denyS, gateS 1] (some (algsZ al)) → GateSaid W l al lim (.iface t u)) := fun W t u h => .inr ⟨by rw [(gate1 h0 h1).1]; exact h1, t, u, rfl, by rw [(gate1 h0 h1).1, (gate1 h0 h1).2]; exact h⟩
    have HW1 : Hid (∀ W, Calls Tryd.prog 30 #[.string ⟨#[97, 108, 103, 115]⟩, .int .i64 (algsZ al)] W fun r w' => ∃ t v, r = .returned (.iface t v) ∧ ErrAt w' (.iface t v) [denyS, gateS 1] (some (algsZ al)) ∧ Below W.heap.size W w') := fun W => HW.out W _ _ h1
    have q : (algsZ al != 0) = true := by simpa using h1
    have q' : (algsZ al == 0) = false := by simpa using h1
    rw [h0] at HG
    clear h0 h1 HW hlg hsg hla hsa
    generalize algsZ al = z at *
    go_enter Tryd.func10, Tryd.ntmps10
    go_wp2_with (first
      | (go_at_call 29; (with_reducible refine HG.out.mono ?_); rintro e w1 ⟨rfl, b1⟩)
      | (go_at_call 31; (with_reducible refine (HA.out _ b1).mono ?_); rintro e w2 ⟨rfl, b2⟩; have B2 := Lib.hid (b1.trans (b2.mono b1.size)))
      | (go_at_call 30; (with_reducible refine (HW1.out _).mono ?_); rintro e w3 ⟨t, v, rfl, he, b3⟩))
    go_ret
    exact ⟨_, rfl, HS.out _ _ _ he, B2.out.trans (b3.mono B2.out.size)⟩
  have h1 : algsZ al = 0 := by omega
  rw [h0] at HG
  rw [h1] at HA
  by_cases h2 : 1 ≤ lim ∧ lim ≤ 20
  · have HS : Hid (∀ W, GateSaid W l al lim .nilIface) := fun W => .inl ⟨(gate3 h0 h1 h2).1, rfl⟩
    have q1 : decide (lim < 1) = false := decide_eq_false (by omega)
    have q2 : decide (lim > 20) = false := decide_eq_false (by omega)
    clear h0 h1 h2 HW hlg hsg hla hsa
    go_enter Tryd.func10, Tryd.ntmps10
    go_wp2_with (first
      | (go_at_call 29; (with_reducible refine HG.out.mono ?_); rintro e w1 ⟨rfl, b1⟩)
      | (go_at_call 31; (with_reducible refine (HA.out _ b1).mono ?_); rintro e w2 ⟨rfl, b2⟩; have B2 := Lib.hid (b1.trans (b2.mono b1.size))))
    go_ret
    exact ⟨_, rfl, HS.out _, B2.out⟩
  · have HS : Hid (∀ (W : World) (t : TypeId) (u : Value), ErrAt W (.iface t u) [denyS, gateS 2] (some 5) → GateSaid W l al lim (.iface t u)) := fun W t u h => .inr ⟨by rw [(gate2 h0 h1 h2).1]; decide, t, u, rfl, by rw [(gate2 h0 h1 h2).1, (gate2 h0 h1 h2).2]; exact h⟩
    have HW1 : Hid (∀ W, Calls Tryd.prog 30 #[.string ⟨#[108, 105, 109, 105, 116]⟩, .int .i64 5] W fun r w' => ∃ t v, r = .returned (.iface t v) ∧ ErrAt w' (.iface t v) [denyS, gateS 2] (some 5) ∧ Below W.heap.size W w') := fun W => HW.out W _ _ (by decide)
    by_cases h3 : lim < 1
    · have q1 : decide (lim < 1) = true := decide_eq_true h3
      clear h0 h1 h2 h3 HW hlg hsg hla hsa
      go_enter Tryd.func10, Tryd.ntmps10
      go_wp2_with (first
        | (go_at_call 29; (with_reducible refine HG.out.mono ?_); rintro e w1 ⟨rfl, b1⟩)
        | (go_at_call 31; (with_reducible refine (HA.out _ b1).mono ?_); rintro e w2 ⟨rfl, b2⟩; have B2 := Lib.hid (b1.trans (b2.mono b1.size)))
        | (go_at_call 30; (with_reducible refine (HW1.out _).mono ?_); rintro e w3 ⟨t, v, rfl, he, b3⟩))
      go_ret
      exact ⟨_, rfl, HS.out _ _ _ he, B2.out.trans (b3.mono B2.out.size)⟩
    · have q1 : decide (lim < 1) = false := decide_eq_false h3
      have q2 : decide (lim > 20) = true := decide_eq_true (by omega)
      clear h0 h1 h2 h3 HW hlg hsg hla hsa
      go_enter Tryd.func10, Tryd.ntmps10
      go_wp2_with (first
        | (go_at_call 29; (with_reducible refine HG.out.mono ?_); rintro e w1 ⟨rfl, b1⟩)
        | (go_at_call 31; (with_reducible refine (HA.out _ b1).mono ?_); rintro e w2 ⟨rfl, b2⟩; have B2 := Lib.hid (b1.trans (b2.mono b1.size)))
        | (go_at_call 30; (with_reducible refine (HW1.out _).mono ?_); rintro e w3 ⟨t, v, rfl, he, b3⟩))
      go_ret
      exact ⟨_, rfl, HS.out _ _ _ he, B2.out.trans (b3.mono B2.out.size)⟩
end Go.Proofs.YtgoinpibllomfaaDoor

namespace Go.Proofs.YtgoinpibllomfaaDoor
open Go.RowKit

theorem bsTest (a b : List UInt8) : ((bs a).toList == (bs b).toList) = decide (a = b) := by
  have h : ∀ l : List UInt8, (bs l).toList = l := fun l => by rw [ByteArray.toList_eq]; simp [bs]
  rw [h, h, Bool.eq_iff_iff, beq_iff_eq, decide_eq_true_eq]
def names4 : List (List UInt8) := [[], meCurve, meEcdh, meGex]
def names3 : List (List UInt8) := [meCurve, meEcdh, meGex]
def cells4 : Array Value := #[.string ⟨#[]⟩, .string (bs meCurve), .string (bs meEcdh), .string (bs meGex)]
set_option maxRecDepth 100000 in
theorem size4 : (Tryd.prog.info? 98).map (·.size) = some cells4.size := by kernel_rfl
set_option maxRecDepth 100000 in
theorem index4 : ∀ (k : Nat) (y : List UInt8), names4[k]? = some y → ∀ W : World, (Instr.index 98 (.agg cells4) (.int .i64 (k : Int))).run Tryd.prog W = .ok (.string (bs y)) W
  | 0, y, h => by
    obtain rfl := (Option.some.inj h).symm
    exact fun _ => by kernel_rfl
  | 1, y, h => by
    obtain rfl := (Option.some.inj h).symm
    exact fun _ => by kernel_rfl
  | 2, y, h => by
    obtain rfl := (Option.some.inj h).symm
    exact fun _ => by kernel_rfl
  | 3, y, h => by
    obtain rfl := (Option.some.inj h).symm
    exact fun _ => by kernel_rfl
  | k + 4, y, h => by simp [names4] at h
theorem tab_cell4 {w : World} (hT : Tab15 w) {k : Nat} {y : List UInt8} (h : names4[k]? = some y) : w.cell? ⟨0, k, none⟩ = some (.string (bs y)) := by
  obtain ⟨⟨tt, fr, hg⟩, _⟩ := hT
  rw [cell_of_row w _ k _ _ _ hg]
  have e : (#[.string ⟨#[]⟩, .string (bs meCurve), .string (bs meEcdh), .string (bs meGex)] : Array Value) = (names4.map fun x => Value.string (bs x)).toArray := rfl
  rw [e]
  simp [h]
theorem tab_cell8 {w : World} (hT : Tab15 w) {k : Nat} {y : List UInt8} (h : pfWords[k]? = some y) : w.cell? ⟨2, k, none⟩ = some (.string (bs y)) := by
  obtain ⟨_, tt, fr, hg⟩ := hT
  rw [cell_of_row w _ k _ _ _ hg]
  simp [h]
theorem methodZ_in {z : Int} (h : 0 ≤ z ∧ z < 4) : names4[z.toNat]? = some (methodZ z) := by
  have : z = 0 ∨ z = 1 ∨ z = 2 ∨ z = 3 := by omega
  rcases this with rfl | rfl | rfl | rfl <;> rfl
theorem methodZ_out {z : Int} (h : ¬ (0 ≤ z ∧ z < 4)) : methodZ z = [] := by
  unfold methodZ
  rw [if_neg (by omega), if_neg (by omega), if_neg (by omega)]
theorem wordZ_in {z : Int} (h : 0 ≤ z ∧ z < 8) : pfWords[z.toNat]? = some (wordZ z) := by
  unfold wordZ
  rw [if_pos h]
  have : z.toNat < pfWords.length := by show z.toNat < 8; omega
  simp [List.getD, this]
theorem wordZ_out {z : Int} (h : ¬ (0 ≤ z ∧ z < 8)) : wordZ z = [] := if_neg h

set_option maxRecDepth 100000 in
theorem pfName_any {w : World} (hT : Tab15 w) (z : Int) : Calls Tryd.prog 43 #[.int .i64 z] w fun e w' => e = .returned (.string (bs (methodZ z))) ∧ w' = w := by
  by_cases h : 0 ≤ z ∧ z < 4
  · have hc := tab_cell4 hT (methodZ_in h)
    obtain ⟨n, rfl⟩ : ∃ n : Nat, z = n := ⟨z.toNat, by omega⟩
    rw [Int.toNat_natCast] at hc
    have q1 : decide ((n : Int) < 0) = false := decide_eq_false (by omega)
    have q2 : decide ((n : Int) ≥ 4) = false := decide_eq_false (by omega)
    have hn : n < 4 := by omega
    clear h hT
    generalize bs (methodZ n) = S at *
    go_enter Tryd.func43, Tryd.ntmps43
    go_wp2_with fail
    go_ret
    exact ⟨rfl, rfl⟩
  · rw [methodZ_out h, show bs ([] : List UInt8) = ⟨#[]⟩ from rfl]
    clear hT
    by_cases h0 : z < 0
    · have q1 : decide (z < 0) = true := decide_eq_true h0
      go_enter Tryd.func43, Tryd.ntmps43
      go_wp2_with fail
      go_ret
      exact ⟨rfl, rfl⟩
    · have q1 : decide (z < 0) = false := decide_eq_false h0
      have q2 : decide (z ≥ 4) = true := decide_eq_true (by omega)
      clear h
      go_enter Tryd.func43, Tryd.ntmps43
      go_wp2_with fail
      go_ret
      exact ⟨rfl, rfl⟩
set_option maxRecDepth 100000 in
theorem pfList_any {w : World} (hT : Tab15 w) (z : Int) : Calls Tryd.prog 81 #[.int .i64 z] w fun e w' => e = .returned (.string (bs (wordZ z))) ∧ w' = w := by
  by_cases h : 0 ≤ z ∧ z < 8
  · have hc := tab_cell8 hT (wordZ_in h)
    obtain ⟨n, rfl⟩ : ∃ n : Nat, z = n := ⟨z.toNat, by omega⟩
    rw [Int.toNat_natCast] at hc
    have q1 : decide ((n : Int) < 0) = false := decide_eq_false (by omega)
    have q2 : decide ((n : Int) ≥ 8) = false := decide_eq_false (by omega)
    have hn : n < 8 := by omega
    clear h hT
    generalize bs (wordZ n) = S at *
    go_enter Tryd.func81, Tryd.ntmps81
    go_wp2_with fail
    go_ret
    exact ⟨rfl, rfl⟩
  · rw [wordZ_out h, show bs ([] : List UInt8) = ⟨#[]⟩ from rfl]
    clear hT
    by_cases h0 : z < 0
    · have q1 : decide (z < 0) = true := decide_eq_true h0
      go_enter Tryd.func81, Tryd.ntmps81
      go_wp2_with fail
      go_ret
      exact ⟨rfl, rfl⟩
    · have q1 : decide (z < 0) = false := decide_eq_false h0
      have q2 : decide (z ≥ 8) = true := decide_eq_true (by omega)
      clear h
      go_enter Tryd.func81, Tryd.ntmps81
      go_wp2_with fail
      go_ret
      exact ⟨rfl, rfl⟩
end Go.Proofs.YtgoinpibllomfaaDoor
