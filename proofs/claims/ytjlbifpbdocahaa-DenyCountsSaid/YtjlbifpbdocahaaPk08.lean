/- Part 8 of what the statement wants. -/
import Derived.BigQuiet
import Derived.Test.YtjlbifpbdocahaaPk05
import Derived.Test.YtjlbifpbdocahaaPk06
import Derived.Test.YtjlbifpbdocahaaPk07
namespace Go.Proofs.Ytjlbifpbdocahaa
open Go.RowKit

set_option maxRecDepth 100000 in
theorem dWithin_any (x : ByteArray) (e : Int) (he : e ≠ 0) (w : World) : Calls Try.prog 79 #[.string x, .int .i64 e] w fun r w' => ∃ t v, r = .returned (.iface t v) ∧ ErrAt w' (.iface t v) [denyS, x] (some e) ∧ Below w.heap.size w w' := by
  have HO : Hid (∀ W : World, Calls Try.prog 95 #[.string x, .int .i64 e] W fun r w' => ∃ t v, r = .returned (.iface t v) ∧ ErrAt w' (.iface t v) [x] (some e) ∧ Below W.heap.size W w') := fun W => (fOf_any x e he W).mono (by
    rintro r w' ⟨v, rfl, he, hn, hb⟩
    cases he with
    | fault h1 h2 h3 h4 => exact ⟨_, _, rfl, .fault h1 h2 h3 h4, hb⟩)
  have HA : Hid (∀ (W : World) (t : TypeId) (v : Value), ErrAt W (.iface t v) [x] (some e) → Calls Try.prog 94 #[.string denyS, .iface t v] W fun r w' => ∃ t v, r = .returned (.iface t v) ∧ ErrAt w' (.iface t v) [denyS, x] (some e) ∧ Below W.heap.size W w') := fun W t v hv => (fAt_any hv (by simp) denyS).mono (by
    rintro r w' ⟨v, rfl, he, hn, hb⟩
    cases he with
    | fault h1 h2 h3 h4 => exact ⟨_, _, rfl, .fault h1 h2 h3 h4, hb⟩)
  unfold denyS at HA ⊢
  go_enter Try.func79, Try.ntmps79
  go_wp2_with (first
    | (go_at_call 95; (with_reducible refine (HO.out _).mono ?_); rintro r w1 ⟨t1, v1, rfl, he1, b1⟩)
    | (go_at_call 94; (with_reducible refine (HA.out _ _ _ he1).mono ?_); rintro r w2 ⟨t2, v2, rfl, he2, b2⟩))
  go_ret
  exact ⟨t2, v2, rfl, he2, b1.trans (b2.mono b1.size)⟩

/-- What a check of a gate returns. -/
def GateSaid (w : World) (l : List GrantR) (al : List (List UInt8)) (lim : Int) (v : Value) : Prop :=
  (gateZ l al lim = 0 ∧ v = .nilIface) ∨ (gateZ l al lim ≠ 0 ∧ ∃ t u, v = .iface t u ∧ ErrAt w v [denyS, gateS (gateI l al lim)] (some (gateZ l al lim)))

set_option maxHeartbeats 1000000 in
set_option maxRecDepth 100000 in
theorem dCheck_any {w : World} {vg va : Value} {l : List GrantR} {al : List (List UInt8)} (hg : GrantsAt w vg l) (hlg : l.length ≤ maxLen) (hsg : ∀ x ∈ l, x.user.length ≤ 1000000) (ha : TextsAt w va (al.map bs)) (hla : al.length ≤ maxLen) (hsa : ∀ x ∈ al, x.length ≤ 1000000) (lim : Int) :
    Calls Try.prog 41 #[vg, va, .int .i64 lim] w fun e w' => ∃ v, e = .returned v ∧ GateSaid w' l al lim v ∧ Below w.heap.size w w' := by
  have HG := Lib.hid (dGrants_any hg hlg hsg)
  have HA := Lib.hid (fun (W : World) (hb : Below w.heap.size w W) => dCAlgs_any (ha.below hb) hla hsa)
  have HW := Lib.hid (fun (W : World) (x : ByteArray) (e : Int) (he : e ≠ 0) => dWithin_any x e he W)
  obtain ⟨ag, cg, rfl, _⟩ := hg
  obtain ⟨aa, ca, rfl, _⟩ := ha
  rw [List.length_map] at *
  by_cases h0 : grantsZ l ≠ 0
  · have HS : Hid (∀ (W : World) (t : TypeId) (u : Value), ErrAt W (.iface t u) [denyS, gateS 0] (some (grantsZ l)) → GateSaid W l al lim (.iface t u)) := fun W t u h => .inr ⟨by rw [(gate0 h0).1]; exact h0, t, u, rfl, by rw [(gate0 h0).1, (gate0 h0).2]; exact h⟩
    have HW1 : Hid (∀ W, Calls Try.prog 79 #[.string ⟨#[103, 114, 97, 110, 116, 115]⟩, .int .i64 (grantsZ l)] W fun r w' => ∃ t v, r = .returned (.iface t v) ∧ ErrAt w' (.iface t v) [denyS, gateS 0] (some (grantsZ l)) ∧ Below W.heap.size W w') := fun W => HW.out W _ _ h0
    have q : (grantsZ l != 0) = true := by simpa using h0
    have q' : (grantsZ l == 0) = false := by simpa using h0
    clear h0 HW HA hlg hsg hla hsa
    generalize grantsZ l = z at *
    go_enter Try.func41, Try.ntmps41
    go_wp2_with (first
      | (go_at_call 78; (with_reducible refine HG.out.mono ?_); rintro e w1 ⟨rfl, b1⟩)
      | (go_at_call 79; (with_reducible refine (HW1.out _).mono ?_); rintro e w2 ⟨t, v, rfl, he, b2⟩))
    go_ret
    exact ⟨_, rfl, HS.out _ _ _ he, b1.trans (b2.mono b1.size)⟩
  have h0 : grantsZ l = 0 := by omega
  by_cases h1 : algsZ al ≠ 0
  · have HS : Hid (∀ (W : World) (t : TypeId) (u : Value), ErrAt W (.iface t u) [denyS, gateS 1] (some (algsZ al)) → GateSaid W l al lim (.iface t u)) := fun W t u h => .inr ⟨by rw [(gate1 h0 h1).1]; exact h1, t, u, rfl, by rw [(gate1 h0 h1).1, (gate1 h0 h1).2]; exact h⟩
    have HW1 : Hid (∀ W, Calls Try.prog 79 #[.string ⟨#[97, 108, 103, 115]⟩, .int .i64 (algsZ al)] W fun r w' => ∃ t v, r = .returned (.iface t v) ∧ ErrAt w' (.iface t v) [denyS, gateS 1] (some (algsZ al)) ∧ Below W.heap.size W w') := fun W => HW.out W _ _ h1
    have q : (algsZ al != 0) = true := by simpa using h1
    have q' : (algsZ al == 0) = false := by simpa using h1
    rw [h0] at HG
    clear h0 h1 HW hlg hsg hla hsa
    generalize algsZ al = z at *
    go_enter Try.func41, Try.ntmps41
    go_wp2_with (first
      | (go_at_call 78; (with_reducible refine HG.out.mono ?_); rintro e w1 ⟨rfl, b1⟩)
      | (go_at_call 80; (with_reducible refine (HA.out _ b1).mono ?_); rintro e w2 ⟨rfl, b2⟩; have B2 := Lib.hid (b1.trans (b2.mono b1.size)))
      | (go_at_call 79; (with_reducible refine (HW1.out _).mono ?_); rintro e w3 ⟨t, v, rfl, he, b3⟩))
    go_ret
    exact ⟨_, rfl, HS.out _ _ _ he, B2.out.trans (b3.mono B2.out.size)⟩
  have h1 : algsZ al = 0 := by omega
  rw [h0] at HG
  rw [h1] at HA
  by_cases h2 : 1 ≤ lim ∧ lim ≤ 20
  · have HS : Hid (∀ W, GateSaid W l al lim .nilIface) := fun W => .inl ⟨(gate3 h0 h1 h2).1, rfl⟩
    have q1 : decide (lim < 1) = false := decide_eq_false (by omega)
    have q2 : decide (lim > 20) = false := decide_eq_false (by omega)
    clear h0 h1 h2 HW hlg hsg hla hsa
    go_enter Try.func41, Try.ntmps41
    go_wp2_with (first
      | (go_at_call 78; (with_reducible refine HG.out.mono ?_); rintro e w1 ⟨rfl, b1⟩)
      | (go_at_call 80; (with_reducible refine (HA.out _ b1).mono ?_); rintro e w2 ⟨rfl, b2⟩; have B2 := Lib.hid (b1.trans (b2.mono b1.size))))
    go_ret
    exact ⟨_, rfl, HS.out _, B2.out⟩
  · have HS : Hid (∀ (W : World) (t : TypeId) (u : Value), ErrAt W (.iface t u) [denyS, gateS 2] (some 5) → GateSaid W l al lim (.iface t u)) := fun W t u h => .inr ⟨by rw [(gate2 h0 h1 h2).1]; decide, t, u, rfl, by rw [(gate2 h0 h1 h2).1, (gate2 h0 h1 h2).2]; exact h⟩
    have HW1 : Hid (∀ W, Calls Try.prog 79 #[.string ⟨#[108, 105, 109, 105, 116]⟩, .int .i64 5] W fun r w' => ∃ t v, r = .returned (.iface t v) ∧ ErrAt w' (.iface t v) [denyS, gateS 2] (some 5) ∧ Below W.heap.size W w') := fun W => HW.out W _ _ (by decide)
    by_cases h3 : lim < 1
    · have q1 : decide (lim < 1) = true := decide_eq_true h3
      clear h0 h1 h2 h3 HW hlg hsg hla hsa
      go_enter Try.func41, Try.ntmps41
      go_wp2_with (first
        | (go_at_call 78; (with_reducible refine HG.out.mono ?_); rintro e w1 ⟨rfl, b1⟩)
        | (go_at_call 80; (with_reducible refine (HA.out _ b1).mono ?_); rintro e w2 ⟨rfl, b2⟩; have B2 := Lib.hid (b1.trans (b2.mono b1.size)))
        | (go_at_call 79; (with_reducible refine (HW1.out _).mono ?_); rintro e w3 ⟨t, v, rfl, he, b3⟩))
      go_ret
      exact ⟨_, rfl, HS.out _ _ _ he, B2.out.trans (b3.mono B2.out.size)⟩
    · have q1 : decide (lim < 1) = false := decide_eq_false h3
      have q2 : decide (lim > 20) = true := decide_eq_true (by omega)
      clear h0 h1 h2 h3 HW hlg hsg hla hsa
      go_enter Try.func41, Try.ntmps41
      go_wp2_with (first
        | (go_at_call 78; (with_reducible refine HG.out.mono ?_); rintro e w1 ⟨rfl, b1⟩)
        | (go_at_call 80; (with_reducible refine (HA.out _ b1).mono ?_); rintro e w2 ⟨rfl, b2⟩; have B2 := Lib.hid (b1.trans (b2.mono b1.size)))
        | (go_at_call 79; (with_reducible refine (HW1.out _).mono ?_); rintro e w3 ⟨t, v, rfl, he, b3⟩))
      go_ret
      exact ⟨_, rfl, HS.out _ _ _ he, B2.out.trans (b3.mono B2.out.size)⟩

theorem below_drewN24 {B : Nat} {w w' : World} (h : Below B w w') (n : Nat) : Below B w (w'.drewN n) := ⟨h.os, h.tape, h.output, h.size, h.block⟩
/-- A gate in block g. -/
def GateAt (w : World) (g : Nat) (l : List GrantR) (al : List (List UInt8)) (lim n : Int) : Prop :=
  ∃ (w0 : World) (vg va : Value), Holds w g 93 #[vg, va, .int .i64 lim, .int .i64 n] ∧ w0.heap.size ≤ g ∧ Below w0.heap.size w0 w ∧ GrantsAt w0 vg l ∧ TextsAt w0 va (al.map bs)
theorem GateAt.below {w w' : World} {g : Nat} {l : List GrantR} {al : List (List UInt8)} {lim n : Int} (h : GateAt w g l al lim n) (hb : Below w.heap.size w w') : GateAt w' g l al lim n := by
  obtain ⟨w0, vg, va, h1, h2, h3, h4, h5⟩ := h
  exact ⟨w0, vg, va, (hb.block _ h1.lt).trans h1, h2, h3.trans (hb.mono h3.size), h4, h5⟩
theorem GateAt.set {w : World} {g : Nat} {l : List GrantR} {al : List (List UInt8)} {lim n : Int} (h : GateAt w g l al lim n) (m : Int) : GateAt (w.setCell ⟨g, 3, none⟩ (.int .i64 m)) g l al lim m := by
  obtain ⟨w0, vg, va, h1, h2, h3, h4, h5⟩ := h
  exact ⟨w0, vg, va, Holds.set h1 3 (.int .i64 m), h2, h3.setCell (p := ⟨g, 3, none⟩) h2 _, h4, h5⟩
theorem GateAt.lt {w : World} {g : Nat} {l : List GrantR} {al : List (List UInt8)} {lim n : Int} (h : GateAt w g l al lim n) : g < w.heap.size := by
  obtain ⟨w0, vg, va, h1, _⟩ := h
  exact h1.lt
theorem GateAt.open_ {w : World} {g : Nat} {l : List GrantR} {al : List (List UInt8)} {lim n : Int} (h : GateAt w g l al lim n) : ∃ ag cg aa ca, w.cell? ⟨g, 0, none⟩ = some (.slice ag l.length cg) ∧ w.cell? ⟨g, 1, none⟩ = some (.slice aa al.length ca) ∧ w.cell? ⟨g, 2, none⟩ = some (.int .i64 lim) ∧ w.cell? ⟨g, 3, none⟩ = some (.int .i64 n) ∧ w.frozen? ⟨g, 3, none⟩ = false ∧ GrantsAt w (.slice ag l.length cg) l ∧ TextsAt w (.slice aa al.length ca) (al.map bs) := by
  obtain ⟨w0, vg, va, h1, h2, h3, h4, h5⟩ := h
  have h4 := h4.below h3
  have h5 := h5.below h3
  obtain ⟨ag, cg, rfl, _⟩ := id h4
  obtain ⟨aa, ca, e, _⟩ := id h5
  rw [List.length_map] at e
  subst e
  exact ⟨ag, cg, aa, ca, h1.cell 0, h1.cell 1, h1.cell 2, h1.cell 3, h1.frozen 3, h4, h5⟩

set_option maxHeartbeats 1000000 in
set_option maxRecDepth 100000 in
theorem dNew_any {w : World} {vg va : Value} {l : List GrantR} {al : List (List UInt8)} (hg : GrantsAt w vg l) (hlg : l.length ≤ maxLen) (hsg : ∀ x ∈ l, x.user.length ≤ 1000000) (ha : TextsAt w va (al.map bs)) (hla : al.length ≤ maxLen) (hsa : ∀ x ∈ al, x.length ≤ 1000000) (lim : Int) :
    Calls Try.prog 19 #[vg, va, .int .i64 lim] w fun e w' => Below w.heap.size w w' ∧ ((gateZ l al lim ≠ 0 ∧ ∃ t u, e = .returned (.tuple #[.pointer none, .iface t u]) ∧ ErrAt w' (.iface t u) [denyS, gateS (gateI l al lim)] (some (gateZ l al lim))) ∨ (gateZ l al lim = 0 ∧ ∃ g, w.heap.size ≤ g ∧ e = .returned (.tuple #[.pointer (some ⟨g, 0, none⟩), .nilIface]) ∧ GateAt w' g l al lim 0)) := by
  have hC := dCheck_any hg hlg hsg ha hla hsa lim
  by_cases hz : gateZ l al lim = 0
  · obtain ⟨k1, k2, _, _, _⟩ := gate_ok hz
    have HC : Hid (Calls Try.prog 41 #[vg, va, .int .i64 lim] w fun e w' => e = .returned .nilIface ∧ Below w.heap.size w w') := hC.mono (by
      rintro e w' ⟨v, rfl, hs, hb⟩
      rcases hs with ⟨_, rfl⟩ | ⟨h, _⟩
      · exact ⟨rfl, hb⟩
      · exact absurd hz h)
    have HG := Lib.hid (fun (W : World) (hb : Below w.heap.size w W) => cloneG_any (hg.below hb) (by omega))
    have HA := Lib.hid (fun (W : World) (hb : Below w.heap.size w W) => cloneS_any (ha.below hb) (by rw [List.length_map]; omega))
    obtain ⟨ag, cg, rfl, _⟩ := hg
    obtain ⟨aa, ca, rfl, _⟩ := ha
    rw [List.length_map] at *
    clear hC hlg hsg hla hsa k1 k2
    have HZ := Lib.hid hz
    clear hz
    go_enter Try.func19, Try.ntmps19
    go_wp2_with (first
      | (go_at_call 41; (with_reducible refine HC.out.mono ?_); rintro e w1 ⟨rfl, b1⟩)
      | (go_at_call 42; (with_reducible refine (HG.out _ b1).mono ?_); rintro e w2 ⟨v2, rfl, hv2, ⟨a2, n2, c2, rfl⟩, b2⟩; have B2 := Lib.hid (b1.trans (b2.mono b1.size)); have HV2 := Lib.hid hv2)
      | (go_at_call 43; (with_reducible refine (HA.out _ B2.out).mono ?_); rintro e w3 ⟨v3, rfl, hv3, _, b3⟩; have B3 := Lib.hid (B2.out.trans (b3.mono B2.out.size)); have HV3 := Lib.hid hv3; have HG3 := Lib.hid (HV2.out.below b3); obtain ⟨a3, n3, c3, rfl⟩ : ∃ a n c, v3 = .slice a n c := (by obtain ⟨a, c, e, _⟩ := hv3; exact ⟨a, _, c, e⟩))
      | fail)
    go_ret2
    refine ⟨B3.out.alloc B3.out.size _, .inr ⟨HZ.out, w3.heap.size, B3.out.size, rfl, w3, _, _, Holds.new w3 _ _, Nat.le_refl _, (Below.refl _ _).alloc (Nat.le_refl _) _, HG3.out, HV3.out⟩⟩
  · have HC : Hid (Calls Try.prog 41 #[vg, va, .int .i64 lim] w fun e w' => ∃ t u, e = .returned (.iface t u) ∧ ErrAt w' (.iface t u) [denyS, gateS (gateI l al lim)] (some (gateZ l al lim)) ∧ Below w.heap.size w w') := hC.mono (by
      rintro e w' ⟨v, rfl, hs, hb⟩
      rcases hs with ⟨h, _⟩ | ⟨_, t, u, rfl, h⟩
      · exact absurd h hz
      · exact ⟨t, u, rfl, h, hb⟩)
    have HZ := Lib.hid hz
    obtain ⟨ag, cg, rfl, _⟩ := hg
    obtain ⟨aa, ca, rfl, _⟩ := ha
    rw [List.length_map] at *
    clear hC hlg hsg hla hsa hz
    go_enter Try.func19, Try.ntmps19
    go_wp2_with (go_at_call 41; (with_reducible refine HC.out.mono ?_); rintro e w1 ⟨t, u, rfl, he, b1⟩)
    go_ret2
    exact ⟨b1, .inl ⟨HZ.out, t, u, rfl, he⟩⟩

set_option maxRecDepth 100000 in
theorem dFull_any {w : World} {g : Nat} {l : List GrantR} {al : List (List UInt8)} {lim n : Int} (h : GateAt w g l al lim n) : Calls Try.prog 27 #[.pointer (some ⟨g, 0, none⟩)] w fun e w' => e = .returned (.bool (decide (n ≥ lim))) ∧ Below w.heap.size w w' := by
  obtain ⟨ag, cg, aa, ca, c0, c1, c2, c3, c4, _, _⟩ := h.open_
  clear h
  go_enter Try.func27, Try.ntmps27
  go_wp2_with fail
  go_quiet (fail)
  go_wp2_with fail
  go_ret
  exact ⟨rfl, below_drewN24 (Below.refl _ _) _⟩
set_option maxRecDepth 100000 in
theorem dFull_nil (w : World) : Calls Try.prog 27 #[.pointer none] w fun e w' => e = .returned (.bool true) ∧ Below w.heap.size w w' := by
  go_enter Try.func27, Try.ntmps27
  go_wp2_with fail
  go_quiet (fail)
  go_wp2_with fail
  go_ret
  exact ⟨rfl, below_drewN24 (Below.refl _ _) _⟩
set_option maxRecDepth 100000 in
theorem dFailures_any {w : World} {g : Nat} {l : List GrantR} {al : List (List UInt8)} {lim n : Int} (h : GateAt w g l al lim n) : Calls Try.prog 29 #[.pointer (some ⟨g, 0, none⟩)] w fun e w' => e = .returned (.int .i64 n) ∧ w' = w := by
  obtain ⟨ag, cg, aa, ca, c0, c1, c2, c3, c4, _, _⟩ := h.open_
  clear h
  go_enter Try.func29, Try.ntmps29
  go_wp2_with fail
  go_ret
  exact ⟨rfl, rfl⟩
end Go.Proofs.Ytjlbifpbdocahaa
