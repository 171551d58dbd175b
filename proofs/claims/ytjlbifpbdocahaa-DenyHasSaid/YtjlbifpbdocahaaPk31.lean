/- Part 31 of what the statement wants. -/
import Derived.Deep.RegionHeld3
import Derived.LoopTactic
import Derived.Test.YtjlbifpbdocahaaPk30
namespace Go.Proofs.Ytjlbifpbdocahaa
open Go.RowKit

set_option maxRecDepth 100000 in
theorem dAlgs_nil (w : World) : Calls Try.prog 30 #[.pointer none] w fun e w' => e = .returned (.slice none 0 0) ∧ w' = w := by
  go_enter Try.func30, Try.ntmps30
  go_wp2_with fail
  go_ret
  exact ⟨rfl, rfl⟩

/-- The terms of the law: the key, and none. -/
def base24 (k : Int) (who : Int) : List (Int × List UInt8) := [(k, refKeyL who), (-1, [])]
section
variable {A n g : Nat} {W1 W : World} {k who : Int} {l : List GrantR} {al : List (List UInt8)} {lim : Int}
theorem h24_key (h : Ta W1.heap.size W1 A [] 0 W) : Calls Try.prog 21 #[.pointer (some ⟨A, 0, none⟩), .int .i64 who] W fun e w' => ∃ k, e = .returned (.int .i64 k) ∧ Ta W1.heap.size W1 A (base24 k who) 1 w' :=
  (taKey h (by omega) who).mono fun e w' ⟨k, h1, h2, _⟩ => ⟨k, h1, (h2.cons (p := (-1, [])) (.inr rfl)).mono (Nat.le_refl _) fun p hp => by
    unfold base24 at hp
    simp only [List.mem_cons, List.not_mem_nil, or_false] at hp
    rcases hp with rfl | rfl
    · exact .tail _ (.head _)
    · exact .head _⟩
theorem h24_pub (h : Ta W1.heap.size W1 A (base24 k who) n W) (hn : n ≤ 50) : Calls Try.prog 24 #[.pointer (some ⟨A, 0, none⟩), .int .i64 k] W fun e w' => ∃ i, e = .returned (.int .i64 i) ∧ Ta W1.heap.size W1 A ((i, pubL who) :: base24 k who) (n + 1) w' :=
  (taPub h (by omega) (.head _)).mono fun e w' ⟨i, h1, h2, _⟩ => ⟨i, h1, h2⟩
theorem h24_hash {i : Int} (h : Ta W1.heap.size W1 A ((i, pubL who) :: base24 k who) n W) (hn : n ≤ 50) : Calls Try.prog 23 #[.pointer (some ⟨A, 0, none⟩), .int .i64 i] W fun e w' => ∃ j, e = .returned (.int .i64 j) ∧ Ta W1.heap.size W1 A ((j, refHashL (pubL who)) :: base24 k who) (n + 1) w' :=
  (taHash h (by omega) (.head _)).mono fun e w' ⟨j, h1, h2, _⟩ => ⟨j, h1, h2.mono (Nat.le_refl _) fun p hp => by
    rcases List.mem_cons.1 hp with rfl | hp
    · exact .head _
    · exact .tail _ (.tail _ hp)⟩
theorem h24_has {Q : List (Int × List UInt8)} (h : Ta W1.heap.size W1 A Q n W) (hQ : ∀ p ∈ base24 k who, p ∈ Q) (hg : GateAt W1 g l al lim 0) (hl : l.length ≤ 20) (hla : al.length ≤ 20) (u q : List UInt8) {i : Int} {t : List UInt8} (hi : (i, t) ∈ Q) :
    Calls Try.prog 22 #[.pointer (some ⟨g, 0, none⟩), .pointer (some ⟨A, 0, none⟩), .string (bs u), .string (bs q), .int .i64 i] W fun e w' => e = .returned (.bool (hasP l al u q t)) ∧ Ta W1.heap.size W1 A (base24 k who) n w' :=
  (dHas_any h (hg.below h.bel) (by omega) (by omega) u q hi).mono fun e w' ⟨h1, h2⟩ => ⟨h1, (h.mono (Nat.le_refl _) hQ).below h2⟩
theorem h24_nil {Q : List (Int × List UInt8)} (h : Ta W1.heap.size W1 A Q n W) (hQ : ∀ p ∈ base24 k who, p ∈ Q) (hg : GateAt W1 g l al lim 0) (hl : l.length ≤ 20) (hla : al.length ≤ 20) (u q : List UInt8) (i : Int) :
    Calls Try.prog 22 #[.pointer (some ⟨g, 0, none⟩), .pointer none, .string (bs u), .string (bs q), .int .i64 i] W fun e w' => e = .returned (.bool false) ∧ Ta W1.heap.size W1 A (base24 k who) n w' :=
  (dHas_owner (hg.below h.bel) (by omega) (by omega) u q (snOwner_nil i W) ⟨_, rfl⟩).mono fun e w' ⟨h1, h2⟩ => ⟨by rw [h1]; simp, (h.mono (Nat.le_refl _) hQ).below h2⟩
end

set_option maxHeartbeats 4000000 in
set_option maxRecDepth 100000 in
theorem DenyHas_any {w : World} {vg va : Value} {l : List GrantR} {al : List (List UInt8)} (hg : GrantsAt w vg l) (hlg : l.length ≤ maxLen) (hsg : ∀ x ∈ l, x.user.length ≤ maxLen) (ha : TextsAt w va (al.map bs)) (hr : Room24 va) (hla : al.length ≤ maxLen) (hsa : ∀ x ∈ al, x.length ≤ maxLen) (lim : Int) (U Q : ByteArray) (hU : U.size ≤ maxLen) (hQ : Q.size ≤ maxLen) (who : Int) :
    Calls Try.prog 4 #[.agg #[vg, va, .int .i64 lim], .agg #[.string U, .string Q], .int .i64 who] w fun e w' => e = .returned (.bool true) ∧ Below w.heap.size w w' := by
  obtain ⟨W0, hW0⟩ : ∃ W0, W0 = (w.alloc (.cells #[vg, va, .int .i64 lim] 47)).alloc (.cells #[.string U, .string Q] 48) := ⟨_, rfl⟩
  have b0 : Below w.heap.size w W0 := by rw [hW0]; exact ((Below.refl _ _).alloc (Nat.le_refl _) _).alloc (by simp) _
  have hX : Holds W0 w.heap.size 47 #[vg, va, .int .i64 lim] := by rw [hW0]; exact (Holds.new w 47 _).moves ((Moves.refl nobody _).alloc _) (fun h => h)
  have hY : Holds W0 (w.heap.size + 1) 48 #[.string U, .string Q] := by
    rw [hW0]
    have := Holds.new (w.alloc (.cells #[vg, va, .int .i64 lim] 47)) 48 #[.string U, .string Q]
    rwa [World.size_alloc] at this
  have HF := Lib.hid (few24_any (hg.below b0) hlg hsg (ha.below b0) hla hsa lim)
  have HAw := Lib.hid (fun W => awake24_any W)
  have HB0 := Lib.hid b0
  have HBx := Lib.hid (fun (W : World) (hb : Below W0.heap.size W0 W) => (⟨((hb.cell (p := ⟨w.heap.size, 0, none⟩) hX.lt).trans (hX.cell 0)), ((hb.cell (p := ⟨w.heap.size, 1, none⟩) hX.lt).trans (hX.cell 1)), ((hb.cell (p := ⟨w.heap.size, 2, none⟩) hX.lt).trans (hX.cell 2)), ((hb.cell (p := ⟨w.heap.size + 1, 0, none⟩) hY.lt).trans (hY.cell 0)), ((hb.cell (p := ⟨w.heap.size + 1, 1, none⟩) hY.lt).trans (hY.cell 1))⟩ : W.cell? ⟨w.heap.size, 0, none⟩ = some vg ∧ W.cell? ⟨w.heap.size, 1, none⟩ = some va ∧ W.cell? ⟨w.heap.size, 2, none⟩ = some (.int .i64 lim) ∧ W.cell? ⟨w.heap.size + 1, 0, none⟩ = some (.string U) ∧ W.cell? ⟨w.heap.size + 1, 1, none⟩ = some (.string Q)))
  have HNewB := Lib.hid (fun (hf : FewB l al) (W : World) (hb : Below W0.heap.size W0 W) => dNew_any ((hg.below b0).below hb) (by have := hf.nl; unfold maxLen; omega) (fun x hx => by have := hf.sl x hx; omega) ((ha.below b0).below hb) (by have := hf.na; unfold maxLen; omega) (fun x hx => by have := hf.sa x hx; omega) lim)
  have HRc := fun (hf : FewB l al) (W : World) (hb : Below W0.heap.size W0 W) => r24Check_any ((hg.below b0).below hb) (by have := hf.nl; unfold maxLen; omega) (fun x hx => by have := hf.sl x hx; omega) ((ha.below b0).below hb) hr (by have := hf.na; unfold maxLen; omega) (fun x hx => by have := hf.sa x hx; omega) lim
  have HRh := fun (hf : FewB l al) (W : World) (hb : Below W0.heap.size W0 W) => r24Has_any ((hg.below b0).below hb) (by have := hf.nl; omega) ((ha.below b0).below hb) (by have := hf.na; omega) U.data.toList Q.data.toList (pubL who) (pubOk_pub24 who)
  obtain ⟨ag, cg, rfl, _⟩ := hg
  obtain ⟨aa, ca, rfl, _⟩ := ha
  rw [List.length_map] at *
  have hFo : fewB l al = true → FewB l al := fewB_of
  have HC0 := HBx.out W0 (Below.refl _ _)
  obtain ⟨c0, c1, c2, c3, c4⟩ := HC0
  unfold maxLen at hU hQ
  subst hW0
  cases hf : fewB l al with
  | false =>
    rw [hf] at HF
    clear HNewB HRc HRh hFo hf hsg hsa hlg hla hr hX hY b0
    go_enter Try.func4, Try.ntmps4
    go_wp2_with (first
      | (go_at_call 17; (with_reducible refine HF.out.mono ?_); rintro e w1 ⟨rfl, b1⟩; have B1 := Lib.hid (HB0.out.trans (b1.mono HB0.out.size)))
      | (go_at_call 18; (with_reducible refine (HAw.out _).mono ?_); rintro e w2 ⟨rfl, b2⟩))
    go_ret
    exact ⟨rfl, B1.out.trans (b2.mono B1.out.size)⟩
  | true =>
    rw [hf] at HF
    have hfw := hFo hf
    have HRc := Lib.hid (HRc hfw)
    have HRh := Lib.hid (HRh hfw)
    clear hFo hf hsg hsa hlg hla hr hX hY b0
    by_cases u1 : 100 < U.size
    · have q1 : decide ((U.size : Int) > 100) = true := decide_eq_true (by omega)
      clear HNewB HRc HRh
      go_enter Try.func4, Try.ntmps4
      go_wp2_with (first
        | (go_at_call 17; (with_reducible refine HF.out.mono ?_); rintro e w1 ⟨rfl, b1⟩; have B1 := Lib.hid (HB0.out.trans (b1.mono HB0.out.size)); obtain ⟨d0, d1, d2, d3, d4⟩ := HBx.out _ b1)
        | (go_at_call 18; (with_reducible refine (HAw.out _).mono ?_); rintro e w2 ⟨rfl, b2⟩))
      go_ret
      exact ⟨rfl, B1.out.trans (b2.mono B1.out.size)⟩
    have q1 : decide ((U.size : Int) > 100) = false := decide_eq_false (by omega)
    by_cases u2 : 100 < Q.size
    · have q2 : decide ((Q.size : Int) > 100) = true := decide_eq_true (by omega)
      clear HNewB HRc HRh
      go_enter Try.func4, Try.ntmps4
      go_wp2_with (first
        | (go_at_call 17; (with_reducible refine HF.out.mono ?_); rintro e w1 ⟨rfl, b1⟩; have B1 := Lib.hid (HB0.out.trans (b1.mono HB0.out.size)); obtain ⟨d0, d1, d2, d3, d4⟩ := HBx.out _ b1)
        | (go_at_call 18; (with_reducible refine (HAw.out _).mono ?_); rintro e w2 ⟨rfl, b2⟩))
      go_ret
      exact ⟨rfl, B1.out.trans (b2.mono B1.out.size)⟩
    have q2 : decide ((Q.size : Int) > 100) = false := decide_eq_false (by omega)
    generalize hW0 : (w.alloc (.cells #[.slice ag l.length cg, .slice aa al.length ca, .int .i64 lim] 47)).alloc (.cells #[.string U, .string Q] 48) = W0 at *
    have HNew2 := Lib.hid (fun (W : World) (hb : Below W0.heap.size W0 W) => HNewB.out hfw W hb)
    by_cases hz : gateZ l al lim = 0
    · have HN : Hid (∀ W, Below W0.heap.size W0 W → Calls Try.prog 19 #[.slice ag l.length cg, .slice aa al.length ca, .int .i64 lim] W fun e w' => ∃ g, e = .returned (.tuple #[.pointer (some ⟨g, 0, none⟩), .nilIface]) ∧ GateAt w' g l al lim 0 ∧ Below W.heap.size W w') := fun W hb => (HNew2.out W hb).mono (by
        rintro e w' ⟨hbw, ⟨h, _⟩ | ⟨_, g, _, h1, h2⟩⟩
        · exact absurd hz h
        · exact ⟨g, h1, h2, hbw⟩)
      have HA0 := Lib.hid (fun (W : World) => taNew W)
      have HK := Lib.hid (fun (A : Nat) (W1 W : World) (h : Ta W1.heap.size W1 A [] 0 W) => h24_key (who := who) h)
      have HP := Lib.hid (fun (A n : Nat) (k : Int) (W1 W : World) (h : Ta W1.heap.size W1 A (base24 k who) n W) (hn : n ≤ 50) => h24_pub h hn)
      have HHs := Lib.hid (fun (A n : Nat) (k i : Int) (W1 W : World) (h : Ta W1.heap.size W1 A ((i, pubL who) :: base24 k who) n W) (hn : n ≤ 50) => h24_hash h hn)
      have eU : bs U.data.toList = U := bs_list U
      have eQ : bs Q.data.toList = Q := bs_list Q
      have hl20 := hfw.nl
      have ha20 := hfw.na
      have HH1 : Hid (∀ (A n g : Nat) (k : Int) (W1 W : World), GateAt W1 g l al lim 0 → Ta W1.heap.size W1 A (base24 k who) n W → Calls Try.prog 22 #[.pointer (some ⟨g, 0, none⟩), .pointer (some ⟨A, 0, none⟩), .string U, .string Q, .int .i64 k] W fun e w' => e = .returned (.bool false) ∧ Ta W1.heap.size W1 A (base24 k who) n w') := fun A n g k W1 W hg h => by
        have := h24_has (who := who) (k := k) h (fun p hp => hp) hg hl20 ha20 U.data.toList Q.data.toList (.head _)
        rw [has_not (kind_key who), eU, eQ] at this
        exact this
      have HH2 : Hid (∀ (A n g : Nat) (k : Int) (W1 W : World), GateAt W1 g l al lim 0 → Ta W1.heap.size W1 A (base24 k who) n W → Calls Try.prog 22 #[.pointer (some ⟨g, 0, none⟩), .pointer (some ⟨A, 0, none⟩), .string U, .string Q, .int .i64 (-1)] W fun e w' => e = .returned (.bool false) ∧ Ta W1.heap.size W1 A (base24 k who) n w') := fun A n g k W1 W hg h => by
        have := h24_has (who := who) (k := k) h (fun p hp => hp) hg hl20 ha20 U.data.toList Q.data.toList (i := -1) (t := []) (.tail _ (.head _))
        rw [has_not (by decide), eU, eQ] at this
        exact this
      have HH3 : Hid (∀ (A n g : Nat) (k j : Int) (W1 W : World), GateAt W1 g l al lim 0 → Ta W1.heap.size W1 A ((j, refHashL (pubL who)) :: base24 k who) n W → Calls Try.prog 22 #[.pointer (some ⟨g, 0, none⟩), .pointer (some ⟨A, 0, none⟩), .string U, .string Q, .int .i64 j] W fun e w' => e = .returned (.bool false) ∧ Ta W1.heap.size W1 A (base24 k who) n w') := fun A n g k j W1 W hg h => by
        have := h24_has (who := who) (k := k) h (fun p hp => .tail _ hp) hg hl20 ha20 U.data.toList Q.data.toList (.head _)
        rw [has_not (kind_hash _), eU, eQ] at this
        exact this
      have HH4 : Hid (∀ (A n g : Nat) (k i : Int) (W1 W : World), GateAt W1 g l al lim 0 → Ta W1.heap.size W1 A ((i, pubL who) :: base24 k who) n W → Calls Try.prog 22 #[.pointer (some ⟨g, 0, none⟩), .pointer none, .string U, .string Q, .int .i64 i] W fun e w' => e = .returned (.bool false) ∧ Ta W1.heap.size W1 A (base24 k who) n w') := fun A n g k i W1 W hg h => by
        have := h24_nil (who := who) (k := k) h (fun p hp => .tail _ hp) hg hl20 ha20 U.data.toList Q.data.toList i
        rw [eU, eQ] at this
        exact this
      obtain ⟨res, hres⟩ : ∃ res, res = hasP l al U.data.toList Q.data.toList (pubL who) := ⟨_, rfl⟩
      have HH5 : Hid (∀ (A n g : Nat) (k i : Int) (W1 W : World), GateAt W1 g l al lim 0 → Ta W1.heap.size W1 A ((i, pubL who) :: base24 k who) n W → Calls Try.prog 22 #[.pointer (some ⟨g, 0, none⟩), .pointer (some ⟨A, 0, none⟩), .string U, .string Q, .int .i64 i] W fun e w' => e = .returned (.bool res) ∧ Ta W1.heap.size W1 A (base24 k who) n w') := fun A n g k i W1 W hg h => by
        have := h24_has (who := who) (k := k) h (fun p hp => .tail _ hp) hg hl20 ha20 U.data.toList Q.data.toList (.head _)
        rw [← hres, eU, eQ] at this
        exact this
      rw [eU, eQ, ← hres] at HRh
      have HNi := Lib.hid (fun (pa : Option Addr) (i : Int) (W : World) => dHas_nil pa U Q i W)
      have HFl := Lib.hid (fun W => dFull_nil W)
      have HFa := Lib.hid (fun W => dFail_nil W)
      have HFn := Lib.hid (fun W => dFailures_nil W)
      have HAl := Lib.hid (fun W => dAlgs_nil W)
      have HRp := Lib.hid (fun W => r22Pub_any who W)
      have HTb := Lib.hid (fun (A n : Nat) (P : List (Int × List UInt8)) (W1 W W' : World) (h : Ta W1.heap.size W1 A P n W) (hb : Below W.heap.size W W') => h.below hb)
      have HBe := Lib.hid (fun (A n : Nat) (P : List (Int × List UInt8)) (W1 W : World) (h : Ta W1.heap.size W1 A P n W) => h.bel)
      have qr : (res == res) = true := by simp
      clear HNewB HNew2 HRc hz hres eU eQ hl20 ha20
      generalize pubL who = T1 at *
      generalize base24 = BS at *
      subst hW0
      go_enter Try.func4, Try.ntmps4
      go_wp2_with (first
        | (go_at_call 17; (with_reducible refine HF.out.mono ?_); rintro e w1 ⟨rfl, b1⟩; have H1 := Lib.hid b1; obtain ⟨d0, d1, d2, d3, d4⟩ := HBx.out _ b1; clear b1)
        | (go_at_call 19; (with_reducible refine (HN.out _ H1.out).mono ?_); rintro e W1 ⟨g, rfl, gt, b2⟩; have H2 := Lib.hid (H1.out.trans (b2.mono H1.out.size)); have HG := Lib.hid gt; clear b2 gt)
        | (go_at_call 8; (with_reducible refine (HA0.out _).mono ?_); rintro e W2 ⟨A, rfl, t2⟩)
        | (go_at_call 21; (with_reducible refine (HK.out _ _ _ t2).mono ?_); rintro e W3 ⟨k, rfl, t3⟩; have HX := Lib.hid (fun W (hb : Below W1.heap.size W1 W) => HBx.out W (H2.out.trans (hb.mono H2.out.size))); obtain ⟨e0, e1, e2, e3, e4⟩ := HX.out _ (HBe.out _ _ _ _ _ t3))
        | fail)
      have t3d := HTb.out _ _ _ _ _ _ t3 (Below.refl _ _).drew
      obtain ⟨_, _, _, z3, z4⟩ := HX.out _ (HBe.out _ _ _ _ _ t3d)
      go_region_held3 (fun W => W.cell? ⟨w.heap.size + 1, 0, none⟩ = some (.string U) ∧ W.cell? ⟨w.heap.size + 1, 1, none⟩ = some (.string Q))
        (first | with_reducible exact ⟨e3, e4⟩ | with_reducible exact ⟨z3, z4⟩ | with_reducible exact ⟨f3, f4⟩ | with_reducible exact ⟨g3, g4⟩ | with_reducible exact ⟨h3, h4⟩ | with_reducible exact ⟨i3, i4⟩ | with_reducible exact ⟨j3, j4⟩ | with_reducible exact ⟨k3, k4⟩ | with_reducible exact ⟨l3, l4⟩ | with_reducible exact ⟨m3, m4⟩ | go_keep)
        (first
          | (go_at_call 22; (with_reducible refine (HH1.out _ _ _ _ _ _ HG.out t3d).mono ?_); rintro e W4 ⟨rfl, t4⟩; obtain ⟨_, _, _, f3, f4⟩ := HX.out _ (HBe.out _ _ _ _ _ t4))
          | (go_at_call 22; (with_reducible refine (HH2.out _ _ _ _ _ _ HG.out t4).mono ?_); rintro e W5 ⟨rfl, t5⟩; obtain ⟨_, _, _, g3, g4⟩ := HX.out _ (HBe.out _ _ _ _ _ t5))
          | (go_at_call 24; (with_reducible refine (HP.out _ _ _ _ _ t5 (by decide)).mono ?_); rintro e W6 ⟨p6, rfl, t6⟩; obtain ⟨_, _, _, h3, h4⟩ := HX.out _ (HBe.out _ _ _ _ _ t6))
          | (go_at_call 23; (with_reducible refine (HHs.out _ _ _ _ _ _ t6 (by decide)).mono ?_); rintro e W7 ⟨p7, rfl, t7⟩; obtain ⟨_, _, _, i3, i4⟩ := HX.out _ (HBe.out _ _ _ _ _ t7))
          | (go_at_call 22; (with_reducible refine (HH3.out _ _ _ _ _ _ _ HG.out t7).mono ?_); rintro e W8 ⟨rfl, t8⟩; obtain ⟨_, _, _, j3, j4⟩ := HX.out _ (HBe.out _ _ _ _ _ t8))
          | (go_at_call 24; (with_reducible refine (HP.out _ _ _ _ _ t8 (by decide)).mono ?_); rintro e W9 ⟨p9, rfl, t9⟩; obtain ⟨_, _, _, k3, k4⟩ := HX.out _ (HBe.out _ _ _ _ _ t9))
          | (go_at_call 22; (with_reducible refine (HH4.out _ _ _ _ _ _ _ HG.out t9).mono ?_); rintro e W10 ⟨rfl, t10⟩; obtain ⟨_, _, _, l3, l4⟩ := HX.out _ (HBe.out _ _ _ _ _ t10))
          | fail)
      go_wp2_with fail
      have t30 := HTb.out _ _ _ _ _ _ t10 (Below.refl _ _).drew
      obtain ⟨a30, b30, _, c30, d30⟩ := HX.out _ (HBe.out _ _ _ _ _ t30)
      clear HH1 HH2 HH3 HH4 HHs HK HA0 HF HN t2 t3 t3d t4 t5 t6 t7 t8 t9 d0 d1 d2 d3 d4 e0 e1 e2 e3 e4 z3 z4 f3 f4 g3 g4 h3 h4 i3 i4 j3 j4 k3 k4 l3 l4 c0 c1 c2 c3 c4
      go_region_held3 (fun W => W.cell? ⟨w.heap.size, 0, none⟩ = some (.slice ag l.length cg) ∧ W.cell? ⟨w.heap.size, 1, none⟩ = some (.slice aa al.length ca) ∧ W.cell? ⟨w.heap.size + 1, 0, none⟩ = some (.string U) ∧ W.cell? ⟨w.heap.size + 1, 1, none⟩ = some (.string Q))
        (first | with_reducible exact ⟨a30, b30, c30, d30⟩ | with_reducible exact ⟨a31, b31, c31, d31⟩ | with_reducible exact ⟨a32, b32, c32, d32⟩ | with_reducible exact ⟨a33, b33, c33, d33⟩ | with_reducible exact ⟨a34, b34, c34, d34⟩ | with_reducible exact ⟨a35, b35, c35, d35⟩ | with_reducible exact ⟨a36, b36, c36, d36⟩ | with_reducible exact ⟨a38, b38, c38, d38⟩ | with_reducible exact ⟨a39, b39, c39, d39⟩ | go_keep)
        (first
          | (go_at_call 18; (with_reducible refine (HAw.out _).mono ?_); rintro e W31 ⟨rfl, y31⟩; have t31 := HTb.out _ _ _ _ _ _ t30 y31; obtain ⟨a31, b31, _, c31, d31⟩ := HX.out _ (HBe.out _ _ _ _ _ t31))
          | (go_at_call 24; (with_reducible refine (HP.out _ _ _ _ _ t31 (by decide)).mono ?_); rintro e W32 ⟨p32, rfl, t32⟩; obtain ⟨a32, b32, _, c32, d32⟩ := HX.out _ (HBe.out _ _ _ _ _ t32))
          | (go_at_call 22; (with_reducible refine (HH5.out _ _ _ _ _ _ _ HG.out t32).mono ?_); rintro e W33 ⟨rfl, t33⟩; obtain ⟨a33, b33, _, c33, d33⟩ := HX.out _ (HBe.out _ _ _ _ _ t33))
          | (go_at_call 26; (with_reducible refine (HRp.out _).mono ?_); rintro e W34 ⟨rfl, y34⟩; have t34 := HTb.out _ _ _ _ _ _ t33 y34; obtain ⟨a34, b34, _, c34, d34⟩ := HX.out _ (HBe.out _ _ _ _ _ t34))
          | (go_at_call 25; (with_reducible refine (HRh.out _ (H2.out.trans ((HBe.out _ _ _ _ _ t34).mono H2.out.size))).mono ?_); rintro e W35 ⟨rfl, y35⟩; have t35 := HTb.out _ _ _ _ _ _ t34 y35; obtain ⟨a35, b35, _, c35, d35⟩ := HX.out _ (HBe.out _ _ _ _ _ t35))
          | (go_at_call 24; (with_reducible refine (HP.out _ _ _ _ _ t35 (by decide)).mono ?_); rintro e W36 ⟨p36, rfl, t36⟩; obtain ⟨a36, b36, _, c36, d36⟩ := HX.out _ (HBe.out _ _ _ _ _ t36))
          | (go_at_call 22; (with_reducible refine (HNi.out _ _ _).mono ?_); rintro e W37 ⟨rfl, hw⟩; have hw := hw.symm; subst hw)
          | (go_at_call 27; (with_reducible refine (HFl.out _).mono ?_); rintro e W38 ⟨rfl, y38⟩; have t38 := HTb.out _ _ _ _ _ _ t36 y38; obtain ⟨a38, b38, _, c38, d38⟩ := HX.out _ (HBe.out _ _ _ _ _ t38))
          | (go_at_call 28; (with_reducible refine (HFa.out _).mono ?_); rintro e W39 ⟨rfl, y39⟩; have t39 := HTb.out _ _ _ _ _ _ t38 y39; obtain ⟨a39, b39, _, c39, d39⟩ := HX.out _ (HBe.out _ _ _ _ _ t39))
          | (go_at_call 29; (with_reducible refine (HFn.out _).mono ?_); rintro e W40 ⟨rfl, hw⟩; have hw := hw.symm; subst hw)
          | (go_at_call 30; (with_reducible refine (HAl.out _).mono ?_); rintro e W41 ⟨rfl, hw⟩; have hw := hw.symm; subst hw)
          | fail)
      go_wp2_with fail
      go_ret
      exact ⟨rfl, HB0.out.trans ((H2.out.trans ((HBe.out _ _ _ _ _ t39).mono H2.out.size)).mono HB0.out.size)⟩
    · have HN : Hid (∀ W, Below W0.heap.size W0 W → Calls Try.prog 19 #[.slice ag l.length cg, .slice aa al.length ca, .int .i64 lim] W fun e w' => ∃ t u, e = .returned (.tuple #[.pointer none, .iface t u]) ∧ Below W.heap.size W w') := fun W hb => (HNew2.out W hb).mono (by
        rintro e w' ⟨hbw, ⟨_, t, u, h1, _⟩ | ⟨h, _⟩⟩
        · exact ⟨t, u, h1, hbw⟩
        · exact absurd h hz)
      have qz : (gateZ l al lim != 0) = true := by simpa using hz
      have qz' : (gateZ l al lim == 0) = false := by simpa using hz
      clear HRh HNewB HNew2 hz
      generalize gateZ l al lim = z at *
      generalize gateS (gateI l al lim) = S at *
      subst hW0
      go_enter Try.func4, Try.ntmps4
      go_wp2_with (first
        | (go_at_call 17; (with_reducible refine HF.out.mono ?_); rintro e w1 ⟨rfl, b1⟩; have H1 := Lib.hid b1; obtain ⟨d0, d1, d2, d3, d4⟩ := HBx.out _ b1; clear b1)
        | (go_at_call 19; (with_reducible refine (HN.out _ H1.out).mono ?_); rintro e w2 ⟨t, u, rfl, b2⟩; have H2 := Lib.hid (H1.out.trans (b2.mono H1.out.size)); obtain ⟨e0, e1, e2, e3, e4⟩ := HBx.out _ H2.out; clear b2)
        | (go_at_call 20; (with_reducible refine (HRc.out _ H2.out).mono ?_); rintro e w3 ⟨rfl, b3⟩; have H3 := Lib.hid (H2.out.trans (b3.mono H2.out.size)); clear b3)
        | (go_at_call 18; (with_reducible refine (HAw.out _).mono ?_); rintro e w4 ⟨rfl, b4⟩; have H4 := Lib.hid (H3.out.trans (b4.mono H3.out.size)); clear b4))
      go_ret
      exact ⟨rfl, HB0.out.trans (H4.out.mono HB0.out.size)⟩
end Go.Proofs.Ytjlbifpbdocahaa
