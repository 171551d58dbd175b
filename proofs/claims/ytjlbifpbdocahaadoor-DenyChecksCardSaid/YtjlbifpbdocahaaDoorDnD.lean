/- Layer 24: the law DenyChecks. -/
import Derived.Test.YtjlbifpbdocahaaDoorDnF
import Derived.Test.YtjlbifpbdocahaaDoorDnR
import Derived.Test.YtjlbifpbdocahaaDoorNSm
import Derived.Test.YtjlbifpbdocahaaDoorWr2
import Derived.Deep.RegionHeld3
namespace Go.Proofs.YtjlbifpbdocahaaDoor
open Go.RowKit

set_option maxRecDepth 100000 in
theorem dAlgs_any {w : World} {g : Nat} {l : List GrantR} {al : List (List UInt8)} {lim n : Int} (h : GateAt w g l al lim n) (hl : al.length ≤ 1000) : Calls Tryd.prog 16 #[.pointer (some ⟨g, 0, none⟩)] w fun e w' => ∃ v, e = .returned v ∧ TextsAt w' v (al.map bs) ∧ Below w.heap.size w w' := by
  obtain ⟨ag, cg, aa, ca, c0, c1, c2, c3, c4, _, h5⟩ := h.open_
  have HC := Lib.hid (cloneS_any h5 (by rw [List.length_map]; omega))
  clear h h5
  go_enter Tryd.func16, Tryd.ntmps16
  go_wp2_with (go_at_call 33; (with_reducible refine HC.out.mono ?_); rintro e w1 ⟨v, rfl, hv, _, b1⟩)
  go_ret
  exact ⟨v, rfl, hv, b1⟩
def atDeny (S : ByteArray) : ByteArray := ⟨#[100, 101, 110, 121, 32]⟩ ++ S ++ ⟨#[32]⟩
theorem atDeny_is (S : ByteArray) : atP [denyS, S] = atDeny S := by
  unfold atP atDeny
  simp only [List.foldl_cons, List.foldl_nil]
  rw [show (⟨#[]⟩ : ByteArray) ++ denyS ++ ⟨#[32]⟩ = ⟨#[100, 101, 110, 121, 32]⟩ from by decide +kernel]
theorem gateS_small (i : Nat) : (gateS i).size ≤ 10 := by
  unfold gateS
  split
  · decide
  · split
    · decide
    · split <;> decide

set_option maxHeartbeats 4000000 in
set_option maxRecDepth 100000 in
theorem DenyChecks_any {w : World} (hty : TypeOfError w) {vg va : Value} {l : List GrantR} {al : List (List UInt8)} (hg : GrantsAt w vg l) (hlg : l.length ≤ maxLen) (hsg : ∀ x ∈ l, x.user.length ≤ maxLen) (ha : TextsAt w va (al.map bs)) (hr : Room24 va) (hla : al.length ≤ maxLen) (hsa : ∀ x ∈ al, x.length ≤ maxLen) (lim : Int) (U : ByteArray) (hU : U.size ≤ maxLen) :
    Calls Tryd.prog 3 #[.agg #[vg, va, .int .i64 lim], .string U] w fun e w' => e = .returned (.bool true) ∧ Below w.heap.size w w' := by
  obtain ⟨W0, hW0⟩ : ∃ W0, W0 = w.alloc (.cells #[vg, va, .int .i64 lim] 25) := ⟨_, rfl⟩
  have b0 : Below w.heap.size w W0 := by rw [hW0]; exact (Below.refl _ _).alloc (Nat.le_refl _) _
  have hX : Holds W0 w.heap.size 25 #[vg, va, .int .i64 lim] := by rw [hW0]; exact Holds.new w 25 _
  have HF := Lib.hid (few24_any (hg.below b0) hlg hsg (ha.below b0) hla hsa lim)
  have HAw := Lib.hid (fun W => awake24_any W)
  have HB0 := Lib.hid b0
  have HBx := Lib.hid (fun (W : World) (hb : Below W0.heap.size W0 W) => (⟨((hb.cell (p := ⟨w.heap.size, 0, none⟩) hX.lt).trans (hX.cell 0)), ((hb.cell (p := ⟨w.heap.size, 1, none⟩) hX.lt).trans (hX.cell 1)), ((hb.cell (p := ⟨w.heap.size, 2, none⟩) hX.lt).trans (hX.cell 2))⟩ : W.cell? ⟨w.heap.size, 0, none⟩ = some vg ∧ W.cell? ⟨w.heap.size, 1, none⟩ = some va ∧ W.cell? ⟨w.heap.size, 2, none⟩ = some (.int .i64 lim)))
  have HNewB := Lib.hid (fun (hf : FewB l al) (W : World) (hb : Below W0.heap.size W0 W) => dNew_any ((hg.below b0).below hb) (by have := hf.nl; unfold maxLen; omega) (fun x hx => by have := hf.sl x hx; omega) ((ha.below b0).below hb) (by have := hf.na; unfold maxLen; omega) (fun x hx => by have := hf.sa x hx; omega) lim)
  have HChB := Lib.hid (fun (hf : FewB l al) (W : World) (hb : Below W0.heap.size W0 W) => dCheck_any ((hg.below b0).below hb) (by have := hf.nl; unfold maxLen; omega) (fun x hx => by have := hf.sl x hx; omega) ((ha.below b0).below hb) (by have := hf.na; unfold maxLen; omega) (fun x hx => by have := hf.sa x hx; omega) lim)
  have HRc := fun (hf : FewB l al) (W : World) (hb : Below W0.heap.size W0 W) => r24Check_any ((hg.below b0).below hb) (by have := hf.nl; unfold maxLen; omega) (fun x hx => by have := hf.sl x hx; omega) ((ha.below b0).below hb) hr (by have := hf.na; unfold maxLen; omega) (fun x hx => by have := hf.sa x hx; omega) lim
  have HTx := Lib.hid (fun (W : World) (hb : Below W0.heap.size W0 W) => (ha.below b0).below hb)
  have HTy := Lib.hid (fun (W : World) (hb : Below W0.heap.size W0 W) => (hty.later b0).later hb)
  obtain ⟨ag, cg, rfl, _⟩ := hg
  obtain ⟨aa, ca, rfl, _⟩ := ha
  rw [List.length_map] at *
  have hFo : fewB l al = true → FewB l al := fewB_of
  obtain ⟨c0, c1, c2⟩ := HBx.out W0 (Below.refl _ _)
  unfold maxLen at hU
  subst hW0
  cases hf : fewB l al with
  | false =>
    rw [hf] at HF
    clear HNewB HChB HRc HTx HTy hFo hf hsg hsa hlg hla hr hX b0 hty
    go_enter Tryd.func3, Tryd.ntmps3
    go_wp2_with (first
      | (go_at_call 6; (with_reducible refine HF.out.mono ?_); rintro e w1 ⟨rfl, b1⟩; have B1 := Lib.hid (HB0.out.trans (b1.mono HB0.out.size)))
      | (go_at_call 7; (with_reducible refine (HAw.out _).mono ?_); rintro e w2 ⟨rfl, b2⟩))
    go_ret
    exact ⟨rfl, B1.out.trans (b2.mono B1.out.size)⟩
  | true =>
    rw [hf] at HF
    have hfw := hFo hf
    have HRc := Lib.hid (HRc hfw)
    by_cases u1 : 100 < U.size
    · have q1 : decide ((U.size : Int) > 100) = true := decide_eq_true (by omega)
      clear HNewB HChB HRc HTx HTy hFo hf hsg hsa hlg hla hr hX b0 hty
      go_enter Tryd.func3, Tryd.ntmps3
      go_wp2_with (first
        | (go_at_call 6; (with_reducible refine HF.out.mono ?_); rintro e w1 ⟨rfl, b1⟩; have B1 := Lib.hid (HB0.out.trans (b1.mono HB0.out.size)))
        | (go_at_call 7; (with_reducible refine (HAw.out _).mono ?_); rintro e w2 ⟨rfl, b2⟩))
      go_ret
      exact ⟨rfl, B1.out.trans (b2.mono B1.out.size)⟩
    have q1 : decide ((U.size : Int) > 100) = false := decide_eq_false (by omega)
    have hul : U.data.toList.length ≤ 1000000 := by rw [Array.length_toList]; exact Nat.le_trans (Nat.not_lt.1 u1) (by omega)
    have HU1 := Lib.hid (fun W => dUser_any U.data.toList hul W)
    have HU2 := Lib.hid (fun W => r24User_any U.data.toList hul W)
    rw [bs_list] at HU1 HU2
    obtain ⟨q, hq⟩ : ∃ q, q = userP U.data.toList := ⟨_, rfl⟩
    rw [← hq] at HU1 HU2
    have qq : (q != q) = false := by simp
    have HNew2 := Lib.hid (HNewB.out hfw)
    have HCh2 := Lib.hid (HChB.out hfw)
    have hna := hfw.na
    clear HNewB HChB hFo hf hsg hsa hlg hla hr hX b0 hty hfw u1 hq hul
    by_cases hz : gateZ l al lim = 0
    · have HN : Hid (∀ W, Below (w.alloc (.cells #[.slice ag l.length cg, .slice aa al.length ca, .int .i64 lim] 25)).heap.size (w.alloc (.cells #[.slice ag l.length cg, .slice aa al.length ca, .int .i64 lim] 25)) W → Calls Tryd.prog 11 #[.slice ag l.length cg, .slice aa al.length ca, .int .i64 lim] W fun e w' => ∃ g, e = .returned (.tuple #[.pointer (some ⟨g, 0, none⟩), .nilIface]) ∧ GateAt w' g l al lim 0 ∧ Below W.heap.size W w') := fun W hb => (HNew2.out W hb).mono (by
        rintro e w' ⟨hbw, ⟨h, _⟩ | ⟨_, g, _, h1, h2⟩⟩
        · exact absurd hz h
        · exact ⟨g, h1, h2, hbw⟩)
      have HC : Hid (∀ W, Below (w.alloc (.cells #[.slice ag l.length cg, .slice aa al.length ca, .int .i64 lim] 25)).heap.size (w.alloc (.cells #[.slice ag l.length cg, .slice aa al.length ca, .int .i64 lim] 25)) W → Calls Tryd.prog 10 #[.slice ag l.length cg, .slice aa al.length ca, .int .i64 lim] W fun e w' => e = .returned .nilIface ∧ Below W.heap.size W w') := fun W hb => (HCh2.out W hb).mono (by
        rintro e w' ⟨v, rfl, hs, hbw⟩
        rcases hs with ⟨_, rfl⟩ | ⟨h, _⟩
        · exact ⟨rfl, hbw⟩
        · exact absurd hz h)
      obtain ⟨k1, k2, k3, k4, k5⟩ := gate_ok hz
      rw [hz, gate_zero.1 hz] at HRc
      have hgs : gateS 3 = ⟨#[]⟩ := rfl
      rw [hgs] at HRc
      have HFn := Lib.hid (fun (W : World) (g : Nat) (h : GateAt W g l al lim 0) => dFailures_any h)
      have HFl : Hid (∀ (W : World) (g : Nat), GateAt W g l al lim 0 → Calls Tryd.prog 14 #[.pointer (some ⟨g, 0, none⟩)] W fun e w' => e = .returned (.bool false) ∧ GateAt w' g l al lim 0 ∧ Below W.heap.size W w') := fun W g h => (dFull_any h).mono fun e w' ⟨h1, h2⟩ => ⟨by rw [h1, decide_eq_false (by omega)], h.below h2, h2⟩
      have HAl := Lib.hid (fun (W : World) (g : Nat) (h : GateAt W g l al lim 0) => dAlgs_any h (by omega))
      have HSm := Lib.hid (fun (W : World) (v v' : Value) (h : TextsAt W v (al.map bs)) (h' : TextsAt W v' (al.map bs)) => (same_any h h' (by rw [List.length_map]; unfold maxLen; omega)).mono fun e w' ⟨h1, h2⟩ => (⟨by rw [h1, decide_eq_true rfl], h2⟩ : e = Ending.returned (.bool true) ∧ Below W.heap.size W w'))
      clear HNew2 HCh2 HTy hz k1 k2 k3 k4 k5 hna
      go_enter Tryd.func3, Tryd.ntmps3
      go_wp2_with (first
        | (go_at_call 6; (with_reducible refine HF.out.mono ?_); rintro e w1 ⟨rfl, b1⟩; have H1 := Lib.hid b1; obtain ⟨d0, d1, d2⟩ := HBx.out _ b1; clear b1)
        | (go_at_call 8; (with_reducible refine (HU1.out _).mono ?_); rintro e w2 ⟨rfl, hw⟩; have hw := hw.symm; subst hw)
        | (go_at_call 9; (with_reducible refine (HU2.out _).mono ?_); rintro e w2 ⟨rfl, hw⟩; have hw := hw.symm; subst hw)
        | (go_at_call 10; (with_reducible refine (HC.out _ H1.out).mono ?_); rintro e w3 ⟨rfl, b3⟩; have H3 := Lib.hid (H1.out.trans (b3.mono H1.out.size)); obtain ⟨e0, e1, e2⟩ := HBx.out _ H3.out; clear b3)
        | (go_at_call 11; (with_reducible refine (HN.out _ H3.out).mono ?_); rintro e w4 ⟨g, rfl, gt4, b4⟩; have H4 := Lib.hid (H3.out.trans (b4.mono H3.out.size)); obtain ⟨f0, f1, f2⟩ := HBx.out _ H4.out; clear b4)
        | (go_at_call 12; (with_reducible refine (HRc.out _ H4.out).mono ?_); rintro e w5 ⟨rfl, b5⟩; have H5 := Lib.hid (H4.out.trans (b5.mono H4.out.size)); have gt5 := gt4.below b5; obtain ⟨g0, g1, g2⟩ := HBx.out _ H5.out; clear b5)
        | fail)
      have H30 := Lib.hid (H5.out.trans (Below.refl _ _).drew)
      have t30 := gt5.below (Below.refl _ _).drew
      obtain ⟨a30, b30, c30⟩ := HBx.out _ H30.out
      go_region_held3 (fun W => W.cell? ⟨w.heap.size, 1, none⟩ = some (.slice aa al.length ca))
        (first | with_reducible exact b30 | with_reducible exact b31 | with_reducible exact b32 | with_reducible exact b33 | with_reducible exact b34 | with_reducible exact b35 | go_keep)
        (first
          | (go_at_call 7; (with_reducible refine (HAw.out _).mono ?_); rintro e W31 ⟨rfl, y31⟩; have H31 := Lib.hid (H30.out.trans (y31.mono H30.out.size)); have t31 := t30.below y31; obtain ⟨a31, b31, c31⟩ := HBx.out _ H31.out; clear y31)
          | (go_at_call 13; (with_reducible refine (HFn.out _ _ t31).mono ?_); rintro e W32 ⟨rfl, hw⟩; have hw := hw.symm; subst hw)
          | (go_at_call 14; (with_reducible refine (HFl.out _ _ t31).mono ?_); rintro e W33 ⟨rfl, t33, y33⟩; have H33 := Lib.hid (H31.out.trans (y33.mono H31.out.size)); obtain ⟨a33, b33, c33⟩ := HBx.out _ H33.out; clear y33)
          | (go_at_call 16; (with_reducible refine (HAl.out _ _ t33).mono ?_); rintro e W34 ⟨v34, rfl, x34, y34⟩; have H34 := Lib.hid (H33.out.trans (y34.mono H33.out.size)); obtain ⟨a34, b34, c34⟩ := HBx.out _ H34.out; clear y34; obtain ⟨a34', n34, c34', rfl⟩ : ∃ a n c, v34 = .slice a n c := (by obtain ⟨a, c, e, _⟩ := x34; exact ⟨a, _, c, e⟩))
          | (go_at_call 15; (with_reducible refine (HSm.out _ _ _ x34 (HTx.out _ H34.out)).mono ?_); rintro e W35 ⟨rfl, y35⟩; have H35 := Lib.hid (H34.out.trans (y35.mono H34.out.size)); obtain ⟨a35, b35, c35⟩ := HBx.out _ H35.out; clear y35)
          | fail)
      go_wp2_with fail
      go_ret
      exact ⟨rfl, HB0.out.trans (H35.out.mono HB0.out.size)⟩
    · have HN : Hid (∀ W, Below (w.alloc (.cells #[.slice ag l.length cg, .slice aa al.length ca, .int .i64 lim] 25)).heap.size (w.alloc (.cells #[.slice ag l.length cg, .slice aa al.length ca, .int .i64 lim] 25)) W → Calls Tryd.prog 11 #[.slice ag l.length cg, .slice aa al.length ca, .int .i64 lim] W fun e w' => ∃ t u, e = .returned (.tuple #[.pointer none, .iface t u]) ∧ ErrAt w' (.iface t u) [denyS, gateS (gateI l al lim)] (some (gateZ l al lim)) ∧ Below W.heap.size W w') := fun W hb => (HNew2.out W hb).mono (by
        rintro e w' ⟨hbw, ⟨_, t, u, h1, h2⟩ | ⟨h, _⟩⟩
        · exact ⟨t, u, h1, h2, hbw⟩
        · exact absurd h hz)
      have HC : Hid (∀ W, Below (w.alloc (.cells #[.slice ag l.length cg, .slice aa al.length ca, .int .i64 lim] 25)).heap.size (w.alloc (.cells #[.slice ag l.length cg, .slice aa al.length ca, .int .i64 lim] 25)) W → Calls Tryd.prog 10 #[.slice ag l.length cg, .slice aa al.length ca, .int .i64 lim] W fun e w' => ∃ t u, e = .returned (.iface t u) ∧ ErrAt w' (.iface t u) [denyS, gateS (gateI l al lim)] (some (gateZ l al lim)) ∧ Below W.heap.size W w') := fun W hb => (HCh2.out W hb).mono (by
        rintro e w' ⟨v, rfl, hs, hbw⟩
        rcases hs with ⟨h, _⟩ | ⟨_, t, u, rfl, h⟩
        · exact absurd h hz
        · exact ⟨t, u, rfl, h, hbw⟩)
      have HWr : Hid (∀ (W : World) (t : TypeId) (v : Value), Below (w.alloc (.cells #[.slice ag l.length cg, .slice aa al.length ca, .int .i64 lim] 25)).heap.size (w.alloc (.cells #[.slice ag l.length cg, .slice aa al.length ca, .int .i64 lim] 25)) W → ErrAt W (.iface t v) [denyS, gateS (gateI l al lim)] (some (gateZ l al lim)) → Calls Tryd.prog 17 #[.iface t v, .agg #[.int .i64 (gateZ l al lim), .string (atDeny (gateS (gateI l al lim)))]] W fun r w' => r = .returned (.bool true) ∧ Below W.heap.size W w') := fun W t v hb he => by
        have := wrong_any (HTy.out W hb) he (by simp) (fun x hx => by
          simp only [List.mem_cons, List.not_mem_nil, or_false] at hx
          rcases hx with rfl | rfl
          · decide
          · have := gateS_small (gateI l al lim); omega)
        rw [atDeny_is] at this
        exact this
      have hS := gateS_small (gateI l al lim)
      have qz : (gateZ l al lim == 0) = false := by simpa using hz
      clear HNew2 HCh2 HTy HTx hz hna
      generalize gateZ l al lim = z at *
      generalize gateS (gateI l al lim) = S at *
      have hS2 : ((⟨#[100, 101, 110, 121, 32]⟩ : ByteArray) ++ S).size ≤ 2000 := by
        rw [ByteArray.size_append]
        have : (⟨#[100, 101, 110, 121, 32]⟩ : ByteArray).size = 5 := rfl
        omega
      unfold atDeny at HWr
      go_enter Tryd.func3, Tryd.ntmps3
      go_wp2_with (first
        | (go_at_call 6; (with_reducible refine HF.out.mono ?_); rintro e w1 ⟨rfl, b1⟩; have H1 := Lib.hid b1; obtain ⟨d0, d1, d2⟩ := HBx.out _ b1; clear b1)
        | (go_at_call 8; (with_reducible refine (HU1.out _).mono ?_); rintro e w2 ⟨rfl, hw⟩; have hw := hw.symm; subst hw)
        | (go_at_call 9; (with_reducible refine (HU2.out _).mono ?_); rintro e w2 ⟨rfl, hw⟩; have hw := hw.symm; subst hw)
        | (go_at_call 10; (with_reducible refine (HC.out _ H1.out).mono ?_); rintro e w3 ⟨t3, u3, rfl, x3, b3⟩; have H3 := Lib.hid (H1.out.trans (b3.mono H1.out.size)); obtain ⟨e0, e1, e2⟩ := HBx.out _ H3.out; have X3 := Lib.hid x3; clear b3 x3)
        | (go_at_call 11; (with_reducible refine (HN.out _ H3.out).mono ?_); rintro e w4 ⟨t4, u4, rfl, x4, b4⟩; have H4 := Lib.hid (H3.out.trans (b4.mono H3.out.size)); obtain ⟨f0, f1, f2⟩ := HBx.out _ H4.out; have X34 := Lib.hid (X3.out.later b4); have X4 := Lib.hid x4; clear b4 x4)
        | (go_at_call 12; (with_reducible refine (HRc.out _ H4.out).mono ?_); rintro e w5 ⟨rfl, b5⟩; have H5 := Lib.hid (H4.out.trans (b5.mono H4.out.size)); have X35 := Lib.hid (X34.out.later b5); have X45 := Lib.hid (X4.out.later b5); clear b5)
        | (go_at_call 7; (with_reducible refine (HAw.out _).mono ?_); rintro e w6 ⟨rfl, b6⟩; have H6 := Lib.hid ((H5.out.alloc H5.out.size _).trans (b6.mono (H5.out.alloc H5.out.size _).size)); have y6 := ((Below.refl w5.heap.size w5).alloc (Nat.le_refl _) _).trans (b6.mono (by simp)); have X36 := Lib.hid (X35.out.later y6); have X46 := Lib.hid (X45.out.later y6); have hN := Holds.new w5 42 #[.int .i64 z, .string ((⟨#[100, 101, 110, 121, 32]⟩ : ByteArray) ++ S ++ ⟨#[32]⟩)]; have y0 := (b6.cell (p := ⟨w5.heap.size, 0, none⟩) hN.lt).trans (hN.cell 0); have y1 := (b6.cell (p := ⟨w5.heap.size, 1, none⟩) hN.lt).trans (hN.cell 1); have hlt6 := Nat.lt_of_lt_of_le hN.lt b6.size; clear hN y6)
        | (go_at_call 17; (with_reducible refine (HWr.out _ _ _ H6.out X36.out).mono ?_); rintro e w7 ⟨rfl, b7⟩; have H7 := Lib.hid (H6.out.trans (b7.mono H6.out.size)); have X47 := Lib.hid (X46.out.later b7); have z0 := (b7.cell (p := ⟨w5.heap.size, 0, none⟩) hlt6).trans y0; have z1 := (b7.cell (p := ⟨w5.heap.size, 1, none⟩) hlt6).trans y1; clear b7)
        | (go_at_call 17; (with_reducible refine (HWr.out _ _ _ H7.out X47.out).mono ?_); rintro e w8 ⟨rfl, b8⟩; have H8 := Lib.hid (H7.out.trans (b8.mono H7.out.size)); clear b8)
        | fail)
      go_ret
      exact ⟨rfl, HB0.out.trans (H8.out.mono HB0.out.size)⟩
end Go.Proofs.YtjlbifpbdocahaaDoor
