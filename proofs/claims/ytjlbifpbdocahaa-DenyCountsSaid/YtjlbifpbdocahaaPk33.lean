/- Part 33 of what the statement wants. -/
import Derived.Deep.RegionHeld3
import Derived.LoopTactic
import Derived.Test.YtjlbifpbdocahaaPk30
namespace Go.Proofs.Ytjlbifpbdocahaa
open Go.RowKit

/-- A list of bools in memory. -/
def BoolsAt (w : World) (v : Value) (l : List Bool) : Prop :=
  ∃ ao cap, v = .slice ao l.length cap ∧ (l ≠ [] → ∃ b off, ao = some ⟨b, off, none⟩ ∧ b < w.heap.size ∧ ∀ k x, l[k]? = some x → w.cell? ⟨b, off + k, none⟩ = some (.bool x))
def annL : List UInt8 := [97, 110, 110]
def sshL : List UInt8 := [115, 115, 104, 45, 97]
def oneGr : List GrantR := [⟨annL, 1⟩]
/-- A gate beside an arena with a key. -/
structure Cnt24 (w : World) (B A g : Nat) (key : Int) (lim n : Int) (W : World) : Prop where
  ta : ∃ w0 m P, Ta B w0 A P m W ∧ (key, pubL 1) ∈ P
  gate : GateAt W g oneGr [sshL] lim n
  lo : g < B
  hi : w.heap.size ≤ g
  bel : Below w.heap.size w W
theorem Cnt24.below {w W W' : World} {B A g : Nat} {key lim n : Int} (h : Cnt24 w B A g key lim n W) (hb : Below W.heap.size W W') : Cnt24 w B A g key lim n W' := by
  obtain ⟨⟨w0, m, P, h1, h2⟩, h3, h4, h5, h6⟩ := h
  exact ⟨⟨w0, m, P, h1.below hb, h2⟩, h3.below hb, h4, h5, h6.trans (hb.mono h6.size)⟩
theorem Cnt24.fail {w W : World} {B A g : Nat} {key lim n : Int} (h : Cnt24 w B A g key lim n W) (hn : 0 ≤ n) (hl : lim ≤ 20) :
    Calls Try.prog 28 #[.pointer (some ⟨g, 0, none⟩)] W fun e w' => e = .returned (.bool (decide (failP lim n ≥ lim))) ∧ Cnt24 w B A g key lim (failP lim n) w' := by
  obtain ⟨⟨w0, m, P, h1, h2⟩, h3, h4, h5, h6⟩ := h
  have hsz := h6.size
  exact (dFail_any h3 hn hl).mono fun e w' ⟨g1, g2, g3⟩ => ⟨g1, ⟨_, m, P, ta_elder h1 h4 g3, h2⟩, g2, h4, h5, h6.trans (g3.below (by omega) (fun i e => by omega))⟩
theorem Cnt24.has {w W : World} {B A g : Nat} {key lim n : Int} (h : Cnt24 w B A g key lim n W) :
    Calls Try.prog 22 #[.pointer (some ⟨g, 0, none⟩), .pointer (some ⟨A, 0, none⟩), .string ⟨#[97, 110, 110]⟩, .string ⟨#[115, 115, 104, 45, 97]⟩, .int .i64 key] W fun e w' => e = .returned (.bool true) ∧ Cnt24 w B A g key lim n w' := by
  have hc := h
  obtain ⟨⟨w0, m, P, h1, h2⟩, h3, h4, h5, h6⟩ := h
  have hh : hasP oneGr [sshL] annL sshL (pubL 1) = true := by
    unfold hasP
    rw [show ownerP (pubL 1) = (1, true) from owner_pub (x := 1) (by decide)]
    decide
  have := dHas_any h1 h3 (by decide) (by decide) annL sshL h2
  rw [hh] at this
  exact this.mono fun e w' ⟨g1, g2⟩ => ⟨g1, hc.below g2⟩
theorem gate_oneGr {lim : Int} (h : 1 ≤ lim ∧ lim ≤ 20) : gateZ oneGr [sshL] lim = 0 := (gate3 (by decide) (by decide) h).1

set_option maxHeartbeats 2000000 in
set_option maxRecDepth 100000 in
theorem DenyCounts_any {w : World} {v : Value} {l : List Bool} (hl : BoolsAt w v l) (hlen : l.length ≤ maxLen) (lim : Int) (h0 : 0 ≤ lim) (h255 : lim ≤ 255) :
    Calls Try.prog 5 #[.int .u8 lim, v] w fun e w' => e = .returned (.bool true) ∧ Below w.heap.size w w' := by
  have HA := Lib.hid (fun W => awake24_any W)
  obtain ⟨ao, cap, rfl, hc⟩ := hl
  unfold maxLen at hlen
  by_cases q : lim < 1
  · have q1 : decide (lim < 1) = true := decide_eq_true q
    clear hc q
    go_enter Try.func5, Try.ntmps5
    go_wp2_with (go_at_call 18; (with_reducible refine (HA.out _).mono ?_); rintro e w1 ⟨rfl, b1⟩)
    go_ret
    exact ⟨rfl, b1⟩
  have q1 : decide (lim < 1) = false := decide_eq_false q
  by_cases r : 20 < lim
  · have r1 : decide (lim > 20) = true := decide_eq_true r
    clear hc q r
    go_enter Try.func5, Try.ntmps5
    go_wp2_with (go_at_call 18; (with_reducible refine (HA.out _).mono ?_); rintro e w1 ⟨rfl, b1⟩)
    go_ret
    exact ⟨rfl, b1⟩
  have r1 : decide (lim > 20) = false := decide_eq_false r
  by_cases s : 40 < l.length
  · have s1 : decide ((l.length : Int) > 40) = true := decide_eq_true (by omega)
    clear hc q r s
    go_enter Try.func5, Try.ntmps5
    go_wp2_with (go_at_call 18; (with_reducible refine (HA.out _).mono ?_); rintro e w1 ⟨rfl, b1⟩)
    go_ret
    exact ⟨rfl, b1⟩
  have s1 : decide ((l.length : Int) > 40) = false := decide_eq_false (by omega)
  have HLim : Hid (1 ≤ lim ∧ lim ≤ 20) := ⟨by omega, by omega⟩
  have HN : Hid (Calls Try.prog 19 #[.slice (some ⟨w.heap.size, 0, none⟩) 1 1, .slice (some ⟨w.heap.size + 1, 0, none⟩) 1 1, .int .i64 lim] ((w.alloc (.cells #[.string ⟨#[97, 110, 110]⟩, .int .i64 1] 68)).alloc (.cells #[.string ⟨#[115, 115, 104, 45, 97]⟩] 9)) fun e w' => ∃ g, e = .returned (.tuple #[.pointer (some ⟨g, 0, none⟩), .nilIface]) ∧ w.heap.size ≤ g ∧ GateAt w' g oneGr [sshL] lim 0 ∧ Below w.heap.size w w') := by
    have hb : Below w.heap.size w ((w.alloc (.cells #[.string ⟨#[97, 110, 110]⟩, .int .i64 1] 68)).alloc (.cells #[.string ⟨#[115, 115, 104, 45, 97]⟩] 9)) := ((Below.refl _ _).alloc (Nat.le_refl _) _).alloc (by simp) _
    have ha := (Holds.new w 68 #[.string ⟨#[97, 110, 110]⟩, .int .i64 1]).moves ((Moves.refl nobody _).alloc (.cells #[.string ⟨#[115, 115, 104, 45, 97]⟩] 9)) (fun h => h)
    have hs := Holds.new (w.alloc (.cells #[.string ⟨#[97, 110, 110]⟩, .int .i64 1] 68)) 9 #[.string ⟨#[115, 115, 104, 45, 97]⟩]
    rw [World.size_alloc] at hs
    generalize (w.alloc (.cells #[.string ⟨#[97, 110, 110]⟩, .int .i64 1] 68)).alloc (.cells #[.string ⟨#[115, 115, 104, 45, 97]⟩] 9) = W at *
    have hG : GrantsAt W (.slice (some ⟨w.heap.size, 0, none⟩) 1 1) oneGr := ⟨_, _, rfl, fun _ => ⟨_, 0, rfl, ha.lt, fun k x hk => by
      match k, hk with
      | 0, hk => obtain rfl := (Option.some.inj hk).symm; exact ⟨ha.cell 0, ha.cell 1⟩
      | k + 1, hk => simp [oneGr] at hk⟩⟩
    have hT : TextsAt W (.slice (some ⟨w.heap.size + 1, 0, none⟩) 1 1) ([sshL].map bs) := ⟨_, _, rfl, fun _ => ⟨_, 0, rfl, hs.lt, fun k x hk => by
      match k, hk with
      | 0, hk => obtain rfl := (Option.some.inj hk).symm; exact hs.cell 0
      | k + 1, hk => simp at hk⟩⟩
    show Calls _ _ _ _ _
    refine (dNew_any hG (by decide) (by decide) hT (by decide) (by decide) lim).mono ?_
    rintro e w' ⟨hbw, ⟨h, _⟩ | ⟨_, g, h1, h2, h3⟩⟩
    · exact absurd (gate_oneGr HLim.out) h
    · exact ⟨g, h2, Nat.le_trans hb.size h1, h3, hb.trans (hbw.mono hb.size)⟩
  have HNew := Lib.hid (fun W => taNew W)
  have HK : Hid (∀ (B A : Nat) (W0 W : World), Ta B W0 A [] 0 W → Calls Try.prog 21 #[.pointer (some ⟨A, 0, none⟩), .int .i64 1] W (TaPost B W0 A [] 1 W (refKeyL 1))) := fun B A W0 W h => taKey h (by omega) 1
  have HP : Hid (∀ (B A : Nat) (W0 W : World) (k : Int), Ta B W0 A [(k, refKeyL 1)] 1 W → Calls Try.prog 24 #[.pointer (some ⟨A, 0, none⟩), .int .i64 k] W (TaPost B W0 A [(k, refKeyL 1)] 2 W (pubL 1))) := fun B A W0 W k h => taPub h (by omega) (.head _)
  have HMk : Hid (∀ (A g : Nat) (key k : Int) (W1 W : World), w.heap.size ≤ g → GateAt W1 g oneGr [sshL] lim 0 → Below w.heap.size w W1 → Ta W1.heap.size W1 A [(key, pubL 1), (k, refKeyL 1)] 2 W → Cnt24 w W1.heap.size A g key lim 0 W) := fun A g key k W1 W h1 h2 h3 h4 =>
    ⟨⟨W1, 2, _, h4, .head _⟩, h2.below h4.bel, h2.lt, h1, h3.trans (h4.bel.mono h3.size)⟩
  have HFail : Hid (∀ (B A g : Nat) (key n : Int) (W : World), 0 ≤ n → n ≤ lim → Cnt24 w B A g key lim n W → Calls Try.prog 28 #[.pointer (some ⟨g, 0, none⟩)] W fun e w' => e = .returned (.bool (min (n + 1) lim == lim)) ∧ Cnt24 w B A g key lim (min (n + 1) lim) w') := fun B A g key n W h0 h1 h => by
    have hm : failP lim n = min (n + 1) lim := by unfold failP; split <;> omega
    have hd : decide (failP lim n ≥ lim) = (min (n + 1) lim == lim) := by rw [hm, Bool.eq_iff_iff, decide_eq_true_iff, beq_iff_eq]; omega
    have := h.fail h0 HLim.out.2
    rw [hd, hm] at this
    exact this
  have HHas : Hid (∀ (B A g : Nat) (key n : Int) (W : World), Cnt24 w B A g key lim n W → Calls Try.prog 22 #[.pointer (some ⟨g, 0, none⟩), .pointer (some ⟨A, 0, none⟩), .string ⟨#[97, 110, 110]⟩, .string ⟨#[115, 115, 104, 45, 97]⟩, .int .i64 key] W fun e w' => e = .returned (.bool true) ∧ Cnt24 w B A g key lim n w') := fun B A g key n W h => h.has
  have HNum : Hid (∀ (B A g : Nat) (key n : Int) (W : World), Cnt24 w B A g key lim n W → Calls Try.prog 29 #[.pointer (some ⟨g, 0, none⟩)] W fun e w' => e = .returned (.int .i64 n) ∧ w' = W) := fun B A g key n W h => dFailures_any h.gate
  have HFull : Hid (∀ (B A g : Nat) (key n : Int) (W : World), n ≤ lim → Cnt24 w B A g key lim n W → Calls Try.prog 27 #[.pointer (some ⟨g, 0, none⟩)] W fun e w' => e = .returned (.bool (n == lim)) ∧ Cnt24 w B A g key lim n w') := fun B A g key n W h0 h => (dFull_any h.gate).mono fun e w' ⟨h1, h2⟩ => ⟨by rw [h1]; congr 2; rw [Bool.eq_iff_iff, decide_eq_true_iff, beq_iff_eq]; omega, h.below h2⟩
  have HBel : Hid (∀ (B A g : Nat) (key n : Int) (W : World), Cnt24 w B A g key lim n W → Below w.heap.size w W) := fun B A g key n W h => h.bel
  have HDr : Hid (∀ (B A g : Nat) (key n : Int) (W : World), Cnt24 w B A g key lim n W → Cnt24 w B A g key lim n W.drew) := fun B A g key n W h => h.below (Below.refl _ _).drew
  have HC : Hid (∀ (k : Nat) (W : World), k < l.length → Below w.heap.size w W → ∃ b off x, ao = some ⟨b, off, none⟩ ∧ W.cell? ⟨b, off + k, none⟩ = some (.bool x)) := fun k W hk hb => by
    obtain ⟨b, off, e, hlt, h⟩ := hc (by intro e; rw [e] at hk; simp at hk)
    exact ⟨b, off, l[k], e, (hb.cell (p := ⟨b, off + k, none⟩) hlt).trans (h k _ (List.getElem?_eq_getElem hk))⟩
  have hl1 := HLim.out.1
  have hl2 := HLim.out.2
  clear hc q r s HLim
  generalize pubL 1 = T1 at *
  generalize refKeyL 1 = T0 at *
  go_enter Try.func5, Try.ntmps5
  go_wp2_with (first
    | (go_at_call 19; (with_reducible refine HN.out.mono ?_); rintro e W1 ⟨g, rfl, hg, gt, b1⟩)
    | (go_at_call 8; (with_reducible refine (HNew.out _).mono ?_); rintro e W2 ⟨A, rfl, t2⟩)
    | (go_at_call 21; (with_reducible refine (HK.out _ _ _ _ t2).mono ?_); rintro e W3 ⟨k0, rfl, t3, _⟩)
    | (go_at_call 24; (with_reducible refine (HP.out _ _ _ _ _ t3).mono ?_); rintro e W4 ⟨key, rfl, t4, _⟩; have C4 := Lib.hid (HMk.out _ _ _ _ _ _ hg gt b1 t4)))
  clear hg gt b1 t2 t3 t4 HN HNew HK HP HMk
  go_loopw [9, 10] (fun zn zi wr => ∃ (k : Nat) (n : Int), k ≤ l.length ∧ zn = .int .i64 n ∧ zi = .int .i64 (k : Int) ∧ 0 ≤ n ∧ n ≤ lim ∧ Cnt24 w W1.heap.size A g key lim n wr) (fun _ i _ => l.length - (intOf i).toNat)
  case atStart => exact ⟨0, 0, Nat.zero_le _, rfl, rfl, by omega, by omega, C4.out⟩
  case round =>
    obtain ⟨k, n, hk, rfl, rfl, hn0, hn1, hcnt⟩ := hrel
    generalize W1.heap.size = B at *
    by_cases hlt : k < l.length
    · obtain ⟨b, off, x, rfl, c1⟩ := HC.out k wr hlt (HBel.out _ _ _ _ _ _ hcnt)
      have HCn := Lib.hid hcnt
      clear hcnt HC C4
      cases x with
      | true =>
        have hm0 : 0 ≤ min (n + 1) lim := by omega
        have hm1 : min (n + 1) lim ≤ lim := by omega
        have HF := Lib.hid (HFail.out B A g key n wr hn0 hn1 HCn.out)
        have HH := Lib.hid (fun W (h : Cnt24 w B A g key lim (min (n + 1) lim) W) => HHas.out B A g key _ W h)
        have HNu := Lib.hid (fun W (h : Cnt24 w B A g key lim (min (n + 1) lim) W) => HNum.out B A g key _ W h)
        have HFu := Lib.hid (fun W (h : Cnt24 w B A g key lim (min (n + 1) lim) W) => HFull.out B A g key _ W hm1 h)
        have qm : (min (n + 1) lim == min (n + 1) lim) = true := by simp
        obtain ⟨q, hq⟩ : ∃ q, (min (n + 1) lim == lim) = q := ⟨_, rfl⟩
        rw [hq] at HF HFu
        have qq : (q != q) = false := by simp
        clear HFail HHas HNum HFull HBel
        go_wp2_with (first
          | (go_at_call 28; (with_reducible refine HF.out.mono ?_); rintro e w2 ⟨rfl, d2⟩)
          | (go_at_call 22; (with_reducible refine (HH.out _ d2).mono ?_); rintro e w3 ⟨rfl, d3⟩)
          | (go_at_call 29; (with_reducible refine (HNu.out _ d3).mono ?_); rintro e w4 ⟨rfl, hw⟩; have hw := hw.symm; subst hw)
          | (go_at_call 27; (with_reducible refine (HFu.out _ d3).mono ?_); rintro e w5 ⟨rfl, d5⟩))
        go_roundw
        case rel => exact ⟨k + 1, _, by omega, rfl, by go_num, hm0, hm1, d5⟩
        case measure => simp [intOf]; omega
      | false =>
        have HH := Lib.hid (HHas.out B A g key n wr HCn.out)
        have HNu := Lib.hid (fun W (h : Cnt24 w B A g key lim n W) => HNum.out B A g key n W h)
        have HFu := Lib.hid (fun W (h : Cnt24 w B A g key lim n W) => HFull.out B A g key n W hn1 h)
        obtain ⟨q, hq⟩ : ∃ q, (n == lim) = q := ⟨_, rfl⟩
        rw [hq] at HFu
        have qq : (q != q) = false := by simp
        have qn : (n != n) = false := by simp
        clear HFail HHas HNum HFull HBel
        go_wp2_with (first
          | (go_at_call 22; (with_reducible refine HH.out.mono ?_); rintro e w3 ⟨rfl, d3⟩)
          | (go_at_call 29; (with_reducible refine (HNu.out _ d3).mono ?_); rintro e w4 ⟨rfl, hw⟩; have hw := hw.symm; subst hw)
          | (go_at_call 27; (with_reducible refine (HFu.out _ d3).mono ?_); rintro e w5 ⟨rfl, d5⟩))
        go_roundw
        case rel => exact ⟨k + 1, n, by omega, rfl, by go_num, hn0, hn1, d5⟩
        case measure => simp [intOf]; omega
    · have hkl : k = l.length := by omega
      subst hkl
      have HB := Lib.hid (HBel.out _ _ _ _ _ _ hcnt)
      clear hlt HC C4 hcnt
      go_wp2_with (go_at_call 18; (with_reducible refine (HA.out _).mono ?_); rintro e w5 ⟨rfl, b5⟩)
      go_ret
      exact ⟨rfl, HB.out.trans (b5.mono HB.out.size)⟩
end Go.Proofs.Ytjlbifpbdocahaa
