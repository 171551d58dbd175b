/- Layer 13: the law StreamTakes. -/
import Derived.Test.YtlalkpgipenkaaaSx5
namespace Go.Proofs.Ytlalkpgipenkaaa
open Go.RowKit

/-- Both streams stand alike. -/
structure SBoth (B X Y : Nat) (l : List UInt8) (e : Nat) (w wr : World) : Prop where
  st : ∃ F, StAt B X l e F wr ∧ ¬ F Y
  y : YAt wr Y l e
  bel : Below B w wr
  hB : B ≤ Y
theorem YAt.lt {w : World} {Y : Nat} {l : List UInt8} {e : Nat} (h : YAt w Y l e) : Y < w.heap.size := Holds.lt h
theorem SBoth.after {B X Y : Nat} {l l' : List UInt8} {e e' : Nat} {w wr w1 w2 : World} {F : Nat → Prop} (h : SBoth B X Y l e w wr) (hF : ¬ F Y) (hFB : ∀ k, F k → B ≤ k) (h1 : StLeft B X l' e' F wr w1) (h2 : YAt w2 Y l' e') (m2 : Moves (fun k => k = Y) w1 w2) : SBoth B X Y l' e' w w2 := by
  obtain ⟨F', s1, m1, f1⟩ := h1
  have hY := h.y.lt
  have hz := m1.size
  have hBw : B ≤ wr.heap.size := by have := h.hB; omega
  have hn : ¬ F' Y := fun h => by
    rcases f1 Y h with h | h
    · exact hF h
    · omega
  have b1 := h.bel.trans (m1.below hBw hFB)
  exact ⟨⟨F', s1.moves m2 (fun k hk e => hn (e ▸ hk)), hn⟩, h2, b1.trans (m2.below (by omega) (fun i hi => by have := h.hB; omega)), h.hB⟩
theorem SBoth.drewN {B X Y : Nat} {l : List UInt8} {e : Nat} {w wr : World} (h : SBoth B X Y l e w wr) (n : Nat) : SBoth B X Y l e w (wr.drewN n) := by
  obtain ⟨F, h1, h2⟩ := h.st
  exact ⟨⟨F, h1.moves ((Moves.refl nobody _).drewN n) (fun _ _ h => h), h2⟩, h.y, ⟨h.bel.os, h.bel.tape, h.bel.output, h.bel.size, h.bel.block⟩, h.hB⟩
theorem SBoth.left {B X Y : Nat} {l : List UInt8} {e : Nat} {w wr : World} (h : SBoth B X Y l e w wr) : Calls Try.prog 17 #[.pointer (some ⟨X, 0, none⟩)] wr fun r w' => r = .returned (.int .i64 (l.length : Int)) ∧ w' = wr := by
  obtain ⟨F, h1, _⟩ := h.st
  obtain ⟨ao, cap, hc⟩ := h1.cell0
  exact xLeft_any hc
theorem SBoth.broken {B X Y : Nat} {l : List UInt8} {e : Nat} {w wr : World} (h : SBoth B X Y l e w wr) : Calls Try.prog 18 #[.pointer (some ⟨X, 0, none⟩)] wr fun r w' => r = .returned (.int .i64 (e : Int)) ∧ w' = wr := by
  obtain ⟨F, h1, _⟩ := h.st
  exact xBroken_any h1.cell1

set_option maxHeartbeats 2000000 in
set_option maxRecDepth 100000 in
theorem StreamTakes_small (l : List (Int × List UInt8)) (hl : fewP13 l 30 = true) (v : Value) (w : World) (hv : Acts13 w v l) :
    Calls Try.prog 3 #[v] w fun e w' => e = .returned (.bool true) ∧ Below w.heap.size w w' := by
  obtain ⟨hl30, hls⟩ := fewP13_iff hl
  have HFw := few13_any hv (by omega)
  rw [hl] at HFw
  have HFw := Lib.hid HFw
  have HA := Lib.hid (fun W => awake13_any W)
  have HN := Lib.hid (xNew_any w)
  have HS := Lib.hid hls
  obtain ⟨ao, cap, rfl, -, hc⟩ := hv
  have HC := Lib.hid hc
  clear hc hl hls
  have HI : Hid (∀ w1 : World, StAt w.heap.size w.heap.size [] 0 (fun k => k = w.heap.size) w1 → Below w.heap.size w w1 → SBoth w.heap.size w.heap.size w1.heap.size [] 0 w (w1.alloc (.cells #[.string ⟨#[]⟩, .int .i64 0] 30))) := fun w1 h1 b1 =>
    ⟨⟨_, h1.moves ((Moves.refl nobody w1).alloc _) (fun _ _ h => h), fun e => by have := h1.lt w.heap.size rfl; omega⟩, Holds.new w1 _ _, b1.alloc b1.size _, b1.size⟩
  go_enter Try.func3, Try.ntmps3
  go_wp2_with (first
    | (go_at_call 6; (with_reducible refine HFw.out.mono ?_); rintro e w' ⟨rfl, hw⟩; have hw := hw.symm; subst hw)
    | (go_at_call 8; (with_reducible refine HN.out.mono ?_); rintro e w1 ⟨rfl, h1, b1⟩; have HB0 := Lib.hid (HI.out w1 h1 b1)))
  obtain ⟨Y, hY⟩ : ∃ Y, Y = w1.heap.size := ⟨_, rfl⟩
  rw [← hY] at HB0 ⊢
  clear HFw HN HI h1 b1 hY
  generalize w1.alloc (.cells #[.string ⟨#[]⟩, .int .i64 0] 30) = W0 at *
  go_loopw [5] (fun i wr => ∃ (k : Nat) (s : List UInt8) (e : Nat), k ≤ l.length ∧ s.length ≤ 2000 * k ∧ i = .int .i64 k ∧ SBoth w.heap.size w.heap.size Y s e w wr) (fun i _ => l.length - (intOf i).toNat)
  case atStart => exact ⟨0, [], 0, Nat.zero_le _, Nat.zero_le _, rfl, HB0.out⟩
  case round =>
    clear HB0
    obtain ⟨k, s, e, hk, hs, rfl, HB⟩ := hrel
    have HB := Lib.hid HB
    by_cases hlt : k < l.length
    · obtain ⟨b, off, rfl, hb, hcell⟩ := HC.out (by intro h; simp [h] at hlt)
      obtain ⟨x, y, hxy⟩ : ∃ x y, l[k]? = some (x, y) := ⟨l[k].1, l[k].2, by simp [hlt]⟩
      obtain ⟨q1, q2⟩ := hcell k _ hxy
      have c1 : wr.cell? ⟨b, off + k * 2, none⟩ = some (.int .i64 x) := (HB.out.bel.cell (p := ⟨b, off + k * 2, none⟩) hb).trans q1
      have c2 : wr.cell? ⟨b, off + k * 2 + 1, none⟩ = some (.string (bs y)) := (HB.out.bel.cell (p := ⟨b, off + k * 2 + 1, none⟩) hb).trans q2
      have hy2 := HS.out _ (List.mem_of_getElem? hxy)
      simp only at hy2
      have hsn : s.length + y.length ≤ 1000000 := by omega
      clear hcell hxy q1 q2
      obtain ⟨F, hF, hFY⟩ := HB.out.st
      have hFB : ∀ k, F k → w.heap.size ≤ k := fun k hk => (hF.lt k hk).1
      have HM : Hid (∀ (l' : List UInt8) (e' : Nat) (w1 : World), StLeft w.heap.size w.heap.size l' e' F wr w1 → YAt w1 Y s e) := fun l' e' w1 ⟨F', s1, m1, f1⟩ => HB.out.y.moves m1 hFY
      have HAf : Hid (∀ (l' : List UInt8) (e' : Nat) (w1 w2 : World), StLeft w.heap.size w.heap.size l' e' F wr w1 → YAt w2 Y l' e' → Moves (fun k => k = Y) w1 w2 → SBoth w.heap.size w.heap.size Y l' e' w w2) := fun l' e' w1 w2 a b c => HB.out.after hFY hFB a b c
      have HCm : Hid (∀ (l' : List UInt8) (e' : Nat) (w1 : World), StLeft w.heap.size w.heap.size l' e' F wr w1 → w1.cell? ⟨b, off + k * 2 + 1, none⟩ = some (.string (bs y))) := fun l' e' w1 ⟨F', s1, m1, f1⟩ =>
        (m1.cell (p := ⟨b, off + k * 2 + 1, none⟩) (World.block_lt_of_cell? wr _ c2) (fun h => by have := hFB b h; omega)).trans c2
      by_cases hx0 : x = 0
      · subst hx0
        have hf := xFeed_any hF y hsn
        have hg := fun (W : World) (hq : YAt W Y s e) => yFeed_any hq y hsn
        have hle : (if e = 0 then s ++ y else s).length ≤ 2000 * (k + 1) := by
          split
          · rw [List.length_append]; omega
          · omega
        generalize (if e = 0 then s ++ y else s) = s' at *
        have HFf := Lib.hid hf
        have HG := Lib.hid hg
        clear hf hg hFB hF hFY hs hsn
        generalize bs y = yb at *
        go_wp2_with (first
          | (go_at_call 9; (with_reducible refine HFf.out.mono ?_); rintro r w2 ⟨rfl, h1⟩; have d2 := HCm.out _ _ _ h1; have H1 := Lib.hid h1; clear h1)
          | (go_at_call 10; (with_reducible refine (HG.out _ (HM.out _ _ _ H1.out)).mono ?_); rintro r w3 ⟨rfl, h2, m2⟩))
        have HB2 := HAf.out _ _ _ _ H1.out h2 m2
        have d0 := Holds.cell HB2.y 0
        have d1 := Holds.cell HB2.y 1
        have hz := bs_size s'
        have HL := Lib.hid (fun (n : Nat) => (HB2.drewN n).left)
        have HD := Lib.hid (fun (n : Nat) => (HB2.drewN n).broken)
        have HB3 := Lib.hid (fun (n : Nat) => HB2.drewN n)
        clear HB2 h2 m2 H1 HM HAf HFf HG c1 HB
        generalize bs s' = S2 at *
        go_quiet (first
          | (go_at_call 17; refine Calls.quiet_of_same (HL.out _))
          | (go_at_call 18; refine Calls.quiet_of_same (HD.out _)))
        go_wp2_with fail
        go_roundw
        case rel => exact ⟨k + 1, s', _, by omega, hle, by go_num, HB3.out _⟩
        case measure => simp [intOf]; omega
      have hx0q : (x == 0) = false := by simpa using hx0
      by_cases hx1 : x = 1
      · subst hx1
        have hf := xLine_any hF (by omega)
        have hg := fun (W : World) (hq : YAt W Y s e) => yLine_any hq (by omega)
        have hle := stTake_len (lnScan s) s e
        generalize stTake (lnScan s) s e = p at *
        obtain ⟨vs, vb, ve, s', e'⟩ := p
        simp only at hf hg hle
        have hle : s'.length ≤ 2000 * (k + 1) := by omega
        have HFf := Lib.hid hf
        have HG := Lib.hid hg
        clear hf hg hFB hF hFY hs hsn c2 HCm
        generalize bs vs = VS at *
        go_wp2_with (first
          | (go_at_call 11; (with_reducible refine HFf.out.mono ?_); rintro r w2 ⟨rfl, h1⟩; have H1 := Lib.hid h1; clear h1)
          | (go_at_call 12; (with_reducible refine (HG.out _ (HM.out _ _ _ H1.out)).mono ?_); rintro r w3 ⟨rfl, h2, m2⟩))
        have HB2 := HAf.out _ _ _ _ H1.out h2 m2
        have d0 := Holds.cell HB2.y 0
        have d1 := Holds.cell HB2.y 1
        have hz := bs_size s'
        have HL := Lib.hid (fun (n : Nat) => (HB2.drewN n).left)
        have HD := Lib.hid (fun (n : Nat) => (HB2.drewN n).broken)
        have HB3 := Lib.hid (fun (n : Nat) => HB2.drewN n)
        clear HB2 h2 m2 H1 HM HAf HFf HG c1 HB
        generalize bs s' = S2 at *
        go_quiet (first
          | (go_at_call 17; refine Calls.quiet_of_same (HL.out _))
          | (go_at_call 18; refine Calls.quiet_of_same (HD.out _)))
        go_wp2_with fail
        go_roundw
        case rel => exact ⟨k + 1, s', _, by omega, hle, by go_num, HB3.out _⟩
        case measure => simp [intOf]; omega
      have hx1q : (x == 1) = false := by simpa using hx1
      by_cases hx2 : x = 2
      · subst hx2
        have hf := xUnit_any hF (by omega)
        have hg := fun (W : World) (hq : YAt W Y s e) => yUnit_any hq (by omega)
        have hle := stTake_len (stUnit s) s e
        generalize stTake (stUnit s) s e = p at *
        obtain ⟨vs, vb, ve, s', e'⟩ := p
        simp only at hf hg hle
        have hle : s'.length ≤ 2000 * (k + 1) := by omega
        have HFf := Lib.hid hf
        have HG := Lib.hid hg
        clear hf hg hFB hF hFY hs hsn c2 HCm
        generalize bs vs = VS at *
        go_wp2_with (first
          | (go_at_call 13; (with_reducible refine HFf.out.mono ?_); rintro r w2 ⟨rfl, h1⟩; have H1 := Lib.hid h1; clear h1)
          | (go_at_call 14; (with_reducible refine (HG.out _ (HM.out _ _ _ H1.out)).mono ?_); rintro r w3 ⟨rfl, h2, m2⟩))
        have HB2 := HAf.out _ _ _ _ H1.out h2 m2
        have d0 := Holds.cell HB2.y 0
        have d1 := Holds.cell HB2.y 1
        have hz := bs_size s'
        have HL := Lib.hid (fun (n : Nat) => (HB2.drewN n).left)
        have HD := Lib.hid (fun (n : Nat) => (HB2.drewN n).broken)
        have HB3 := Lib.hid (fun (n : Nat) => HB2.drewN n)
        clear HB2 h2 m2 H1 HM HAf HFf HG c1 HB
        generalize bs s' = S2 at *
        go_quiet (first
          | (go_at_call 17; refine Calls.quiet_of_same (HL.out _))
          | (go_at_call 18; refine Calls.quiet_of_same (HD.out _)))
        go_wp2_with fail
        go_roundw
        case rel => exact ⟨k + 1, s', _, by omega, hle, by go_num, HB3.out _⟩
        case measure => simp [intOf]; omega
      have hx2q : (x == 2) = false := by simpa using hx2
      have hf := xClose_any hF
      have hg := fun (W : World) (hq : YAt W Y s e) => yClose_any hq
      have hle : (if e = 0 then [] else s).length ≤ 2000 * (k + 1) := by
        split
        · exact Nat.zero_le _
        · omega
      generalize (if e = 0 then [] else s) = s' at *
      generalize (if e = 0 then 1 else e) = e' at *
      have HFf := Lib.hid hf
      have HG := Lib.hid hg
      clear hf hg hFB hF hFY hs hsn c2 HCm
      go_wp2_with (first
        | (go_at_call 15; (with_reducible refine HFf.out.mono ?_); rintro r w2 ⟨rfl, h1⟩; have H1 := Lib.hid h1; clear h1)
        | (go_at_call 16; (with_reducible refine (HG.out _ (HM.out _ _ _ H1.out)).mono ?_); rintro r w3 ⟨rfl, h2, m2⟩))
      have HB2 := HAf.out _ _ _ _ H1.out h2 m2
      have d0 := Holds.cell HB2.y 0
      have d1 := Holds.cell HB2.y 1
      have hz := bs_size s'
      have HL := Lib.hid (fun (n : Nat) => (HB2.drewN n).left)
      have HD := Lib.hid (fun (n : Nat) => (HB2.drewN n).broken)
      have HB3 := Lib.hid (fun (n : Nat) => HB2.drewN n)
      clear HB2 h2 m2 H1 HM HAf HFf HG c1 HB
      generalize bs s' = S2 at *
      go_quiet (first
        | (go_at_call 17; refine Calls.quiet_of_same (HL.out _))
        | (go_at_call 18; refine Calls.quiet_of_same (HD.out _)))
      go_wp2_with fail
      go_roundw
      case rel => exact ⟨k + 1, s', _, by omega, hle, by go_num, HB3.out _⟩
      case measure => simp [intOf]; omega
    · have hkl : k = l.length := by omega
      subst hkl
      clear hlt HC hs
      go_wp2_with (first
        | (go_at_call 9; (with_reducible refine (xFeed_nil _ _).mono ?_); rintro r w' ⟨rfl, hw⟩; have hw := hw.symm; subst hw)
        | (go_at_call 15; (with_reducible refine (xClose_nil _).mono ?_); rintro r w' ⟨rfl, hw⟩; have hw := hw.symm; subst hw)
        | (go_at_call 11; (with_reducible refine (xLine_nil _).mono ?_); rintro r w' ⟨rfl, hw⟩; have hw := hw.symm; subst hw)
        | (go_at_call 7; (with_reducible refine (HA.out _).mono ?_); rintro r w2 ⟨rfl, b2⟩)
        | (go_at_call 17; (with_reducible refine (xLeft_nil _).mono ?_); rintro r w' ⟨rfl, hw⟩; have hw := hw.symm; subst hw)
        | (go_at_call 18; (with_reducible refine (xBroken_nil _).mono ?_); rintro r w' ⟨rfl, hw⟩; have hw := hw.symm; subst hw))
      go_ret
      exact ⟨rfl, HB.out.bel.trans (b2.mono HB.out.bel.size)⟩
end Go.Proofs.Ytlalkpgipenkaaa
