/- Layer 17: the law ChooseAny. -/
import Derived.Test.YtihkhcocfhbekaaDoorCh4
import Derived.Test.YtihkhcocfhbekaaDoorCh5
import Derived.Test.YtihkhcocfhbekaaDoorCh6
import Derived.Test.YtihkhcocfhbekaaDoorWr2
import Derived.Deep.RegionHeld3
namespace Go.Proofs.YtihkhcocfhbekaaDoor
open Go.RowKit

def atTwo17 (S : ByteArray) : ByteArray := ⟨#[99, 104, 111, 111, 115, 101, 32]⟩ ++ S ++ ⟨#[32]⟩
theorem atTwo17_is (S : ByteArray) : atP [chooseS, S] = atTwo17 S := by
  unfold atP atTwo17
  simp only [List.foldl_cons, List.foldl_nil]
  rw [show (⟨#[]⟩ : ByteArray) ++ chooseS ++ ⟨#[32]⟩ = ⟨#[99, 104, 111, 111, 115, 101, 32]⟩ from by decide +kernel]
theorem word_small17 {m : Nat} (hm : m < 8) : (bs (wordZ m)).size ≤ 1000 := by
  have h : ∀ m < 8, (wordZ ((m : Nat) : Int)).length ≤ 10 := by decide +kernel
  rw [bs_size]
  exact Nat.le_trans (h m hm) (by omega)
theorem ch_box {w : World} {cs : Array Value} : ∀ W, Below (w.alloc (.cells cs 28)).heap.size (w.alloc (.cells cs 28)) W → W.cell? ⟨w.heap.size, 0, none⟩ = cs[0]? ∧ W.cell? ⟨w.heap.size, 1, none⟩ = cs[1]? ∧ W.cell? ⟨w.heap.size, 2, none⟩ = cs[2]? ∧ W.cell? ⟨w.heap.size, 3, none⟩ = cs[3]? ∧ W.cell? ⟨w.heap.size, 4, none⟩ = cs[4]? ∧ W.cell? ⟨w.heap.size, 5, none⟩ = cs[5]? ∧ W.cell? ⟨w.heap.size, 6, none⟩ = cs[6]? ∧ W.cell? ⟨w.heap.size, 7, none⟩ = cs[7]? := fun W hb => by
  have h := (Holds.new w 28 cs).moves (Moves.ofBelow (S := nobody) hb) (fun h => h)
  exact ⟨h.cell 0, h.cell 1, h.cell 2, h.cell 3, h.cell 4, h.cell 5, h.cell 6, h.cell 7⟩
theorem few17_true {w : World} {u : Nat → Value} {p : Nat → List (List UInt8)} (h : Eight w u p) (hs : ∀ k < 8, ∀ x ∈ p k, x.length ≤ maxLen) (hf : ∀ k < 8, okP15 (p k)) :
    Calls Tryd.prog 10 #[agg8 u] w fun e w' => e = .returned (.bool true) ∧ Below w.heap.size w w' :=
  (few15_any h hs).mono (by
    rintro e w' ⟨z, rfl, hz, hb⟩
    rw [hz.2 hf]
    exact ⟨rfl, hb⟩)
theorem few17_false {w : World} {u : Nat → Value} {p : Nat → List (List UInt8)} (h : Eight w u p) (hs : ∀ k < 8, ∀ x ∈ p k, x.length ≤ maxLen) (hf : ¬ ∀ k < 8, okP15 (p k)) :
    Calls Tryd.prog 10 #[agg8 u] w fun e w' => e = .returned (.bool false) ∧ Below w.heap.size w w' :=
  (few15_any h hs).mono (by
    rintro e w' ⟨z, rfl, hz, hb⟩
    have : z = false := by
      cases z with
      | false => rfl
      | true => exact absurd (hz.1 rfl) hf
    rw [this]
    exact ⟨rfl, hb⟩)

set_option maxHeartbeats 4000000 in
set_option maxRecDepth 100000 in
theorem ChooseAny_any {w : World} (hT : Tab15 w) (hg : TypeOfError w) {u v : Nat → Value} {p q : Nat → List (List UInt8)} (h : Eight w u p) (h' : Eight w v q) (hs : ∀ k < 8, ∀ x ∈ p k, x.length ≤ maxLen) (hs' : ∀ k < 8, ∀ x ∈ q k, x.length ≤ maxLen) :
    Calls Tryd.prog 3 #[agg8 u, agg8 v] w fun e w' => e = .returned (.bool true) ∧ Below w.heap.size w w' := by
  have hu := h.sl
  have hv := h'.sl
  obtain ⟨a0, n0, c0, e0⟩ := hu 0 (by omega)
  obtain ⟨a1, n1, c1, e1⟩ := hu 1 (by omega)
  obtain ⟨a2, n2, c2, e2⟩ := hu 2 (by omega)
  obtain ⟨a3, n3, c3, e3⟩ := hu 3 (by omega)
  obtain ⟨a4, n4, c4, e4⟩ := hu 4 (by omega)
  obtain ⟨a5, n5, c5, e5⟩ := hu 5 (by omega)
  obtain ⟨a6, n6, c6, e6⟩ := hu 6 (by omega)
  obtain ⟨a7, n7, c7, e7⟩ := hu 7 (by omega)
  obtain ⟨b0, m0, d0, f0⟩ := hv 0 (by omega)
  obtain ⟨b1, m1, d1, f1⟩ := hv 1 (by omega)
  obtain ⟨b2, m2, d2, f2⟩ := hv 2 (by omega)
  obtain ⟨b3, m3, d3, f3⟩ := hv 3 (by omega)
  obtain ⟨b4, m4, d4, f4⟩ := hv 4 (by omega)
  obtain ⟨b5, m5, d5, f5⟩ := hv 5 (by omega)
  obtain ⟨b6, m6, d6, f6⟩ := hv 6 (by omega)
  obtain ⟨b7, m7, d7, f7⟩ := hv 7 (by omega)
  have hU : agg8 u = .agg #[.slice a0 n0 c0, .slice a1 n1 c1, .slice a2 n2 c2, .slice a3 n3 c3, .slice a4 n4 c4, .slice a5 n5 c5, .slice a6 n6 c6, .slice a7 n7 c7] := by unfold agg8; rw [e0, e1, e2, e3, e4, e5, e6, e7]
  have hV : agg8 v = .agg #[.slice b0 m0 d0, .slice b1 m1 d1, .slice b2 m2 d2, .slice b3 m3 d3, .slice b4 m4 d4, .slice b5 m5 d5, .slice b6 m6 d6, .slice b7 m7 d7] := by unfold agg8; rw [f0, f1, f2, f3, f4, f5, f6, f7]
  have HBX := Lib.hid (two_boxes (w := w) (A := #[.slice a0 n0 c0, .slice a1 n1 c1, .slice a2 n2 c2, .slice a3 n3 c3, .slice a4 n4 c4, .slice a5 n5 c5, .slice a6 n6 c6, .slice a7 n7 c7]) (B := #[.slice b0 m0 d0, .slice b1 m1 d1, .slice b2 m2 d2, .slice b3 m3 d3, .slice b4 m4 d4, .slice b5 m5 d5, .slice b6 m6 d6, .slice b7 m7 d7]) (t := 24))
  have HB0 := Lib.hid (two_below (w := w) (A := #[.slice a0 n0 c0, .slice a1 n1 c1, .slice a2 n2 c2, .slice a3 n3 c3, .slice a4 n4 c4, .slice a5 n5 c5, .slice a6 n6 c6, .slice a7 n7 c7]) (B := #[.slice b0 m0 d0, .slice b1 m1 d1, .slice b2 m2 d2, .slice b3 m3 d3, .slice b4 m4 d4, .slice b5 m5 d5, .slice b6 m6 d6, .slice b7 m7 d7]) (t := 24))
  have HAw : Hid (∀ W, Below w.heap.size w W → Calls Tryd.prog 11 #[] W fun e w' => e = .returned (.bool true) ∧ Below W.heap.size W w') := fun W hb => awake17_any (hT.below hb)
  obtain ⟨W0, hW0⟩ : ∃ W0, W0 = (w.alloc (.cells #[.slice a0 n0 c0, .slice a1 n1 c1, .slice a2 n2 c2, .slice a3 n3 c3, .slice a4 n4 c4, .slice a5 n5 c5, .slice a6 n6 c6, .slice a7 n7 c7] 24)).alloc (.cells #[.slice b0 m0 d0, .slice b1 m1 d1, .slice b2 m2 d2, .slice b3 m3 d3, .slice b4 m4 d4, .slice b5 m5 d5, .slice b6 m6 d6, .slice b7 m7 d7] 24) := ⟨_, rfl⟩
  rw [← hW0] at HBX HB0
  have HW0 := Lib.hid hW0.symm
  have BR : Hid (Below W0.heap.size W0 W0) := Below.refl _ _
  have HCe : Hid (∀ W, Below W0.heap.size W0 W → W.cell? ⟨w.heap.size, 0, none⟩ = some (.slice a0 n0 c0) ∧ W.cell? ⟨w.heap.size, 1, none⟩ = some (.slice a1 n1 c1) ∧ W.cell? ⟨w.heap.size, 2, none⟩ = some (.slice a2 n2 c2) ∧ W.cell? ⟨w.heap.size, 3, none⟩ = some (.slice a3 n3 c3) ∧ W.cell? ⟨w.heap.size, 4, none⟩ = some (.slice a4 n4 c4) ∧ W.cell? ⟨w.heap.size, 5, none⟩ = some (.slice a5 n5 c5) ∧ W.cell? ⟨w.heap.size, 6, none⟩ = some (.slice a6 n6 c6) ∧ W.cell? ⟨w.heap.size, 7, none⟩ = some (.slice a7 n7 c7) ∧ W.cell? ⟨w.heap.size + 1, 0, none⟩ = some (.slice b0 m0 d0) ∧ W.cell? ⟨w.heap.size + 1, 1, none⟩ = some (.slice b1 m1 d1) ∧ W.cell? ⟨w.heap.size + 1, 2, none⟩ = some (.slice b2 m2 d2) ∧ W.cell? ⟨w.heap.size + 1, 3, none⟩ = some (.slice b3 m3 d3) ∧ W.cell? ⟨w.heap.size + 1, 4, none⟩ = some (.slice b4 m4 d4) ∧ W.cell? ⟨w.heap.size + 1, 5, none⟩ = some (.slice b5 m5 d5) ∧ W.cell? ⟨w.heap.size + 1, 6, none⟩ = some (.slice b6 m6 d6) ∧ W.cell? ⟨w.heap.size + 1, 7, none⟩ = some (.slice b7 m7 d7)) := fun W hb => by
    obtain ⟨k1, k2⟩ := HBX.out W hb
    exact ⟨(k1.cell 0).trans rfl, (k1.cell 1).trans rfl, (k1.cell 2).trans rfl, (k1.cell 3).trans rfl, (k1.cell 4).trans rfl, (k1.cell 5).trans rfl, (k1.cell 6).trans rfl, (k1.cell 7).trans rfl, (k2.cell 0).trans rfl, (k2.cell 1).trans rfl, (k2.cell 2).trans rfl, (k2.cell 3).trans rfl, (k2.cell 4).trans rfl, (k2.cell 5).trans rfl, (k2.cell 6).trans rfl, (k2.cell 7).trans rfl⟩
  clear HBX
  have hbt : ∀ W, Below W0.heap.size W0 W → Below w.heap.size w W := fun W hb => HB0.out.trans (hb.mono HB0.out.size)
  have HBt := Lib.hid hbt
  rw [hU, hV]
  by_cases hf1 : ∀ k < 8, okP15 (p k)
  case neg =>
    have HF1 : Hid (∀ W, Below W0.heap.size W0 W → Calls Tryd.prog 10 #[.agg #[.slice a0 n0 c0, .slice a1 n1 c1, .slice a2 n2 c2, .slice a3 n3 c3, .slice a4 n4 c4, .slice a5 n5 c5, .slice a6 n6 c6, .slice a7 n7 c7]] W fun e w' => e = .returned (.bool false) ∧ Below W.heap.size W w') := fun W hb => by
      rw [← hU]
      exact few17_false (h.below (hbt W hb)) hs hf1
    clear hU hV e0 e1 e2 e3 e4 e5 e6 e7 f0 f1 f2 f3 f4 f5 f6 f7 hu hv h h' hs hs' hT hg hW0 hbt hf1
    go_enter Tryd.func3, Tryd.ntmps3
    go_wp2_with (first
      | (go_at_call 10; rw [HW0.out]; (with_reducible refine (HF1.out _ BR.out).mono ?_); rintro e w1 ⟨rfl, b1⟩; have B1 := Lib.hid (BR.out.trans (b1.mono BR.out.size)); clear b1; (try clear x0 x1 x2 x3 x4 x5 x6 x7 y0 y1 y2 y3 y4 y5 y6 y7); obtain ⟨x0, x1, x2, x3, x4, x5, x6, x7, y0, y1, y2, y3, y4, y5, y6, y7⟩ := HCe.out _ B1.out)
      | (go_at_call 11; (with_reducible refine (HAw.out _ (HBt.out _ B1.out)).mono ?_); rintro e w5 ⟨rfl, b5⟩; have B5 := Lib.hid (B1.out.trans (b5.mono B1.out.size)); clear b5; (try clear x0 x1 x2 x3 x4 x5 x6 x7 y0 y1 y2 y3 y4 y5 y6 y7); obtain ⟨x0, x1, x2, x3, x4, x5, x6, x7, y0, y1, y2, y3, y4, y5, y6, y7⟩ := HCe.out _ B5.out)
      | fail)
    go_ret
    exact ⟨rfl, HBt.out _ B5.out⟩
  case pos =>
  have HF1 : Hid (∀ W, Below W0.heap.size W0 W → Calls Tryd.prog 10 #[.agg #[.slice a0 n0 c0, .slice a1 n1 c1, .slice a2 n2 c2, .slice a3 n3 c3, .slice a4 n4 c4, .slice a5 n5 c5, .slice a6 n6 c6, .slice a7 n7 c7]] W fun e w' => e = .returned (.bool true) ∧ Below W.heap.size W w') := fun W hb => by
    rw [← hU]
    exact few17_true (h.below (hbt W hb)) hs hf1
  by_cases hf2 : ∀ k < 8, okP15 (q k)
  case neg =>
    have HF2 : Hid (∀ W, Below W0.heap.size W0 W → Calls Tryd.prog 10 #[.agg #[.slice b0 m0 d0, .slice b1 m1 d1, .slice b2 m2 d2, .slice b3 m3 d3, .slice b4 m4 d4, .slice b5 m5 d5, .slice b6 m6 d6, .slice b7 m7 d7]] W fun e w' => e = .returned (.bool false) ∧ Below W.heap.size W w') := fun W hb => by
      rw [← hV]
      exact few17_false (h'.below (hbt W hb)) hs' hf2
    clear hU hV e0 e1 e2 e3 e4 e5 e6 e7 f0 f1 f2 f3 f4 f5 f6 f7 hu hv h h' hs hs' hT hg hW0 hbt hf1 hf2
    go_enter Tryd.func3, Tryd.ntmps3
    go_wp2_with (first
      | (go_at_call 10; rw [HW0.out]; (with_reducible refine (HF1.out _ BR.out).mono ?_); rintro e w1 ⟨rfl, b1⟩; have B1 := Lib.hid (BR.out.trans (b1.mono BR.out.size)); clear b1; (try clear x0 x1 x2 x3 x4 x5 x6 x7 y0 y1 y2 y3 y4 y5 y6 y7); obtain ⟨x0, x1, x2, x3, x4, x5, x6, x7, y0, y1, y2, y3, y4, y5, y6, y7⟩ := HCe.out _ B1.out)
      | (go_at_call 10; (with_reducible refine (HF2.out _ B1.out).mono ?_); rintro e w2 ⟨rfl, b2⟩; have B2 := Lib.hid (B1.out.trans (b2.mono B1.out.size)); clear b2; (try clear x0 x1 x2 x3 x4 x5 x6 x7 y0 y1 y2 y3 y4 y5 y6 y7); obtain ⟨x0, x1, x2, x3, x4, x5, x6, x7, y0, y1, y2, y3, y4, y5, y6, y7⟩ := HCe.out _ B2.out)
      | (go_at_call 11; (with_reducible refine (HAw.out _ (HBt.out _ B2.out)).mono ?_); rintro e w5 ⟨rfl, b5⟩; have B5 := Lib.hid (B2.out.trans (b5.mono B2.out.size)); clear b5; (try clear x0 x1 x2 x3 x4 x5 x6 x7 y0 y1 y2 y3 y4 y5 y6 y7); obtain ⟨x0, x1, x2, x3, x4, x5, x6, x7, y0, y1, y2, y3, y4, y5, y6, y7⟩ := HCe.out _ B5.out)
      | fail)
    go_ret
    exact ⟨rfl, HBt.out _ B5.out⟩
  case pos =>
  have HF2 : Hid (∀ W, Below W0.heap.size W0 W → Calls Tryd.prog 10 #[.agg #[.slice b0 m0 d0, .slice b1 m1 d1, .slice b2 m2 d2, .slice b3 m3 d3, .slice b4 m4 d4, .slice b5 m5 d5, .slice b6 m6 d6, .slice b7 m7 d7]] W fun e w' => e = .returned (.bool true) ∧ Below W.heap.size W w') := fun W hb => by
    rw [← hV]
    exact few17_true (h'.below (hbt W hb)) hs' hf2
  have hl : ∀ k < 8, (p k).length ≤ 1000 := fun k hk => Nat.le_trans (hf1 k hk).1 (by omega)
  have hl' : ∀ k < 8, (q k).length ≤ 1000 := fun k hk => Nat.le_trans (hf2 k hk).1 (by omega)
  have hz : ∀ k < 8, ∀ x ∈ p k, x.length ≤ 1000 := fun k hk x hx => Nat.le_trans ((hf1 k hk).2 x hx) (by omega)
  have hz' : ∀ k < 8, ∀ x ∈ q k, x.length ≤ 1000 := fun k hk x hx => Nat.le_trans ((hf2 k hk).2 x hx) (by omega)
  have hA1 : ∀ W, Below W0.heap.size W0 W → ∀ k < 8, TextsAt W (u k) ((p k).map bs) := fun W hb k hk => (h.at_ k hk).below (hbt W hb)
  have hA2 : ∀ W, Below W0.heap.size W0 W → ∀ k < 8, TextsAt W (v k) ((q k).map bs) := fun W hb k hk => (h'.at_ k hk).below (hbt W hb)
  have hle : badAt (fun k => (chAt p q k).2) ≤ 8 := badAt_le _
  have hCh := fun W (hb : Below W0.heap.size W0 W) => chChoose_any (hT.below (hbt W hb)) (hA1 W hb) (hA2 W hb) hl hl' hz hz'
  have hRc := fun W (hb : Below W0.heap.size W0 W) => r17Choose_any (hA1 W hb) (hA2 W hb) hl hl'
  have hCn := fun W (hb : Below W0.heap.size W0 W) => chCan_any (hT.below (hbt W hb)) (hA1 W hb) (hA2 W hb) hl hl' hz hz'
  have HGs : Hid (∀ W, Below W0.heap.size W0 W → Calls Tryd.prog 15 #[.agg #[.slice a0 n0 c0, .slice a1 n1 c1, .slice a2 n2 c2, .slice a3 n3 c3, .slice a4 n4 c4, .slice a5 n5 c5, .slice a6 n6 c6, .slice a7 n7 c7], .agg #[.slice b0 m0 d0, .slice b1 m1 d1, .slice b2 m2 d2, .slice b3 m3 d3, .slice b4 m4 d4, .slice b5 m5 d5, .slice b6 m6 d6, .slice b7 m7 d7]] W fun e w' => e = .returned (.bool (guessB p q)) ∧ Below W.heap.size W w') := fun W hb => by
    rw [← hU, ← hV]
    exact chGuess_any (hA1 W hb) (hA2 W hb) hl hl'
  have HRg : Hid (∀ W, Below W0.heap.size W0 W → Calls Tryd.prog 16 #[.agg #[.slice a0 n0 c0, .slice a1 n1 c1, .slice a2 n2 c2, .slice a3 n3 c3, .slice a4 n4 c4, .slice a5 n5 c5, .slice a6 n6 c6, .slice a7 n7 c7], .agg #[.slice b0 m0 d0, .slice b1 m1 d1, .slice b2 m2 d2, .slice b3 m3 d3, .slice b4 m4 d4, .slice b5 m5 d5, .slice b6 m6 d6, .slice b7 m7 d7]] W fun e w' => e = .returned (.bool (guessB p q)) ∧ Below W.heap.size W w') := fun W hb => by
    rw [← hU, ← hV]
    exact r17Guess_any (hA1 W hb) (hA2 W hb) hl hl'
  rw [hU, hV] at hCh hRc hCn
  have HWd : Hid (∀ (m : Nat) (W : World), Calls Tryd.prog 18 #[.int .i64 (m : Int)] W fun e w' => e = .returned (.string (bs (wordZ m))) ∧ Below W.heap.size W w') := fun m W => r15Word_any _ W
  have HWr : Hid (∀ (m : Nat), m < 8 → ∀ (W : World) (t : TypeId) (v : Value), Below W0.heap.size W0 W → ErrAt W (.iface t v) [chooseS, bs (wordZ m)] (some 10) → Calls Tryd.prog 17 #[.iface t v, .agg #[.int .i64 10, .string (⟨#[99, 104, 111, 111, 115, 101, 32]⟩ ++ bs (wordZ m) ++ ⟨#[32]⟩)]] W fun r w' => r = .returned (.bool true) ∧ Below W.heap.size W w') := fun m hm W t v hb he => by
    have := wrong_any (hg.later (hbt W hb)) he (by simp) (fun x hx => by
      simp only [List.mem_cons, List.not_mem_nil, or_false] at hx
      rcases hx with rfl | rfl
      · decide
      · exact word_small17 hm)
    rw [atTwo17_is] at this
    exact this
  clear hU hV e0 e1 e2 e3 e4 e5 e6 e7 f0 f1 f2 f3 f4 f5 f6 f7 hu hv h h' hs hs' hT hg hW0 hbt hf1 hf2 hl hl' hz hz' hA1 hA2
  generalize guessB p q = G at *
  have qG : (G == G) = true := by simp
  have qG2 : (G != G) = false := by simp
  generalize badAt (fun k => (chAt p q k).2) = J at *
  rcases Nat.lt_or_eq_of_le hle with hj | rfl
  · have HCh : Hid (∀ W, Below W0.heap.size W0 W → Calls Tryd.prog 12 #[.agg #[.slice a0 n0 c0, .slice a1 n1 c1, .slice a2 n2 c2, .slice a3 n3 c3, .slice a4 n4 c4, .slice a5 n5 c5, .slice a6 n6 c6, .slice a7 n7 c7], .agg #[.slice b0 m0 d0, .slice b1 m1 d1, .slice b2 m2 d2, .slice b3 m3 d3, .slice b4 m4 d4, .slice b5 m5 d5, .slice b6 m6 d6, .slice b7 m7 d7]] W fun e w' => ∃ t x, e = .returned (.tuple #[.agg #[.string ⟨#[]⟩, .string ⟨#[]⟩, .string ⟨#[]⟩, .string ⟨#[]⟩, .string ⟨#[]⟩, .string ⟨#[]⟩, .string ⟨#[]⟩, .string ⟨#[]⟩], .iface t x]) ∧ ErrAt w' (.iface t x) [chooseS, bs (wordZ J)] (some 10) ∧ Below W.heap.size W w') := fun W hb => (hCh W hb).mono fun e w' ⟨_, h2, h3⟩ => by
      obtain ⟨t, x, h4, h5⟩ := h2 hj
      exact ⟨t, x, h4, h5, h3⟩
    have HRc : Hid (∀ W, Below W0.heap.size W0 W → Calls Tryd.prog 13 #[.agg #[.slice a0 n0 c0, .slice a1 n1 c1, .slice a2 n2 c2, .slice a3 n3 c3, .slice a4 n4 c4, .slice a5 n5 c5, .slice a6 n6 c6, .slice a7 n7 c7], .agg #[.slice b0 m0 d0, .slice b1 m1 d1, .slice b2 m2 d2, .slice b3 m3 d3, .slice b4 m4 d4, .slice b5 m5 d5, .slice b6 m6 d6, .slice b7 m7 d7]] W fun e w' => ∃ x, e = .returned (.tuple #[x, .int .i64 (J : Int)]) ∧ Below W.heap.size W w') := fun W hb => (hRc W hb).mono fun e w' ⟨x, h1, _, h3⟩ => ⟨x, h1, h3⟩
    have HCn : Hid (∀ W, Below W0.heap.size W0 W → Calls Tryd.prog 14 #[.agg #[.slice a0 n0 c0, .slice a1 n1 c1, .slice a2 n2 c2, .slice a3 n3 c3, .slice a4 n4 c4, .slice a5 n5 c5, .slice a6 n6 c6, .slice a7 n7 c7], .agg #[.slice b0 m0 d0, .slice b1 m1 d1, .slice b2 m2 d2, .slice b3 m3 d3, .slice b4 m4 d4, .slice b5 m5 d5, .slice b6 m6 d6, .slice b7 m7 d7]] W fun e w' => e = .returned (.bool false) ∧ Below W.heap.size W w') := fun W hb => (hCn W hb).mono fun e w' ⟨h1, h2⟩ => by
      rw [decide_eq_false (by omega)] at h1
      exact ⟨h1, h2⟩
    have HWd2 := Lib.hid (HWd.out J)
    have HWr2 := Lib.hid (HWr.out J hj)
    have hS := word_small17 hj
    have qJ : ((J : Int) == 8) = false := by rw [beq_eq_false_iff_ne]; omega
    have qJ2 : decide ((J : Int) < 8) = true := decide_eq_true (by omega)
    have hJ0 : (0 : Int) ≤ (J : Int) := by omega
    have hJ8 : (J : Int) < 8 := by omega
    clear hCh hRc hCn HWd HWr hle hj
    generalize bs (wordZ J) = S at *
    have hS2 : ((⟨#[99, 104, 111, 111, 115, 101, 32]⟩ : ByteArray) ++ S).size ≤ 2000 := by
      rw [ByteArray.size_append]
      have : (⟨#[99, 104, 111, 111, 115, 101, 32]⟩ : ByteArray).size = 7 := rfl
      omega
    generalize (J : Int) = JZ at *
    go_enter Tryd.func3, Tryd.ntmps3
    go_wp2_with (first
      | (go_at_call 10; rw [HW0.out]; (with_reducible refine (HF1.out _ BR.out).mono ?_); rintro e w1 ⟨rfl, b1⟩; have B1 := Lib.hid (BR.out.trans (b1.mono BR.out.size)); clear b1; (try clear x0 x1 x2 x3 x4 x5 x6 x7 y0 y1 y2 y3 y4 y5 y6 y7); obtain ⟨x0, x1, x2, x3, x4, x5, x6, x7, y0, y1, y2, y3, y4, y5, y6, y7⟩ := HCe.out _ B1.out)
      | (go_at_call 10; (with_reducible refine (HF2.out _ B1.out).mono ?_); rintro e w2 ⟨rfl, b2⟩; have B2 := Lib.hid (B1.out.trans (b2.mono B1.out.size)); clear b2; (try clear x0 x1 x2 x3 x4 x5 x6 x7 y0 y1 y2 y3 y4 y5 y6 y7); obtain ⟨x0, x1, x2, x3, x4, x5, x6, x7, y0, y1, y2, y3, y4, y5, y6, y7⟩ := HCe.out _ B2.out)
      | (go_at_call 12; (with_reducible refine (HCh.out _ B2.out).mono ?_); rintro e w3 ⟨t, x, rfl, he3, b3⟩; have R3 : Hid (Below w3.heap.size w3 (w3.alloc (.cells #[.string ⟨#[]⟩, .string ⟨#[]⟩, .string ⟨#[]⟩, .string ⟨#[]⟩, .string ⟨#[]⟩, .string ⟨#[]⟩, .string ⟨#[]⟩, .string ⟨#[]⟩] 28))) := (Below.refl _ _).alloc (Nat.le_refl _) _; have B3 := Lib.hid ((B2.out.trans (b3.mono B2.out.size)).alloc (B2.out.trans (b3.mono B2.out.size)).size (.cells #[.string ⟨#[]⟩, .string ⟨#[]⟩, .string ⟨#[]⟩, .string ⟨#[]⟩, .string ⟨#[]⟩, .string ⟨#[]⟩, .string ⟨#[]⟩, .string ⟨#[]⟩] 28)); have HE3 := Lib.hid he3; have T3 : Hid (Below (w3.alloc (.cells #[.string ⟨#[]⟩, .string ⟨#[]⟩, .string ⟨#[]⟩, .string ⟨#[]⟩, .string ⟨#[]⟩, .string ⟨#[]⟩, .string ⟨#[]⟩, .string ⟨#[]⟩] 28)).heap.size (w3.alloc (.cells #[.string ⟨#[]⟩, .string ⟨#[]⟩, .string ⟨#[]⟩, .string ⟨#[]⟩, .string ⟨#[]⟩, .string ⟨#[]⟩, .string ⟨#[]⟩, .string ⟨#[]⟩] 28)) (w3.alloc (.cells #[.string ⟨#[]⟩, .string ⟨#[]⟩, .string ⟨#[]⟩, .string ⟨#[]⟩, .string ⟨#[]⟩, .string ⟨#[]⟩, .string ⟨#[]⟩, .string ⟨#[]⟩] 28))) := Below.refl _ _; have HZ3 := Lib.hid (ch_box (w := w3) (cs := #[.string ⟨#[]⟩, .string ⟨#[]⟩, .string ⟨#[]⟩, .string ⟨#[]⟩, .string ⟨#[]⟩, .string ⟨#[]⟩, .string ⟨#[]⟩, .string ⟨#[]⟩])); clear b3 he3; (try clear x0 x1 x2 x3 x4 x5 x6 x7 y0 y1 y2 y3 y4 y5 y6 y7); obtain ⟨x0, x1, x2, x3, x4, x5, x6, x7, y0, y1, y2, y3, y4, y5, y6, y7⟩ := HCe.out _ B3.out)
      | (go_at_call 13; (with_reducible refine (HRc.out _ B3.out).mono ?_); rintro e w4 ⟨y, rfl, b4⟩; have B4 := Lib.hid (B3.out.trans (b4.mono B3.out.size)); have R4 := Lib.hid (R3.out.trans (b4.mono R3.out.size)); have T4 := Lib.hid (T3.out.trans (b4.mono T3.out.size)); clear b4; (try clear x0 x1 x2 x3 x4 x5 x6 x7 y0 y1 y2 y3 y4 y5 y6 y7); obtain ⟨x0, x1, x2, x3, x4, x5, x6, x7, y0, y1, y2, y3, y4, y5, y6, y7⟩ := HCe.out _ B4.out)
      | fail)
    have D4 : Hid (Below W0.heap.size W0 w4.drew) := B4.out.drew
    have Q4 : Hid (Below w3.heap.size w3 w4.drew) := R4.out.drew
    have U4 : Hid (Below (w3.alloc (.cells #[.string ⟨#[]⟩, .string ⟨#[]⟩, .string ⟨#[]⟩, .string ⟨#[]⟩, .string ⟨#[]⟩, .string ⟨#[]⟩, .string ⟨#[]⟩, .string ⟨#[]⟩] 28)).heap.size (w3.alloc (.cells #[.string ⟨#[]⟩, .string ⟨#[]⟩, .string ⟨#[]⟩, .string ⟨#[]⟩, .string ⟨#[]⟩, .string ⟨#[]⟩, .string ⟨#[]⟩, .string ⟨#[]⟩] 28)) w4.drew) := T4.out.drew
    (try clear x0 x1 x2 x3 x4 x5 x6 x7 y0 y1 y2 y3 y4 y5 y6 y7); obtain ⟨x0, x1, x2, x3, x4, x5, x6, x7, y0, y1, y2, y3, y4, y5, y6, y7⟩ := HCe.out _ D4.out
    go_region_held3 (fun w' => w'.cell? ⟨w.heap.size, 0, none⟩ = some (.slice a0 n0 c0) ∧ w'.cell? ⟨w.heap.size, 1, none⟩ = some (.slice a1 n1 c1) ∧ w'.cell? ⟨w.heap.size, 2, none⟩ = some (.slice a2 n2 c2) ∧ w'.cell? ⟨w.heap.size, 3, none⟩ = some (.slice a3 n3 c3) ∧ w'.cell? ⟨w.heap.size, 4, none⟩ = some (.slice a4 n4 c4) ∧ w'.cell? ⟨w.heap.size, 5, none⟩ = some (.slice a5 n5 c5) ∧ w'.cell? ⟨w.heap.size, 6, none⟩ = some (.slice a6 n6 c6) ∧ w'.cell? ⟨w.heap.size, 7, none⟩ = some (.slice a7 n7 c7) ∧ w'.cell? ⟨w.heap.size + 1, 0, none⟩ = some (.slice b0 m0 d0) ∧ w'.cell? ⟨w.heap.size + 1, 1, none⟩ = some (.slice b1 m1 d1) ∧ w'.cell? ⟨w.heap.size + 1, 2, none⟩ = some (.slice b2 m2 d2) ∧ w'.cell? ⟨w.heap.size + 1, 3, none⟩ = some (.slice b3 m3 d3) ∧ w'.cell? ⟨w.heap.size + 1, 4, none⟩ = some (.slice b4 m4 d4) ∧ w'.cell? ⟨w.heap.size + 1, 5, none⟩ = some (.slice b5 m5 d5) ∧ w'.cell? ⟨w.heap.size + 1, 6, none⟩ = some (.slice b6 m6 d6) ∧ w'.cell? ⟨w.heap.size + 1, 7, none⟩ = some (.slice b7 m7 d7))
      (first | with_reducible exact HCe.out _ D4.out | with_reducible exact HCe.out _ B5.out | with_reducible exact HCe.out _ B6.out | with_reducible exact HCe.out _ B7.out | go_keep)
      (first
        | (go_at_call 14; (with_reducible refine (HCn.out _ D4.out).mono ?_); rintro e w5 ⟨rfl, b5⟩; have B5 := Lib.hid (D4.out.trans (b5.mono D4.out.size)); have R5 := Lib.hid (Q4.out.trans (b5.mono Q4.out.size)); have T5 := Lib.hid (U4.out.trans (b5.mono U4.out.size)); clear b5; (try clear x0 x1 x2 x3 x4 x5 x6 x7 y0 y1 y2 y3 y4 y5 y6 y7); obtain ⟨x0, x1, x2, x3, x4, x5, x6, x7, y0, y1, y2, y3, y4, y5, y6, y7⟩ := HCe.out _ B5.out)
        | (go_at_call 15; (with_reducible refine (HGs.out _ B5.out).mono ?_); rintro e w6 ⟨rfl, b6⟩; have B6 := Lib.hid (B5.out.trans (b6.mono B5.out.size)); have R6 := Lib.hid (R5.out.trans (b6.mono R5.out.size)); have T6 := Lib.hid (T5.out.trans (b6.mono T5.out.size)); clear b6; (try clear x0 x1 x2 x3 x4 x5 x6 x7 y0 y1 y2 y3 y4 y5 y6 y7); obtain ⟨x0, x1, x2, x3, x4, x5, x6, x7, y0, y1, y2, y3, y4, y5, y6, y7⟩ := HCe.out _ B6.out)
        | (go_at_call 16; (with_reducible refine (HRg.out _ B6.out).mono ?_); rintro e w7 ⟨rfl, b7⟩; have B7 := Lib.hid (B6.out.trans (b7.mono B6.out.size)); have R7 := Lib.hid (R6.out.trans (b7.mono R6.out.size)); have T7 := Lib.hid (T6.out.trans (b7.mono T6.out.size)); clear b7; (try clear x0 x1 x2 x3 x4 x5 x6 x7 y0 y1 y2 y3 y4 y5 y6 y7); obtain ⟨x0, x1, x2, x3, x4, x5, x6, x7, y0, y1, y2, y3, y4, y5, y6, y7⟩ := HCe.out _ B7.out)
        | fail)
    all_goals
      clear HCe
      (try clear x0 x1 x2 x3 x4 x5 x6 x7 y0 y1 y2 y3 y4 y5 y6 y7)
      go_wp2_with (first
        | (go_at_call 11; (with_reducible refine (HAw.out _ (HBt.out _ B7.out)).mono ?_); rintro e w8 ⟨rfl, b8⟩; have B8 := Lib.hid (B7.out.trans (b8.mono B7.out.size)); have R8 := Lib.hid (R7.out.trans (b8.mono R7.out.size)); have T8 := Lib.hid (T7.out.trans (b8.mono T7.out.size)); clear b8)
        | (go_at_call 18; (with_reducible refine (HWd2.out _).mono ?_); rintro e w9 ⟨rfl, b9⟩; have B9 := Lib.hid (B8.out.trans (b9.mono B8.out.size)); have R9 := Lib.hid (R8.out.trans (b9.mono R8.out.size)); have T9 := Lib.hid (T8.out.trans (b9.mono T8.out.size)); clear b9)
        | (go_at_call 17; (with_reducible refine (HWr2.out _ _ _ B9.out (HE3.out.later R9.out)).mono ?_); rintro e w10 ⟨rfl, b10⟩; have B10 := Lib.hid (B9.out.trans (b10.mono B9.out.size)); have T10 := Lib.hid (T9.out.trans (b10.mono T9.out.size)); obtain ⟨z0, z1, z2, z3, z4, z5, z6, z7⟩ := HZ3.out _ T10.out; clear b10)
        | fail)
      go_ret
      exact ⟨rfl, HBt.out _ B10.out⟩
  · have HCh : Hid (∀ W, Below W0.heap.size W0 W → Calls Tryd.prog 12 #[.agg #[.slice a0 n0 c0, .slice a1 n1 c1, .slice a2 n2 c2, .slice a3 n3 c3, .slice a4 n4 c4, .slice a5 n5 c5, .slice a6 n6 c6, .slice a7 n7 c7], .agg #[.slice b0 m0 d0, .slice b1 m1 d1, .slice b2 m2 d2, .slice b3 m3 d3, .slice b4 m4 d4, .slice b5 m5 d5, .slice b6 m6 d6, .slice b7 m7 d7]] W fun e w' => e = .returned (.tuple #[.agg #[.string (chAt p q 0).1, .string (chAt p q 1).1, .string (chAt p q 2).1, .string (chAt p q 3).1, .string (chAt p q 4).1, .string (chAt p q 5).1, .string (chAt p q 6).1, .string (chAt p q 7).1], .nilIface]) ∧ Below W.heap.size W w') := fun W hb => (hCh W hb).mono fun e w' ⟨h1, _, h3⟩ => ⟨h1 rfl, h3⟩
    have HRc : Hid (∀ W, Below W0.heap.size W0 W → Calls Tryd.prog 13 #[.agg #[.slice a0 n0 c0, .slice a1 n1 c1, .slice a2 n2 c2, .slice a3 n3 c3, .slice a4 n4 c4, .slice a5 n5 c5, .slice a6 n6 c6, .slice a7 n7 c7], .agg #[.slice b0 m0 d0, .slice b1 m1 d1, .slice b2 m2 d2, .slice b3 m3 d3, .slice b4 m4 d4, .slice b5 m5 d5, .slice b6 m6 d6, .slice b7 m7 d7]] W fun e w' => ∃ x, e = .returned (.tuple #[x, .int .i64 8]) ∧ TextsAt w' x (list8S fun k => (chAt p q k).1) ∧ Below W.heap.size W w') := fun W hb => (hRc W hb).mono fun e w' ⟨x, h1, h2, h3⟩ => ⟨x, h1, h2 rfl, h3⟩
    have HCn : Hid (∀ W, Below W0.heap.size W0 W → Calls Tryd.prog 14 #[.agg #[.slice a0 n0 c0, .slice a1 n1 c1, .slice a2 n2 c2, .slice a3 n3 c3, .slice a4 n4 c4, .slice a5 n5 c5, .slice a6 n6 c6, .slice a7 n7 c7], .agg #[.slice b0 m0 d0, .slice b1 m1 d1, .slice b2 m2 d2, .slice b3 m3 d3, .slice b4 m4 d4, .slice b5 m5 d5, .slice b6 m6 d6, .slice b7 m7 d7]] W fun e w' => e = .returned (.bool true) ∧ Below W.heap.size W w') := fun W hb => (hCn W hb).mono fun e w' ⟨h1, h2⟩ => by
      rw [decide_eq_true (by rfl)] at h1
      exact ⟨h1, h2⟩
    have HOf : Hid (∀ (W : World) (x : Value), TextsAt W x (list8S fun k => (chAt p q k).1) → Calls Tryd.prog 19 #[x] W fun e w' => e = .returned (.agg #[.string (chAt p q 0).1, .string (chAt p q 1).1, .string (chAt p q 2).1, .string (chAt p q 3).1, .string (chAt p q 4).1, .string (chAt p q 5).1, .string (chAt p q 6).1, .string (chAt p q 7).1]) ∧ Below W.heap.size W w') := fun W x hx => r17Of_any hx
    have HLi : Hid (∀ W : World, Calls Tryd.prog 21 #[.agg #[.string (chAt p q 0).1, .string (chAt p q 1).1, .string (chAt p q 2).1, .string (chAt p q 3).1, .string (chAt p q 4).1, .string (chAt p q 5).1, .string (chAt p q 6).1, .string (chAt p q 7).1]] W fun e w' => ∃ b, e = .returned (.slice (some ⟨b, 0, none⟩) 8 8) ∧ TextsAt w' (.slice (some ⟨b, 0, none⟩) 8 8) (list8S fun k => (chAt p q k).1) ∧ Below W.heap.size W w') := fun W => (chLists_any (fun k => (chAt p q k).1) W).mono fun e w' ⟨h1, h2, h3⟩ => ⟨_, h1, h2, h3⟩
    have HSm : Hid (∀ (W : World) (a b : Value), TextsAt W a (list8S fun k => (chAt p q k).1) → TextsAt W b (list8S fun k => (chAt p q k).1) → Calls Tryd.prog 20 #[a, b] W fun e w' => e = .returned (.bool true) ∧ Below W.heap.size W w') := fun W a b ha hb => by
      have := same_any ha hb (by show 8 ≤ maxLen; unfold maxLen; omega)
      rw [decide_eq_true (by rfl)] at this
      exact this
    clear hCh hRc hCn HWd HWr hle
    generalize (list8S fun k => (chAt p q k).1) = L at *
    generalize (chAt p q 0).1 = F0 at *
    generalize (chAt p q 1).1 = F1 at *
    generalize (chAt p q 2).1 = F2 at *
    generalize (chAt p q 3).1 = F3 at *
    generalize (chAt p q 4).1 = F4 at *
    generalize (chAt p q 5).1 = F5 at *
    generalize (chAt p q 6).1 = F6 at *
    generalize (chAt p q 7).1 = F7 at *
    have q0 : (F0.toList == F0.toList) = true := by simp
    have q1 : (F1.toList == F1.toList) = true := by simp
    have q2 : (F2.toList == F2.toList) = true := by simp
    have q3 : (F3.toList == F3.toList) = true := by simp
    have q4 : (F4.toList == F4.toList) = true := by simp
    have q5 : (F5.toList == F5.toList) = true := by simp
    have q6 : (F6.toList == F6.toList) = true := by simp
    have q7 : (F7.toList == F7.toList) = true := by simp
    go_enter Tryd.func3, Tryd.ntmps3
    go_wp2_with (first
      | (go_at_call 10; rw [HW0.out]; (with_reducible refine (HF1.out _ BR.out).mono ?_); rintro e w1 ⟨rfl, b1⟩; have B1 := Lib.hid (BR.out.trans (b1.mono BR.out.size)); clear b1; (try clear x0 x1 x2 x3 x4 x5 x6 x7 y0 y1 y2 y3 y4 y5 y6 y7); obtain ⟨x0, x1, x2, x3, x4, x5, x6, x7, y0, y1, y2, y3, y4, y5, y6, y7⟩ := HCe.out _ B1.out)
      | (go_at_call 10; (with_reducible refine (HF2.out _ B1.out).mono ?_); rintro e w2 ⟨rfl, b2⟩; have B2 := Lib.hid (B1.out.trans (b2.mono B1.out.size)); clear b2; (try clear x0 x1 x2 x3 x4 x5 x6 x7 y0 y1 y2 y3 y4 y5 y6 y7); obtain ⟨x0, x1, x2, x3, x4, x5, x6, x7, y0, y1, y2, y3, y4, y5, y6, y7⟩ := HCe.out _ B2.out)
      | (go_at_call 12; (with_reducible refine (HCh.out _ B2.out).mono ?_); rintro e w3 ⟨rfl, b3⟩; have B3 := Lib.hid ((B2.out.trans (b3.mono B2.out.size)).alloc (B2.out.trans (b3.mono B2.out.size)).size (.cells #[.string F0, .string F1, .string F2, .string F3, .string F4, .string F5, .string F6, .string F7] 28)); have T3 : Hid (Below (w3.alloc (.cells #[.string F0, .string F1, .string F2, .string F3, .string F4, .string F5, .string F6, .string F7] 28)).heap.size (w3.alloc (.cells #[.string F0, .string F1, .string F2, .string F3, .string F4, .string F5, .string F6, .string F7] 28)) (w3.alloc (.cells #[.string F0, .string F1, .string F2, .string F3, .string F4, .string F5, .string F6, .string F7] 28))) := Below.refl _ _; have HZ3 := Lib.hid (ch_box (w := w3) (cs := #[.string F0, .string F1, .string F2, .string F3, .string F4, .string F5, .string F6, .string F7])); clear b3; (try clear x0 x1 x2 x3 x4 x5 x6 x7 y0 y1 y2 y3 y4 y5 y6 y7); obtain ⟨x0, x1, x2, x3, x4, x5, x6, x7, y0, y1, y2, y3, y4, y5, y6, y7⟩ := HCe.out _ B3.out)
      | (go_at_call 13; (with_reducible refine (HRc.out _ B3.out).mono ?_); rintro e w4 ⟨x, rfl, hx, b4⟩; have HX := Lib.hid hx; have B4 := Lib.hid (B3.out.trans (b4.mono B3.out.size)); have T4 := Lib.hid (T3.out.trans (b4.mono T3.out.size)); clear b4 hx; (try clear x0 x1 x2 x3 x4 x5 x6 x7 y0 y1 y2 y3 y4 y5 y6 y7); obtain ⟨x0, x1, x2, x3, x4, x5, x6, x7, y0, y1, y2, y3, y4, y5, y6, y7⟩ := HCe.out _ B4.out)
      | fail)
    have D4 : Hid (Below W0.heap.size W0 w4.drew) := B4.out.drew
    have Q4 : Hid (Below w4.heap.size w4 w4.drew) := (Below.refl _ _).drew
    have U4 : Hid (Below (w3.alloc (.cells #[.string F0, .string F1, .string F2, .string F3, .string F4, .string F5, .string F6, .string F7] 28)).heap.size (w3.alloc (.cells #[.string F0, .string F1, .string F2, .string F3, .string F4, .string F5, .string F6, .string F7] 28)) w4.drew) := T4.out.drew
    (try clear x0 x1 x2 x3 x4 x5 x6 x7 y0 y1 y2 y3 y4 y5 y6 y7); obtain ⟨x0, x1, x2, x3, x4, x5, x6, x7, y0, y1, y2, y3, y4, y5, y6, y7⟩ := HCe.out _ D4.out
    go_region_held3 (fun w' => w'.cell? ⟨w.heap.size, 0, none⟩ = some (.slice a0 n0 c0) ∧ w'.cell? ⟨w.heap.size, 1, none⟩ = some (.slice a1 n1 c1) ∧ w'.cell? ⟨w.heap.size, 2, none⟩ = some (.slice a2 n2 c2) ∧ w'.cell? ⟨w.heap.size, 3, none⟩ = some (.slice a3 n3 c3) ∧ w'.cell? ⟨w.heap.size, 4, none⟩ = some (.slice a4 n4 c4) ∧ w'.cell? ⟨w.heap.size, 5, none⟩ = some (.slice a5 n5 c5) ∧ w'.cell? ⟨w.heap.size, 6, none⟩ = some (.slice a6 n6 c6) ∧ w'.cell? ⟨w.heap.size, 7, none⟩ = some (.slice a7 n7 c7) ∧ w'.cell? ⟨w.heap.size + 1, 0, none⟩ = some (.slice b0 m0 d0) ∧ w'.cell? ⟨w.heap.size + 1, 1, none⟩ = some (.slice b1 m1 d1) ∧ w'.cell? ⟨w.heap.size + 1, 2, none⟩ = some (.slice b2 m2 d2) ∧ w'.cell? ⟨w.heap.size + 1, 3, none⟩ = some (.slice b3 m3 d3) ∧ w'.cell? ⟨w.heap.size + 1, 4, none⟩ = some (.slice b4 m4 d4) ∧ w'.cell? ⟨w.heap.size + 1, 5, none⟩ = some (.slice b5 m5 d5) ∧ w'.cell? ⟨w.heap.size + 1, 6, none⟩ = some (.slice b6 m6 d6) ∧ w'.cell? ⟨w.heap.size + 1, 7, none⟩ = some (.slice b7 m7 d7))
      (first | with_reducible exact HCe.out _ D4.out | with_reducible exact HCe.out _ B5.out | with_reducible exact HCe.out _ B6.out | with_reducible exact HCe.out _ B7.out | go_keep)
      (first
        | (go_at_call 14; (with_reducible refine (HCn.out _ D4.out).mono ?_); rintro e w5 ⟨rfl, b5⟩; have B5 := Lib.hid (D4.out.trans (b5.mono D4.out.size)); have R5 := Lib.hid (Q4.out.trans (b5.mono Q4.out.size)); have T5 := Lib.hid (U4.out.trans (b5.mono U4.out.size)); clear b5; (try clear x0 x1 x2 x3 x4 x5 x6 x7 y0 y1 y2 y3 y4 y5 y6 y7); obtain ⟨x0, x1, x2, x3, x4, x5, x6, x7, y0, y1, y2, y3, y4, y5, y6, y7⟩ := HCe.out _ B5.out)
        | (go_at_call 15; (with_reducible refine (HGs.out _ B5.out).mono ?_); rintro e w6 ⟨rfl, b6⟩; have B6 := Lib.hid (B5.out.trans (b6.mono B5.out.size)); have R6 := Lib.hid (R5.out.trans (b6.mono R5.out.size)); have T6 := Lib.hid (T5.out.trans (b6.mono T5.out.size)); clear b6; (try clear x0 x1 x2 x3 x4 x5 x6 x7 y0 y1 y2 y3 y4 y5 y6 y7); obtain ⟨x0, x1, x2, x3, x4, x5, x6, x7, y0, y1, y2, y3, y4, y5, y6, y7⟩ := HCe.out _ B6.out)
        | (go_at_call 16; (with_reducible refine (HRg.out _ B6.out).mono ?_); rintro e w7 ⟨rfl, b7⟩; have B7 := Lib.hid (B6.out.trans (b7.mono B6.out.size)); have R7 := Lib.hid (R6.out.trans (b7.mono R6.out.size)); have T7 := Lib.hid (T6.out.trans (b7.mono T6.out.size)); clear b7; (try clear x0 x1 x2 x3 x4 x5 x6 x7 y0 y1 y2 y3 y4 y5 y6 y7); obtain ⟨x0, x1, x2, x3, x4, x5, x6, x7, y0, y1, y2, y3, y4, y5, y6, y7⟩ := HCe.out _ B7.out)
        | fail)
    all_goals
      clear HCe
      (try clear x0 x1 x2 x3 x4 x5 x6 x7 y0 y1 y2 y3 y4 y5 y6 y7)
      have D7 : Hid (Below W0.heap.size W0 w7.drew) := B7.out.drew
      have U7 : Hid (Below (w3.alloc (.cells #[.string F0, .string F1, .string F2, .string F3, .string F4, .string F5, .string F6, .string F7] 28)).heap.size (w3.alloc (.cells #[.string F0, .string F1, .string F2, .string F3, .string F4, .string F5, .string F6, .string F7] 28)) w7.drew) := T7.out.drew
      have Q7 : Hid (Below w4.heap.size w4 w7.drew) := R7.out.drew
      have HZc : Hid (∀ W, Below (w3.alloc (.cells #[.string F0, .string F1, .string F2, .string F3, .string F4, .string F5, .string F6, .string F7] 28)).heap.size (w3.alloc (.cells #[.string F0, .string F1, .string F2, .string F3, .string F4, .string F5, .string F6, .string F7] 28)) W → W.cell? ⟨w3.heap.size, 0, none⟩ = some (.string F0) ∧ W.cell? ⟨w3.heap.size, 1, none⟩ = some (.string F1) ∧ W.cell? ⟨w3.heap.size, 2, none⟩ = some (.string F2) ∧ W.cell? ⟨w3.heap.size, 3, none⟩ = some (.string F3) ∧ W.cell? ⟨w3.heap.size, 4, none⟩ = some (.string F4) ∧ W.cell? ⟨w3.heap.size, 5, none⟩ = some (.string F5) ∧ W.cell? ⟨w3.heap.size, 6, none⟩ = some (.string F6) ∧ W.cell? ⟨w3.heap.size, 7, none⟩ = some (.string F7)) := HZ3.out
      have z7 := HZc.out _ U7.out
      go_wp2_with fail
      go_region_held3 (fun w' => w'.cell? ⟨w3.heap.size, 0, none⟩ = some (.string F0) ∧ w'.cell? ⟨w3.heap.size, 1, none⟩ = some (.string F1) ∧ w'.cell? ⟨w3.heap.size, 2, none⟩ = some (.string F2) ∧ w'.cell? ⟨w3.heap.size, 3, none⟩ = some (.string F3) ∧ w'.cell? ⟨w3.heap.size, 4, none⟩ = some (.string F4) ∧ w'.cell? ⟨w3.heap.size, 5, none⟩ = some (.string F5) ∧ w'.cell? ⟨w3.heap.size, 6, none⟩ = some (.string F6) ∧ w'.cell? ⟨w3.heap.size, 7, none⟩ = some (.string F7))
        (first | with_reducible exact z7 | with_reducible exact z8 | with_reducible exact z9 | with_reducible exact z10 | with_reducible exact z11 | go_keep)
        (first
          | (go_at_call 11; (with_reducible refine (HAw.out _ (HBt.out _ D7.out)).mono ?_); rintro e w8 ⟨rfl, b8⟩; have B8 := Lib.hid (D7.out.trans (b8.mono D7.out.size)); have R8 := Lib.hid (Q7.out.trans (b8.mono Q7.out.size)); have T8 := Lib.hid (U7.out.trans (b8.mono U7.out.size)); have z8 := HZc.out _ T8.out; clear b8)
          | (go_at_call 19; (with_reducible refine (HOf.out _ _ (HX.out.below R8.out)).mono ?_); rintro e w9 ⟨rfl, b9⟩; have B9 := Lib.hid (B8.out.trans (b9.mono B8.out.size)); have R9 := Lib.hid (R8.out.trans (b9.mono R8.out.size)); have T9 := Lib.hid (T8.out.trans (b9.mono T8.out.size)); have z9 := HZc.out _ T9.out; clear b9)
          | (go_at_call 21; (with_reducible refine (HLi.out _).mono ?_); rintro e w10 ⟨b, rfl, hL, b10⟩; have HL := Lib.hid hL; have B10 := Lib.hid (B9.out.trans (b10.mono B9.out.size)); have R10 := Lib.hid (R9.out.trans (b10.mono R9.out.size)); have T10 := Lib.hid (T9.out.trans (b10.mono T9.out.size)); have z10 := HZc.out _ T10.out; clear b10 hL)
          | (go_at_call 20; (with_reducible refine (HSm.out _ _ _ HL.out (HX.out.below R10.out)).mono ?_); rintro e w11 ⟨rfl, b11⟩; have B11 := Lib.hid (B10.out.trans (b11.mono B10.out.size)); have T11 := Lib.hid (T10.out.trans (b11.mono T10.out.size)); have z11 := HZc.out _ T11.out; clear b11)
          | fail)
      all_goals
        go_wp2_with fail
        go_ret
        exact ⟨rfl, HBt.out _ B11.out⟩
end Go.Proofs.YtihkhcocfhbekaaDoor
