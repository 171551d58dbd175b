/- Layer 17: the law ChooseBest. -/
import Derived.Test.YtihkhcocfhbekaaDoorCh3
import Derived.Test.YtihkhcocfhbekaaDoorCh6
import Derived.Test.YtihkhcocfhbekaaDoorPfV
import Derived.Deep.RegionHeld3
import Derived.LoopTactic
namespace Go.Proofs.YtihkhcocfhbekaaDoor
open Go.RowKit

theorem firstIn_spec {l o : List ByteArray} {x : ByteArray} (h : firstIn l o = (x, true)) : ∃ n, ∃ hn : n < l.length, l[n] = x ∧ x ∈ o ∧ ∀ j, (hj : j < n) → l[j]'(by omega) ∉ o := by
  unfold firstIn at h
  cases hf : l.find? fun x => decide (x ∈ o) with
  | none => rw [hf] at h; simp at h
  | some y =>
    rw [hf] at h
    simp only [Prod.mk.injEq, and_true] at h
    subst h
    rw [List.find?_eq_some_iff_append] at hf
    obtain ⟨hy, l1, l2, rfl, hno⟩ := hf
    refine ⟨l1.length, by simp, by simp, by simpa using hy, fun j hj => ?_⟩
    rw [List.getElem_append_left hj]
    have := hno _ (List.getElem_mem hj)
    simpa using this
theorem firstIn_mem {l o o' : List ByteArray} (h : ∀ x, x ∈ o ↔ x ∈ o') : firstIn l o = firstIn l o' := by
  unfold firstIn
  have : (fun x => decide (x ∈ o)) = fun x => decide (x ∈ o') := by
    funext x
    exact decide_eq_decide.2 (h x)
  rw [this]
/-- The lists, each turned round. -/
def turnP (q : Nat → List (List UInt8)) (k : Nat) : List (List UInt8) := (q k).reverse
theorem chAt_turn (p q : Nat → List (List UInt8)) (k : Nat) : chAt p (turnP q) k = chAt p q k := by
  unfold chAt turnP
  exact firstIn_mem fun x => by simp
theorem badAt_all8 {z : Nat → Bool} (h : badAt z = 8) : ∀ k < 8, z k = true := by
  intro k hk
  unfold badAt at h
  cases hf : (List.range 8).find? fun k => !z k with
  | none =>
    rw [List.find?_eq_none] at hf
    simpa using hf k (by simpa using hk)
  | some j =>
    have hj := List.mem_of_find?_eq_some hf
    rw [hf] at h
    simp only [List.mem_range] at hj
    have : j = 8 := h
    omega
theorem rev_take {l : List ByteArray} {j : Nat} (hj : j < l.length) : l.reverse.take (j + 1) = l.reverse.take j ++ [l[l.length - 1 - j]] := by
  rw [List.take_succ_eq_append_getElem (by simpa using hj), List.getElem_reverse]
theorem ch_box8 {w : World} {cs : Array Value} : ∀ W, Below (w.alloc (.cells cs 28)).heap.size (w.alloc (.cells cs 28)) W → W.cell? ⟨w.heap.size, 0, none⟩ = cs[0]? ∧ W.cell? ⟨w.heap.size, 1, none⟩ = cs[1]? ∧ W.cell? ⟨w.heap.size, 2, none⟩ = cs[2]? ∧ W.cell? ⟨w.heap.size, 3, none⟩ = cs[3]? ∧ W.cell? ⟨w.heap.size, 4, none⟩ = cs[4]? ∧ W.cell? ⟨w.heap.size, 5, none⟩ = cs[5]? ∧ W.cell? ⟨w.heap.size, 6, none⟩ = cs[6]? ∧ W.cell? ⟨w.heap.size, 7, none⟩ = cs[7]? := fun W hb => by
  have h := (Holds.new w 28 cs).moves (Moves.ofBelow (S := nobody) hb) (fun h => h)
  exact ⟨h.cell 0, h.cell 1, h.cell 2, h.cell 3, h.cell 4, h.cell 5, h.cell 6, h.cell 7⟩
theorem few17b_true {w : World} {u : Nat → Value} {p : Nat → List (List UInt8)} (h : Eight w u p) (hs : ∀ k < 8, ∀ x ∈ p k, x.length ≤ maxLen) (hf : ∀ k < 8, okP15 (p k)) :
    Calls Tryd.prog 10 #[agg8 u] w fun e w' => e = .returned (.bool true) ∧ Below w.heap.size w w' :=
  (few15_any h hs).mono (by
    rintro e w' ⟨z, rfl, hz, hb⟩
    rw [hz.2 hf]
    exact ⟨rfl, hb⟩)
theorem few17b_false {w : World} {u : Nat → Value} {p : Nat → List (List UInt8)} (h : Eight w u p) (hs : ∀ k < 8, ∀ x ∈ p k, x.length ≤ maxLen) (hf : ¬ ∀ k < 8, okP15 (p k)) :
    Calls Tryd.prog 10 #[agg8 u] w fun e w' => e = .returned (.bool false) ∧ Below w.heap.size w w' :=
  (few15_any h hs).mono (by
    rintro e w' ⟨z, rfl, hz, hb⟩
    have : z = false := by
      cases z with
      | false => rfl
      | true => exact absurd (hz.1 rfl) hf
    rw [this]
    exact ⟨rfl, hb⟩)

set_option maxHeartbeats 4000000 in
set_option maxRecDepth 100000 in
theorem ChooseBest_any {w : World} (hT : Tab15 w) {u v : Nat → Value} {p q : Nat → List (List UInt8)} (h : Eight w u p) (h' : Eight w v q) (hs : ∀ k < 8, ∀ x ∈ p k, x.length ≤ maxLen) (hs' : ∀ k < 8, ∀ x ∈ q k, x.length ≤ maxLen) :
    Calls Tryd.prog 4 #[agg8 u, agg8 v] w fun e w' => e = .returned (.bool true) ∧ Below w.heap.size w w' := by
  have hu := h.sl
  have hv := h'.sl
  obtain ⟨a0, n0, c0, e0⟩ := hu 0 (by omega)
  obtain ⟨a1, n1, c1, e1⟩ := hu 1 (by omega)
  obtain ⟨a2, n2, c2, e2⟩ := hu 2 (by omega)
  obtain ⟨a3, n3, c3, e3⟩ := hu 3 (by omega)
  obtain ⟨a4, n4, c4, e4⟩ := hu 4 (by omega)
  obtain ⟨a5, n5, c5, e5⟩ := hu 5 (by omega)
  obtain ⟨a6, n6, c6, e6⟩ := hu 6 (by omega)
  obtain ⟨a7, n7, c7, e7⟩ := hu 7 (by omega)
  obtain ⟨b0, m0, d0, f0⟩ := hv 0 (by omega)
  obtain ⟨b1, m1, d1, f1⟩ := hv 1 (by omega)
  obtain ⟨b2, m2, d2, f2⟩ := hv 2 (by omega)
  obtain ⟨b3, m3, d3, f3⟩ := hv 3 (by omega)
  obtain ⟨b4, m4, d4, f4⟩ := hv 4 (by omega)
  obtain ⟨b5, m5, d5, f5⟩ := hv 5 (by omega)
  obtain ⟨b6, m6, d6, f6⟩ := hv 6 (by omega)
  obtain ⟨b7, m7, d7, f7⟩ := hv 7 (by omega)
  have hU : agg8 u = .agg #[.slice a0 n0 c0, .slice a1 n1 c1, .slice a2 n2 c2, .slice a3 n3 c3, .slice a4 n4 c4, .slice a5 n5 c5, .slice a6 n6 c6, .slice a7 n7 c7] := by unfold agg8; rw [e0, e1, e2, e3, e4, e5, e6, e7]
  have hV : agg8 v = .agg #[.slice b0 m0 d0, .slice b1 m1 d1, .slice b2 m2 d2, .slice b3 m3 d3, .slice b4 m4 d4, .slice b5 m5 d5, .slice b6 m6 d6, .slice b7 m7 d7] := by unfold agg8; rw [f0, f1, f2, f3, f4, f5, f6, f7]
  have HBX := Lib.hid (two_boxes (w := w) (A := #[.slice a0 n0 c0, .slice a1 n1 c1, .slice a2 n2 c2, .slice a3 n3 c3, .slice a4 n4 c4, .slice a5 n5 c5, .slice a6 n6 c6, .slice a7 n7 c7]) (B := #[.slice b0 m0 d0, .slice b1 m1 d1, .slice b2 m2 d2, .slice b3 m3 d3, .slice b4 m4 d4, .slice b5 m5 d5, .slice b6 m6 d6, .slice b7 m7 d7]) (t := 24))
  have HB0 := Lib.hid (two_below (w := w) (A := #[.slice a0 n0 c0, .slice a1 n1 c1, .slice a2 n2 c2, .slice a3 n3 c3, .slice a4 n4 c4, .slice a5 n5 c5, .slice a6 n6 c6, .slice a7 n7 c7]) (B := #[.slice b0 m0 d0, .slice b1 m1 d1, .slice b2 m2 d2, .slice b3 m3 d3, .slice b4 m4 d4, .slice b5 m5 d5, .slice b6 m6 d6, .slice b7 m7 d7]) (t := 24))
  have HAw : Hid (∀ W, Below w.heap.size w W → Calls Tryd.prog 11 #[] W fun e w' => e = .returned (.bool true) ∧ Below W.heap.size W w') := fun W hb => awake17_any (hT.below hb)
  obtain ⟨W0, hW0⟩ : ∃ W0, W0 = (w.alloc (.cells #[.slice a0 n0 c0, .slice a1 n1 c1, .slice a2 n2 c2, .slice a3 n3 c3, .slice a4 n4 c4, .slice a5 n5 c5, .slice a6 n6 c6, .slice a7 n7 c7] 24)).alloc (.cells #[.slice b0 m0 d0, .slice b1 m1 d1, .slice b2 m2 d2, .slice b3 m3 d3, .slice b4 m4 d4, .slice b5 m5 d5, .slice b6 m6 d6, .slice b7 m7 d7] 24) := ⟨_, rfl⟩
  rw [← hW0] at HBX HB0
  have HW0 := Lib.hid hW0.symm
  have BR : Hid (Below W0.heap.size W0 W0) := Below.refl _ _
  have HCe : Hid (∀ W, Below W0.heap.size W0 W → W.cell? ⟨w.heap.size, 0, none⟩ = some (.slice a0 n0 c0) ∧ W.cell? ⟨w.heap.size, 1, none⟩ = some (.slice a1 n1 c1) ∧ W.cell? ⟨w.heap.size, 2, none⟩ = some (.slice a2 n2 c2) ∧ W.cell? ⟨w.heap.size, 3, none⟩ = some (.slice a3 n3 c3) ∧ W.cell? ⟨w.heap.size, 4, none⟩ = some (.slice a4 n4 c4) ∧ W.cell? ⟨w.heap.size, 5, none⟩ = some (.slice a5 n5 c5) ∧ W.cell? ⟨w.heap.size, 6, none⟩ = some (.slice a6 n6 c6) ∧ W.cell? ⟨w.heap.size, 7, none⟩ = some (.slice a7 n7 c7) ∧ W.cell? ⟨w.heap.size + 1, 0, none⟩ = some (.slice b0 m0 d0) ∧ W.cell? ⟨w.heap.size + 1, 1, none⟩ = some (.slice b1 m1 d1) ∧ W.cell? ⟨w.heap.size + 1, 2, none⟩ = some (.slice b2 m2 d2) ∧ W.cell? ⟨w.heap.size + 1, 3, none⟩ = some (.slice b3 m3 d3) ∧ W.cell? ⟨w.heap.size + 1, 4, none⟩ = some (.slice b4 m4 d4) ∧ W.cell? ⟨w.heap.size + 1, 5, none⟩ = some (.slice b5 m5 d5) ∧ W.cell? ⟨w.heap.size + 1, 6, none⟩ = some (.slice b6 m6 d6) ∧ W.cell? ⟨w.heap.size + 1, 7, none⟩ = some (.slice b7 m7 d7)) := fun W hb => by
    obtain ⟨k1, k2⟩ := HBX.out W hb
    exact ⟨(k1.cell 0).trans rfl, (k1.cell 1).trans rfl, (k1.cell 2).trans rfl, (k1.cell 3).trans rfl, (k1.cell 4).trans rfl, (k1.cell 5).trans rfl, (k1.cell 6).trans rfl, (k1.cell 7).trans rfl, (k2.cell 0).trans rfl, (k2.cell 1).trans rfl, (k2.cell 2).trans rfl, (k2.cell 3).trans rfl, (k2.cell 4).trans rfl, (k2.cell 5).trans rfl, (k2.cell 6).trans rfl, (k2.cell 7).trans rfl⟩
  clear HBX
  have hbt : ∀ W, Below W0.heap.size W0 W → Below w.heap.size w W := fun W hb => HB0.out.trans (hb.mono HB0.out.size)
  have HBt := Lib.hid hbt
  rw [hU, hV]
  by_cases hf1 : ∀ k < 8, okP15 (p k)
  case neg =>
    have HF1 : Hid (∀ W, Below W0.heap.size W0 W → Calls Tryd.prog 10 #[.agg #[.slice a0 n0 c0, .slice a1 n1 c1, .slice a2 n2 c2, .slice a3 n3 c3, .slice a4 n4 c4, .slice a5 n5 c5, .slice a6 n6 c6, .slice a7 n7 c7]] W fun e w' => e = .returned (.bool false) ∧ Below W.heap.size W w') := fun W hb => by
      rw [← hU]
      exact few17b_false (h.below (hbt W hb)) hs hf1
    clear hU hV e0 e1 e2 e3 e4 e5 e6 e7 f0 f1 f2 f3 f4 f5 f6 f7 hu hv h h' hs hs' hT hW0 hbt hf1
    go_enter Tryd.func4, Tryd.ntmps4
    go_wp2_with (first
      | (go_at_call 10; rw [HW0.out]; (with_reducible refine (HF1.out _ BR.out).mono ?_); rintro e w1 ⟨rfl, b1⟩; have B1 := Lib.hid (BR.out.trans (b1.mono BR.out.size)); clear b1; (try clear x0 x1 x2 x3 x4 x5 x6 x7 y0 y1 y2 y3 y4 y5 y6 y7); obtain ⟨x0, x1, x2, x3, x4, x5, x6, x7, y0, y1, y2, y3, y4, y5, y6, y7⟩ := HCe.out _ B1.out)
      | (go_at_call 11; (with_reducible refine (HAw.out _ (HBt.out _ B1.out)).mono ?_); rintro e w5 ⟨rfl, b5⟩; have B5 := Lib.hid (B1.out.trans (b5.mono B1.out.size)); clear b5; (try clear x0 x1 x2 x3 x4 x5 x6 x7 y0 y1 y2 y3 y4 y5 y6 y7); obtain ⟨x0, x1, x2, x3, x4, x5, x6, x7, y0, y1, y2, y3, y4, y5, y6, y7⟩ := HCe.out _ B5.out)
      | fail)
    go_ret
    exact ⟨rfl, HBt.out _ B5.out⟩
  case pos =>
  have HF1 : Hid (∀ W, Below W0.heap.size W0 W → Calls Tryd.prog 10 #[.agg #[.slice a0 n0 c0, .slice a1 n1 c1, .slice a2 n2 c2, .slice a3 n3 c3, .slice a4 n4 c4, .slice a5 n5 c5, .slice a6 n6 c6, .slice a7 n7 c7]] W fun e w' => e = .returned (.bool true) ∧ Below W.heap.size W w') := fun W hb => by
    rw [← hU]
    exact few17b_true (h.below (hbt W hb)) hs hf1
  by_cases hf2 : ∀ k < 8, okP15 (q k)
  case neg =>
    have HF2 : Hid (∀ W, Below W0.heap.size W0 W → Calls Tryd.prog 10 #[.agg #[.slice b0 m0 d0, .slice b1 m1 d1, .slice b2 m2 d2, .slice b3 m3 d3, .slice b4 m4 d4, .slice b5 m5 d5, .slice b6 m6 d6, .slice b7 m7 d7]] W fun e w' => e = .returned (.bool false) ∧ Below W.heap.size W w') := fun W hb => by
      rw [← hV]
      exact few17b_false (h'.below (hbt W hb)) hs' hf2
    clear hU hV e0 e1 e2 e3 e4 e5 e6 e7 f0 f1 f2 f3 f4 f5 f6 f7 hu hv h h' hs hs' hT hW0 hbt hf1 hf2
    go_enter Tryd.func4, Tryd.ntmps4
    go_wp2_with (first
      | (go_at_call 10; rw [HW0.out]; (with_reducible refine (HF1.out _ BR.out).mono ?_); rintro e w1 ⟨rfl, b1⟩; have B1 := Lib.hid (BR.out.trans (b1.mono BR.out.size)); clear b1; (try clear x0 x1 x2 x3 x4 x5 x6 x7 y0 y1 y2 y3 y4 y5 y6 y7); obtain ⟨x0, x1, x2, x3, x4, x5, x6, x7, y0, y1, y2, y3, y4, y5, y6, y7⟩ := HCe.out _ B1.out)
      | (go_at_call 10; (with_reducible refine (HF2.out _ B1.out).mono ?_); rintro e w2 ⟨rfl, b2⟩; have B2 := Lib.hid (B1.out.trans (b2.mono B1.out.size)); clear b2; (try clear x0 x1 x2 x3 x4 x5 x6 x7 y0 y1 y2 y3 y4 y5 y6 y7); obtain ⟨x0, x1, x2, x3, x4, x5, x6, x7, y0, y1, y2, y3, y4, y5, y6, y7⟩ := HCe.out _ B2.out)
      | (go_at_call 11; (with_reducible refine (HAw.out _ (HBt.out _ B2.out)).mono ?_); rintro e w5 ⟨rfl, b5⟩; have B5 := Lib.hid (B2.out.trans (b5.mono B2.out.size)); clear b5; (try clear x0 x1 x2 x3 x4 x5 x6 x7 y0 y1 y2 y3 y4 y5 y6 y7); obtain ⟨x0, x1, x2, x3, x4, x5, x6, x7, y0, y1, y2, y3, y4, y5, y6, y7⟩ := HCe.out _ B5.out)
      | fail)
    go_ret
    exact ⟨rfl, HBt.out _ B5.out⟩
  case pos =>
  have HF2 : Hid (∀ W, Below W0.heap.size W0 W → Calls Tryd.prog 10 #[.agg #[.slice b0 m0 d0, .slice b1 m1 d1, .slice b2 m2 d2, .slice b3 m3 d3, .slice b4 m4 d4, .slice b5 m5 d5, .slice b6 m6 d6, .slice b7 m7 d7]] W fun e w' => e = .returned (.bool true) ∧ Below W.heap.size W w') := fun W hb => by
    rw [← hV]
    exact few17b_true (h'.below (hbt W hb)) hs' hf2
  have hl : ∀ k < 8, (p k).length ≤ 1000 := fun k hk => Nat.le_trans (hf1 k hk).1 (by omega)
  have hl' : ∀ k < 8, (q k).length ≤ 1000 := fun k hk => Nat.le_trans (hf2 k hk).1 (by omega)
  have hz : ∀ k < 8, ∀ x ∈ p k, x.length ≤ 1000 := fun k hk x hx => Nat.le_trans ((hf1 k hk).2 x hx) (by omega)
  have hz' : ∀ k < 8, ∀ x ∈ q k, x.length ≤ 1000 := fun k hk x hx => Nat.le_trans ((hf2 k hk).2 x hx) (by omega)
  have hA1 : ∀ W, Below W0.heap.size W0 W → ∀ k < 8, TextsAt W (u k) ((p k).map bs) := fun W hb k hk => (h.at_ k hk).below (hbt W hb)
  have hA2 : ∀ W, Below W0.heap.size W0 W → ∀ k < 8, TextsAt W (v k) ((q k).map bs) := fun W hb k hk => (h'.at_ k hk).below (hbt W hb)
  have hle : badAt (fun k => (chAt p q k).2) ≤ 8 := badAt_le _
  have hCh := fun W (hb : Below W0.heap.size W0 W) => chChoose_any (hT.below (hbt W hb)) (hA1 W hb) (hA2 W hb) hl hl' hz hz'
  have HLp : Hid (∀ W, Below W0.heap.size W0 W → Calls Tryd.prog 22 #[.agg #[.slice a0 n0 c0, .slice a1 n1 c1, .slice a2 n2 c2, .slice a3 n3 c3, .slice a4 n4 c4, .slice a5 n5 c5, .slice a6 n6 c6, .slice a7 n7 c7]] W fun e w' => ∃ b, e = .returned (.slice (some ⟨b, 0, none⟩) 8 8) ∧ b < w'.heap.size ∧ (∀ k < 8, w'.cell? ⟨b, k, none⟩ = some (u k)) ∧ Below W.heap.size W w') := fun W hb => by
    rw [← hU]
    exact r15Lists_any (p := p) (hA1 W hb)
  have HLq : Hid (∀ W, Below W0.heap.size W0 W → Calls Tryd.prog 22 #[.agg #[.slice b0 m0 d0, .slice b1 m1 d1, .slice b2 m2 d2, .slice b3 m3 d3, .slice b4 m4 d4, .slice b5 m5 d5, .slice b6 m6 d6, .slice b7 m7 d7]] W fun e w' => ∃ b, e = .returned (.slice (some ⟨b, 0, none⟩) 8 8) ∧ b < w'.heap.size ∧ (∀ k < 8, w'.cell? ⟨b, k, none⟩ = some (v k)) ∧ Below W.heap.size W w') := fun W hb => by
    rw [← hV]
    exact r15Lists_any (p := q) (hA2 W hb)
  have HCh2 : Hid (∀ (W : World) (u' : Nat → Value), Below W0.heap.size W0 W → (∀ k < 8, TextsAt W (u' k) ((turnP q k).map bs)) → badAt (fun k => (chAt p q k).2) = 8 → Calls Tryd.prog 12 #[.agg #[.slice a0 n0 c0, .slice a1 n1 c1, .slice a2 n2 c2, .slice a3 n3 c3, .slice a4 n4 c4, .slice a5 n5 c5, .slice a6 n6 c6, .slice a7 n7 c7], agg8 u'] W fun e w' => e = .returned (.tuple #[.agg #[.string (chAt p q 0).1, .string (chAt p q 1).1, .string (chAt p q 2).1, .string (chAt p q 3).1, .string (chAt p q 4).1, .string (chAt p q 5).1, .string (chAt p q 6).1, .string (chAt p q 7).1], .nilIface]) ∧ Below W.heap.size W w') := fun W u' hb hu' hJ => by
    rw [← hU]
    refine (chChoose_any (hT.below (hbt W hb)) (hA1 W hb) hu' hl (fun k hk => by unfold turnP; rw [List.length_reverse]; exact hl' k hk) hz (fun k hk x hx => hz' k hk x (by unfold turnP at hx; simpa using hx))).mono fun e w' ⟨h1, _, h3⟩ => ?_
    simp only [chAt_turn] at h1
    exact ⟨h1 hJ, h3⟩
  rw [hU] at hCh
  rw [hV] at hCh
  have HA1 := Lib.hid hA1
  have HA2 := Lib.hid hA2
  have HSl := Lib.hid h.sl2
  have HSl' := Lib.hid h'.sl2
  have HFs : Hid (badAt (fun k => (chAt p q k).2) = 8 → ∀ k < 8, ∃ n, ∃ hn : n < ((p k).map bs).length, ((p k).map bs)[n] = (chAt p q k).1 ∧ (chAt p q k).1 ∈ (q k).map bs ∧ ∀ j, (hj : j < n) → ((p k).map bs)[j]'(by omega) ∉ (q k).map bs) := fun hJ k hk => firstIn_spec (by
    have := badAt_all8 hJ k hk
    show chAt p q k = _
    rw [← this])
  clear hU hV e0 e1 e2 e3 e4 e5 e6 e7 f0 f1 f2 f3 f4 f5 f6 f7 hu hv h h' hs hs' hT hW0 hbt hf1 hf2 hz hz' hA1 hA2
  rcases Nat.lt_or_eq_of_le hle with hj | hj
  · have HCh : Hid (∀ W, Below W0.heap.size W0 W → Calls Tryd.prog 12 #[.agg #[.slice a0 n0 c0, .slice a1 n1 c1, .slice a2 n2 c2, .slice a3 n3 c3, .slice a4 n4 c4, .slice a5 n5 c5, .slice a6 n6 c6, .slice a7 n7 c7], .agg #[.slice b0 m0 d0, .slice b1 m1 d1, .slice b2 m2 d2, .slice b3 m3 d3, .slice b4 m4 d4, .slice b5 m5 d5, .slice b6 m6 d6, .slice b7 m7 d7]] W fun e w' => ∃ t x, e = .returned (.tuple #[.agg #[.string ⟨#[]⟩, .string ⟨#[]⟩, .string ⟨#[]⟩, .string ⟨#[]⟩, .string ⟨#[]⟩, .string ⟨#[]⟩, .string ⟨#[]⟩, .string ⟨#[]⟩], .iface t x]) ∧ Below W.heap.size W w') := fun W hb => (hCh W hb).mono fun e w' ⟨_, h2, h3⟩ => by
      obtain ⟨t, x, h4, h5⟩ := h2 hj
      exact ⟨t, x, h4, h3⟩
    clear hCh HCh2 HFs HLp HLq HA1 HA2 HSl HSl' hle hj hl hl'
    go_enter Tryd.func4, Tryd.ntmps4
    go_wp2_with (first
      | (go_at_call 10; rw [HW0.out]; (with_reducible refine (HF1.out _ BR.out).mono ?_); rintro e w1 ⟨rfl, b1⟩; have B1 := Lib.hid (BR.out.trans (b1.mono BR.out.size)); clear b1; (try clear x0 x1 x2 x3 x4 x5 x6 x7 y0 y1 y2 y3 y4 y5 y6 y7); obtain ⟨x0, x1, x2, x3, x4, x5, x6, x7, y0, y1, y2, y3, y4, y5, y6, y7⟩ := HCe.out _ B1.out)
      | (go_at_call 10; (with_reducible refine (HF2.out _ B1.out).mono ?_); rintro e w2 ⟨rfl, b2⟩; have B2 := Lib.hid (B1.out.trans (b2.mono B1.out.size)); clear b2; (try clear x0 x1 x2 x3 x4 x5 x6 x7 y0 y1 y2 y3 y4 y5 y6 y7); obtain ⟨x0, x1, x2, x3, x4, x5, x6, x7, y0, y1, y2, y3, y4, y5, y6, y7⟩ := HCe.out _ B2.out)
      | (go_at_call 12; (with_reducible refine (HCh.out _ B2.out).mono ?_); rintro e w3 ⟨t, x, rfl, b3⟩; have B3 := Lib.hid ((B2.out.trans (b3.mono B2.out.size)).alloc (B2.out.trans (b3.mono B2.out.size)).size (.cells #[.string ⟨#[]⟩, .string ⟨#[]⟩, .string ⟨#[]⟩, .string ⟨#[]⟩, .string ⟨#[]⟩, .string ⟨#[]⟩, .string ⟨#[]⟩, .string ⟨#[]⟩] 28)); clear b3; (try clear x0 x1 x2 x3 x4 x5 x6 x7 y0 y1 y2 y3 y4 y5 y6 y7); obtain ⟨x0, x1, x2, x3, x4, x5, x6, x7, y0, y1, y2, y3, y4, y5, y6, y7⟩ := HCe.out _ B3.out)
      | (go_at_call 11; (with_reducible refine (HAw.out _ (HBt.out _ B3.out)).mono ?_); rintro e w5 ⟨rfl, b5⟩; have B5 := Lib.hid (B3.out.trans (b5.mono B3.out.size)); clear b5)
      | fail)
    go_ret
    exact ⟨rfl, HBt.out _ B5.out⟩
  · have HCh : Hid (∀ W, Below W0.heap.size W0 W → Calls Tryd.prog 12 #[.agg #[.slice a0 n0 c0, .slice a1 n1 c1, .slice a2 n2 c2, .slice a3 n3 c3, .slice a4 n4 c4, .slice a5 n5 c5, .slice a6 n6 c6, .slice a7 n7 c7], .agg #[.slice b0 m0 d0, .slice b1 m1 d1, .slice b2 m2 d2, .slice b3 m3 d3, .slice b4 m4 d4, .slice b5 m5 d5, .slice b6 m6 d6, .slice b7 m7 d7]] W fun e w' => e = .returned (.tuple #[.agg #[.string (chAt p q 0).1, .string (chAt p q 1).1, .string (chAt p q 2).1, .string (chAt p q 3).1, .string (chAt p q 4).1, .string (chAt p q 5).1, .string (chAt p q 6).1, .string (chAt p q 7).1], .nilIface]) ∧ Below W.heap.size W w') := fun W hb => (hCh W hb).mono fun e w' ⟨h1, _, h3⟩ => ⟨h1 hj, h3⟩
    have HC2 : Hid (∀ (W : World) (u' : Nat → Value), Below W0.heap.size W0 W → (∀ k < 8, TextsAt W (u' k) ((turnP q k).map bs)) → Calls Tryd.prog 12 #[.agg #[.slice a0 n0 c0, .slice a1 n1 c1, .slice a2 n2 c2, .slice a3 n3 c3, .slice a4 n4 c4, .slice a5 n5 c5, .slice a6 n6 c6, .slice a7 n7 c7], agg8 u'] W fun e w' => e = .returned (.tuple #[.agg #[.string (chAt p q 0).1, .string (chAt p q 1).1, .string (chAt p q 2).1, .string (chAt p q 3).1, .string (chAt p q 4).1, .string (chAt p q 5).1, .string (chAt p q 6).1, .string (chAt p q 7).1], .nilIface]) ∧ Below W.heap.size W w') := fun W u' h1 h2 => HCh2.out W u' h1 h2 hj
    have HLi : Hid (∀ W : World, Calls Tryd.prog 21 #[.agg #[.string (chAt p q 0).1, .string (chAt p q 1).1, .string (chAt p q 2).1, .string (chAt p q 3).1, .string (chAt p q 4).1, .string (chAt p q 5).1, .string (chAt p q 6).1, .string (chAt p q 7).1]] W fun e w' => ∃ s, e = .returned (.slice (some ⟨s, 0, none⟩) 8 8) ∧ s < w'.heap.size ∧ (∀ k < 8, w'.cell? ⟨s, k, none⟩ = some (.string (chAt p q k).1)) ∧ Below W.heap.size W w') := fun W => (chLists_any (fun k => (chAt p q k).1) W).mono fun e w' ⟨h1, h2, h3⟩ => by
      obtain ⟨ao, cap, ev, hc⟩ := h2
      obtain ⟨bb, off, rfl, hbb, hcell⟩ := hc (by simp [list8S])
      injection ev with ev1
      have ev1 := Option.some.inj ev1
      injection ev1 with e1 e2
      subst e1 e2
      refine ⟨_, h1, hbb, fun k hk => ?_, h3⟩
      have := hcell k _ (list8S_at (fun k => (chAt p q k).1) k hk)
      rw [Nat.zero_add] at this
      exact this
    have HF := Lib.hid (HFs.out hj)
    clear hCh HCh2 HFs hle hj
    generalize hF0 : (chAt p q 0).1 = F0 at HCh HC2 HLi
    generalize hF1 : (chAt p q 1).1 = F1 at HCh HC2 HLi
    generalize hF2 : (chAt p q 2).1 = F2 at HCh HC2 HLi
    generalize hF3 : (chAt p q 3).1 = F3 at HCh HC2 HLi
    generalize hF4 : (chAt p q 4).1 = F4 at HCh HC2 HLi
    generalize hF5 : (chAt p q 5).1 = F5 at HCh HC2 HLi
    generalize hF6 : (chAt p q 6).1 = F6 at HCh HC2 HLi
    generalize hF7 : (chAt p q 7).1 = F7 at HCh HC2 HLi
    clear hF0
    clear hF1
    clear hF2
    clear hF3
    clear hF4
    clear hF5
    clear hF6
    clear hF7
    go_enter Tryd.func4, Tryd.ntmps4
    go_wp2_with (first
      | (go_at_call 10; rw [HW0.out]; (with_reducible refine (HF1.out _ BR.out).mono ?_); rintro e w1 ⟨rfl, b1⟩; have B1 := Lib.hid (BR.out.trans (b1.mono BR.out.size)); clear b1; (try clear x0 x1 x2 x3 x4 x5 x6 x7 y0 y1 y2 y3 y4 y5 y6 y7); obtain ⟨x0, x1, x2, x3, x4, x5, x6, x7, y0, y1, y2, y3, y4, y5, y6, y7⟩ := HCe.out _ B1.out)
      | (go_at_call 10; (with_reducible refine (HF2.out _ B1.out).mono ?_); rintro e w2 ⟨rfl, b2⟩; have B2 := Lib.hid (B1.out.trans (b2.mono B1.out.size)); clear b2; (try clear x0 x1 x2 x3 x4 x5 x6 x7 y0 y1 y2 y3 y4 y5 y6 y7); obtain ⟨x0, x1, x2, x3, x4, x5, x6, x7, y0, y1, y2, y3, y4, y5, y6, y7⟩ := HCe.out _ B2.out)
      | (go_at_call 12; (with_reducible refine (HCh.out _ B2.out).mono ?_); rintro e w3 ⟨rfl, b3⟩; have B3 := Lib.hid ((B2.out.trans (b3.mono B2.out.size)).alloc (B2.out.trans (b3.mono B2.out.size)).size (.cells #[.string F0, .string F1, .string F2, .string F3, .string F4, .string F5, .string F6, .string F7] 28)); have T3 : Hid (Below (w3.alloc (.cells #[.string F0, .string F1, .string F2, .string F3, .string F4, .string F5, .string F6, .string F7] 28)).heap.size (w3.alloc (.cells #[.string F0, .string F1, .string F2, .string F3, .string F4, .string F5, .string F6, .string F7] 28)) (w3.alloc (.cells #[.string F0, .string F1, .string F2, .string F3, .string F4, .string F5, .string F6, .string F7] 28))) := Below.refl _ _; have HZ3 := Lib.hid (ch_box8 (w := w3) (cs := #[.string F0, .string F1, .string F2, .string F3, .string F4, .string F5, .string F6, .string F7])); clear b3; (try clear x0 x1 x2 x3 x4 x5 x6 x7 y0 y1 y2 y3 y4 y5 y6 y7); obtain ⟨x0, x1, x2, x3, x4, x5, x6, x7, y0, y1, y2, y3, y4, y5, y6, y7⟩ := HCe.out _ B3.out)
      | (go_at_call 21; (with_reducible refine (HLi.out _).mono ?_); rintro e w4 ⟨s, rfl, hsl4, hsc4, b4⟩; have B4 := Lib.hid (B3.out.trans (b4.mono B3.out.size)); have T4 := Lib.hid (T3.out.trans (b4.mono T3.out.size)); have HSL := Lib.hid hsl4; have HSC := Lib.hid hsc4; clear b4 hsl4 hsc4; (try clear x0 x1 x2 x3 x4 x5 x6 x7 y0 y1 y2 y3 y4 y5 y6 y7); obtain ⟨x0, x1, x2, x3, x4, x5, x6, x7, y0, y1, y2, y3, y4, y5, y6, y7⟩ := HCe.out _ B4.out)
      | fail)
    have D4 : Hid (Below W0.heap.size W0 w4.drew) := B4.out.drew
    have U4 : Hid (Below (w3.alloc (.cells #[.string F0, .string F1, .string F2, .string F3, .string F4, .string F5, .string F6, .string F7] 28)).heap.size (w3.alloc (.cells #[.string F0, .string F1, .string F2, .string F3, .string F4, .string F5, .string F6, .string F7] 28)) w4.drew) := T4.out.drew
    have Q4 : Hid (Below w4.heap.size w4 w4.drew) := (Below.refl _ _).drew
    (try clear x0 x1 x2 x3 x4 x5 x6 x7 y0 y1 y2 y3 y4 y5 y6 y7); obtain ⟨x0, x1, x2, x3, x4, x5, x6, x7, y0, y1, y2, y3, y4, y5, y6, y7⟩ := HCe.out _ D4.out
    go_region_held3 (fun w' => w'.cell? ⟨w.heap.size, 0, none⟩ = some (.slice a0 n0 c0) ∧ w'.cell? ⟨w.heap.size, 1, none⟩ = some (.slice a1 n1 c1) ∧ w'.cell? ⟨w.heap.size, 2, none⟩ = some (.slice a2 n2 c2) ∧ w'.cell? ⟨w.heap.size, 3, none⟩ = some (.slice a3 n3 c3) ∧ w'.cell? ⟨w.heap.size, 4, none⟩ = some (.slice a4 n4 c4) ∧ w'.cell? ⟨w.heap.size, 5, none⟩ = some (.slice a5 n5 c5) ∧ w'.cell? ⟨w.heap.size, 6, none⟩ = some (.slice a6 n6 c6) ∧ w'.cell? ⟨w.heap.size, 7, none⟩ = some (.slice a7 n7 c7) ∧ w'.cell? ⟨w.heap.size + 1, 0, none⟩ = some (.slice b0 m0 d0) ∧ w'.cell? ⟨w.heap.size + 1, 1, none⟩ = some (.slice b1 m1 d1) ∧ w'.cell? ⟨w.heap.size + 1, 2, none⟩ = some (.slice b2 m2 d2) ∧ w'.cell? ⟨w.heap.size + 1, 3, none⟩ = some (.slice b3 m3 d3) ∧ w'.cell? ⟨w.heap.size + 1, 4, none⟩ = some (.slice b4 m4 d4) ∧ w'.cell? ⟨w.heap.size + 1, 5, none⟩ = some (.slice b5 m5 d5) ∧ w'.cell? ⟨w.heap.size + 1, 6, none⟩ = some (.slice b6 m6 d6) ∧ w'.cell? ⟨w.heap.size + 1, 7, none⟩ = some (.slice b7 m7 d7))
      (first | with_reducible exact HCe.out _ D4.out | with_reducible exact HCe.out _ B5.out | with_reducible exact HCe.out _ B6.out | go_keep)
      (first
        | (go_at_call 22; (with_reducible refine (HLp.out _ D4.out).mono ?_); rintro e w5 ⟨X1, rfl, hbl5, hcl5, b5⟩; have B5 := Lib.hid (D4.out.trans (b5.mono D4.out.size)); have T5 := Lib.hid (U4.out.trans (b5.mono U4.out.size)); have K5 := Lib.hid (Q4.out.trans (b5.mono Q4.out.size)); have HC5 := Lib.hid hcl5; have HL5 := Lib.hid hbl5; clear b5 hcl5 hbl5; (try clear x0 x1 x2 x3 x4 x5 x6 x7 y0 y1 y2 y3 y4 y5 y6 y7); obtain ⟨x0, x1, x2, x3, x4, x5, x6, x7, y0, y1, y2, y3, y4, y5, y6, y7⟩ := HCe.out _ B5.out)
        | (go_at_call 22; (with_reducible refine (HLq.out _ B5.out).mono ?_); rintro e w6 ⟨X2, rfl, hbl6, hcl6, b6⟩; have B6 := Lib.hid (B5.out.trans (b6.mono B5.out.size)); have T6 := Lib.hid (T5.out.trans (b6.mono T5.out.size)); have K6 := Lib.hid (K5.out.trans (b6.mono K5.out.size)); have G6 := Lib.hid b6; have HC6 := Lib.hid hcl6; have HL6 := Lib.hid hbl6; clear b6 hcl6 hbl6; (try clear x0 x1 x2 x3 x4 x5 x6 x7 y0 y1 y2 y3 y4 y5 y6 y7); obtain ⟨x0, x1, x2, x3, x4, x5, x6, x7, y0, y1, y2, y3, y4, y5, y6, y7⟩ := HCe.out _ B6.out)
        | fail)
    all_goals
      (try clear x0 x1 x2 x3 x4 x5 x6 x7 y0 y1 y2 y3 y4 y5 y6 y7)
      go_wp2_with fail
      obtain ⟨i0, hi0, hz0, hz1, hz2⟩ := info_parts infoStr
      obtain ⟨i1, hi1, hy0, hy1, hy2⟩ := info_parts infoStrs
      have HRow : Hid (∀ k, k < 8 → ∀ W, Below w6.heap.size w6 W → W.cell? ⟨X1, k, none⟩ = some (u k) ∧ W.cell? ⟨X2, k, none⟩ = some (v k) ∧ W.cell? ⟨s, k, none⟩ = some (.string (chAt p q k).1) ∧ TextsAt W (u k) ((p k).map bs) ∧ TextsAt W (v k) ((q k).map bs)) := fun k hk W hb => by
        have hw := B6.out.trans (hb.mono B6.out.size)
        have hl1 : X1 < w6.heap.size := Nat.lt_of_lt_of_le HL5.out G6.out.size
        have hl3 : s < w6.heap.size := Nat.lt_of_lt_of_le HSL.out K6.out.size
        exact ⟨(hb.cell (p := ⟨X1, k, none⟩) hl1).trans ((G6.out.cell (p := ⟨X1, k, none⟩) HL5.out).trans (HC5.out k hk)), (hb.cell (p := ⟨X2, k, none⟩) HL6.out).trans (HC6.out k hk), (hb.cell (p := ⟨s, k, none⟩) hl3).trans ((K6.out.cell (p := ⟨s, k, none⟩) HSL.out).trans (HSC.out k hk)), HA1.out W hw k hk, HA2.out W hw k hk⟩
      have HBe : Hid (∀ W, Below w6.heap.size w6 W → Below W0.heap.size W0 W ∧ Below (w3.alloc (.cells #[.string F0, .string F1, .string F2, .string F3, .string F4, .string F5, .string F6, .string F7] 28)).heap.size (w3.alloc (.cells #[.string F0, .string F1, .string F2, .string F3, .string F4, .string F5, .string F6, .string F7] 28)) W) := fun W hb => ⟨B6.out.trans (hb.mono B6.out.size), T6.out.trans (hb.mono T6.out.size)⟩
      clear HC5 HC6 HL5 HL6 HSL HSC HA1 HA2 G6 K5 K6 Q4 U4 D4 T3 T4 T5 T6 B1 B2 B3 B4 B5 B6 HF1 HF2 HLp HLq HLi HCh HB0 BR HW0 HSl HSl'
      go_loopw [10, 11] (fun x i wr => ∃ (k : Nat) (xs : List Value), k ≤ 8 ∧ i = .int .i64 k ∧ (∃ ao c, x = .slice ao k c) ∧ wr.ownsRow w6.heap.size 22 1 x k xs ∧ Copies w6.heap.size wr x (turnP q) k xs ∧ Below w6.heap.size w6 wr) (fun _ i _ => 9 - (intOf i).toNat)
      case atStart => exact ⟨0, [], Nat.zero_le _, rfl, ⟨_, _, rfl⟩, World.ownsRow_nil _ _ _ _, fun j hj => absurd hj (by omega), Below.refl _ _⟩
      case round =>
        obtain ⟨k, xs, hk, rfl, ⟨ao, cx, rfl⟩, hrow, hcp, hb⟩ := hrel
        obtain ⟨V0, hV0⟩ : ∃ V0, V0 = wr := ⟨_, rfl⟩
        subst hV0
        by_cases hlt : k < 8
        · have HB := Lib.hid hb
          have HOw := Lib.hid hrow
          have HCp := Lib.hid hcp
          clear hb hrow hcp
          obtain ⟨n, hn, hnx, hmem, hno⟩ := HF.out k hlt
          have hRk := HRow.out k hlt
          have hlq := hl' k hlt
          have hlp := hl k hlt
          generalize hXk : (chAt p q k).1 = X at hnx hmem hRk
          obtain ⟨P, hP⟩ : ∃ P, P = (p k).map bs := ⟨_, rfl⟩
          obtain ⟨Q, hQ⟩ : ∃ Q, Q = (q k).map bs := ⟨_, rfl⟩
          have hPl : P.length ≤ 1000 := by rw [hP, List.length_map]; exact hlp
          have hQl : Q.length ≤ 1000 := by rw [hQ, List.length_map]; exact hlq
          have hQt : Q.reverse = (turnP q k).map bs := by rw [hQ]; unfold turnP; rw [List.map_reverse]
          simp only [← hP, ← hQ] at hn hnx hmem hno hRk
          obtain ⟨uk, huk⟩ : ∃ y, y = u k := ⟨_, rfl⟩
          obtain ⟨vk, hvk⟩ : ∃ y, y = v k := ⟨_, rfl⟩
          rw [← huk, ← hvk] at hRk
          -- both lists' elements, at any later world
          have hbr := HB.out
          obtain ⟨_, _, _, hT1, hT2⟩ := hRk V0 hbr
          obtain ⟨o1, c1', rfl, hc1⟩ := hT1
          obtain ⟨o2, c2', rfl, hc2⟩ := hT2
          obtain ⟨bp, op, rfl, hbp, hcp1⟩ := hc1 (by intro e; rw [e] at hn; simp at hn)
          obtain ⟨bq, oq, rfl, hbq, hcq1⟩ := hc2 (by intro e; rw [e] at hmem; simp at hmem)
          have HEp : Hid (∀ (j : Nat) (hj : j < P.length) (W : World), Below V0.heap.size V0 W → W.cell? ⟨bp, op + j, none⟩ = some (.string P[j])) := fun j hj W hW => (hW.cell (p := ⟨bp, op + j, none⟩) hbp).trans (hcp1 j _ (List.getElem?_eq_getElem hj))
          have HEq : Hid (∀ (j : Nat) (hj : j < Q.length) (W : World), Below V0.heap.size V0 W → W.cell? ⟨bq, oq + j, none⟩ = some (.string Q[j])) := fun j hj W hW => (hW.cell (p := ⟨bq, oq + j, none⟩) hbq).trans (hcq1 j _ (List.getElem?_eq_getElem hj))
          have HRk : Hid (∀ W, Below V0.heap.size V0 W → W.cell? ⟨X1, k, none⟩ = some (.slice (some ⟨bp, op, none⟩) P.length c1') ∧ W.cell? ⟨X2, k, none⟩ = some (.slice (some ⟨bq, oq, none⟩) Q.length c2') ∧ W.cell? ⟨s, k, none⟩ = some (.string X)) := fun W hW => by
            obtain ⟨a1, a2, a3, _, _⟩ := hRk W (hbr.trans (hW.mono hbr.size))
            exact ⟨a1, a2, a3⟩
          have HHp : Hid (∀ W, Below V0.heap.size V0 W → Calls Tryd.prog 23 #[.slice (some ⟨bp, op, none⟩) P.length c1', .string X] W fun e w' => e = .returned (.bool true) ∧ w' = W) := fun W hW => by
            have h := rHas_any ((hRk W (hbr.trans (hW.mono hbr.size))).2.2.2.1) (by unfold maxLen; omega) X
            rw [decide_eq_true (by rw [← hnx]; exact List.getElem_mem hn)] at h
            exact h
          have hhq : ∀ (Y : ByteArray) W, Below V0.heap.size V0 W → Calls Tryd.prog 23 #[.slice (some ⟨bq, oq, none⟩) Q.length c2', .string Y] W fun e w' => e = .returned (.bool (decide (Y ∈ Q))) ∧ w' = W := fun Y W hW => rHas_any ((hRk W (hbr.trans (hW.mono hbr.size))).2.2.2.2) (by unfold maxLen; omega) Y
          have HHq : Hid (∀ W, Below V0.heap.size V0 W → Calls Tryd.prog 23 #[.slice (some ⟨bq, oq, none⟩) Q.length c2', .string X] W fun e w' => e = .returned (.bool true) ∧ w' = W) := fun W hW => by
            have h := hhq X W hW
            rw [decide_eq_true hmem] at h
            exact h
          have HHn : Hid (∀ (j : Nat) (hj : j < n) (W : World), Below V0.heap.size V0 W → Calls Tryd.prog 23 #[.slice (some ⟨bq, oq, none⟩) Q.length c2', .string (P[j]'(by omega))] W fun e w' => e = .returned (.bool false) ∧ w' = W) := fun j hj W hW => by
            have h := hhq (P[j]'(by omega)) W hW
            rw [decide_eq_false (hno j hj)] at h
            exact h
          have HNe : Hid (∀ (j : Nat) (hj : j < n), ((P[j]'(by omega)).toList == X.toList) = false) := fun j hj => same_no (fun e => hno j hj (e ▸ hmem))
          have HEn : Hid ((P[n].toList == X.toList) = true) := same_yes hnx
          have HQn : Hid (Q ≠ []) := fun e => by rw [e] at hmem; simp at hmem
          have HVz : Hid (w6.heap.size ≤ V0.heap.size) := hbr.size
          have HQt := Lib.hid hQt
          have hk0 : (0 : Int) ≤ (k : Int) := by omega
          have hk8 : (k : Int) < 8 := by omega
          have R0 : Hid (Below V0.heap.size V0 V0) := Below.refl _ _
          have R1 : Hid (Below V0.heap.size V0 V0.drew) := (Below.refl _ _).drew
          obtain ⟨x1, x2, x3⟩ := HRk.out _ R0.out
          obtain ⟨y1, y2, y3⟩ := HRk.out _ R1.out
          clear hRk hc1 hc2 hcp1 hcq1 hhq hno hmem hnx huk hvk hXk HF HRow hbr hlq hlp hP hQ hbp hbq hQt
          go_wp2_with fail
          go_region_held3 (fun w' => w'.cell? ⟨X1, k, none⟩ = some (.slice (some ⟨bp, op, none⟩) P.length c1') ∧ w'.cell? ⟨X2, k, none⟩ = some (.slice (some ⟨bq, oq, none⟩) Q.length c2') ∧ w'.cell? ⟨s, k, none⟩ = some (.string X))
            (first | with_reducible exact ⟨y1, y2, y3⟩ | go_keep)
            (first
              | (go_at_call 23; (with_reducible refine (HHp.out _ R1.out).mono ?_); rintro e w7 ⟨rfl, rfl⟩)
              | (go_at_call 23; (with_reducible refine (HHq.out _ R1.out).mono ?_); rintro e w7 ⟨rfl, rfl⟩)
              | fail)
          all_goals
            go_wp2_with fail
            go_loopw [12] (fun i W => ∃ m : Nat, m ≤ n ∧ i = .int .i64 m ∧ Below V0.heap.size V0 W) (fun i _ => n + 1 - (intOf i).toNat)
            case atStart => exact ⟨0, Nat.zero_le _, rfl, R1.out⟩
            case round =>
              obtain ⟨m, hm, rfl, hbm⟩ := hrel
              have HBm := Lib.hid hbm
              clear hbm
              have hml : m < P.length := by omega
              have D1 := Lib.hid HBm.out.drew
              have D2 := Lib.hid D1.out.drew
              obtain ⟨x1, x2, x3⟩ := HRk.out _ HBm.out
              obtain ⟨y1, y2, y3⟩ := HRk.out _ D1.out
              obtain ⟨z1, z2, z3⟩ := HRk.out _ D2.out
              have x4 := HEp.out m hml _ HBm.out
              have y4 := HEp.out m hml _ D1.out
              have z4 := HEp.out m hml _ D2.out
              have hm0 : (0 : Int) ≤ (m : Int) := by omega
              have hm1 : (m : Int) < (P.length : Int) := by omega
              by_cases hmn : m < n
              · have qn := HNe.out m hmn
                have HHm := Lib.hid (HHn.out m hmn)
                generalize P[m] = Y at *
                have HMn : Hid (m + 1 ≤ n) := hmn
                clear HHp HHq HHn HNe HEn HEp HEq hmn hml
                go_wp2_with fail
                go_region_held3 (fun w' => w'.cell? ⟨X1, k, none⟩ = some (.slice (some ⟨bp, op, none⟩) P.length c1') ∧ w'.cell? ⟨X2, k, none⟩ = some (.slice (some ⟨bq, oq, none⟩) Q.length c2') ∧ w'.cell? ⟨s, k, none⟩ = some (.string X) ∧ w'.cell? ⟨bp, op + m, none⟩ = some (.string Y))
                  (first | with_reducible exact ⟨y1, y2, y3, y4⟩ | go_keep)
                  (fail)
                all_goals
                  go_wp2_with fail
                  go_region_held3 (fun w' => w'.cell? ⟨X1, k, none⟩ = some (.slice (some ⟨bp, op, none⟩) P.length c1') ∧ w'.cell? ⟨X2, k, none⟩ = some (.slice (some ⟨bq, oq, none⟩) Q.length c2') ∧ w'.cell? ⟨s, k, none⟩ = some (.string X) ∧ w'.cell? ⟨bp, op + m, none⟩ = some (.string Y))
                    (first | with_reducible exact ⟨z1, z2, z3, z4⟩ | go_keep)
                    (first
                      | (go_at_call 23; (with_reducible refine (HHm.out _ D2.out).mono ?_); rintro e w8 ⟨rfl, rfl⟩)
                      | fail)
                  all_goals
                    go_wp2_with fail
                    go_roundw
                    case rel => exact ⟨m + 1, HMn.out, by go_num, D2.out⟩
                    case measure => simp [intOf]; omega
              · have hme : m = n := by omega
                subst hme
                have qn := HEn.out
                generalize P[m] = Y at *
                clear HHp HHq HHn HNe HEn HEp hmn hml hm0
                go_wp2_with fail
                go_region_held3 (fun w' => w'.cell? ⟨X1, k, none⟩ = some (.slice (some ⟨bp, op, none⟩) P.length c1') ∧ w'.cell? ⟨X2, k, none⟩ = some (.slice (some ⟨bq, oq, none⟩) Q.length c2') ∧ w'.cell? ⟨s, k, none⟩ = some (.string X) ∧ w'.cell? ⟨bp, op + m, none⟩ = some (.string Y))
                  (first | with_reducible exact ⟨y1, y2, y3, y4⟩ | go_keep)
                  (fail)
                all_goals
                  go_wp2_with fail
                  clear x1 x2 x3 x4 y1 y2 y3 y4 z1 z2 z3 z4 hm1 qn HBm D2
                  go_loopw [13, 14] (fun x i W => ∃ m : Nat, m ≤ Q.length ∧ i = .int .i64 ((m : Int) - 1) ∧ W.ownsRow V0.heap.size 9 1 x (Q.length - m) (strs (Q.drop m).reverse) ∧ Below V0.heap.size V0 W) (fun _ i _ => (intOf i + 1).toNat)
                  case atStart => exact ⟨Q.length, Nat.le_refl _, rfl, by rw [List.drop_length, Nat.sub_self]; exact World.ownsRow_nil _ _ _ _, D1.out⟩
                  case round =>
                    obtain ⟨m2, hm2, rfl, hrow2, hb2⟩ := hrel
                    have HB2 := Lib.hid hb2
                    have HR2 := Lib.hid hrow2
                    have hsz2 := hb2.size
                    clear hb2 hrow2
                    obtain ⟨x1, x2, x3⟩ := HRk.out _ HB2.out
                    match m2, hm2, HR2 with
                    | 0, hm2, HR2 =>
                      have hTt : TextsAt wr _ Q.reverse := TextsAt.ofRow (l := Q.reverse) (by
                        have h := HR2.out
                        rw [List.drop_zero, Nat.sub_zero] at h
                        rw [List.length_reverse]
                        exact h) (fun e => absurd (List.reverse_eq_nil_iff.1 e) HQn.out)
                      have HTt := Lib.hid hTt
                      have hform := HR2.out.2
                      have hne0 : Q.length ≠ 0 := fun e => HQn.out (List.length_eq_zero_iff.1 e)
                      rcases hform with ⟨_, h0⟩ | ⟨gt, ct, cur, rfl, hgt, hgr, hrest⟩
                      · exact absurd h0 (by omega)
                      rw [Nat.sub_zero] at HTt HR2 ⊢
                      have hgl : gt < wr.heap.size := (Array.getElem?_eq_some_iff.1 hgr).1
                      have HGt : Hid (V0.heap.size ≤ gt) := hgt
                      have HGl := Lib.hid hgl
                      have HOW2 := Lib.hid (owns_moves HOw.out (Moves.ofBelow (S := nobody) HB2.out) (fun _ _ h => h))
                      have hm1 : ((0 : Nat) : Int) - 1 = -1 := by omega
                      rw [hm1]
                      have hV6 := HVz.out
                      clear hm1 hTt hgt hgr hrest HEq HR2 hne0 hm2 hgl
                      generalize hql : Q.length = ql at *
                      go_wp2_with (first
                        | (at_builtin; refine wpList_append_lies _ rfl _ _ 44 rfl w6.heap.size 22 i1 (.slice none 0 0) 1 24 Tryd.underlying44 hi1 hy0 hy1 hy2 rfl (by decide) _ k xs rfl (HOW2.out.alloc _) ⟨wr.heap.size, 0, none⟩ 1 1 [.slice (some ⟨gt, 0, none⟩) ql ct] rfl rfl (cell_one_new wr _ _) (by simp [Value.oneCell']) (by decide) (by unfold maxLen; omega) (by omega) (by rw [World.size_alloc]; omega) _ rfl ?_; intro g4 c4 w9 hrow4 hg4 hat4 hlt4; have HR4 := Lib.hid hrow4; have HG4 := Lib.hid hg4; have HA4 := Lib.hid hat4; clear hrow4 hg4 hat4)
                        | fail)
                      go_roundw
                      case rel =>
                        have m4 : Moves (fun i => (Value.slice ao k cx).ownBlock = some i) wr w9 := ((Moves.refl (fun i => (Value.slice ao k cx).ownBlock = some i) wr).alloc _).grown HG4.out (fun _ hi => .inl hi)
                        have hxl := HOw.out.1
                        refine ⟨k + 1, xs ++ [.slice (some ⟨gt, 0, none⟩) ql ct], by omega, by go_num, ⟨_, _, rfl⟩, HR4.out, fun j hj => ?_, ?_⟩
                        · rcases Nat.lt_or_eq_of_le (Nat.le_of_lt_succ hj) with hjk | rfl
                          · obtain ⟨x, h1, h2, h3⟩ := HCp.out j hjk
                            refine ⟨x, by rw [List.getElem?_append_left (by have := (List.getElem?_eq_some_iff.1 h1).1; exact this)]; exact h1, texts_row (h2.below HB2.out) m4 (fun hne i hi hSi => ?_), fun hne => ?_⟩
                            · obtain ⟨gj, k1, _, _, k3⟩ := h3 (fun e => hne (by rw [e]; rfl))
                              rw [k1] at hi
                              have e2 := Option.some.inj hi
                              exact k3 (by rw [e2]; exact hSi)
                            · obtain ⟨gj, k1, kB, k2, k3⟩ := h3 hne
                              refine ⟨gj, k1, kB, Nat.lt_of_lt_of_le k2 (Nat.le_trans HB2.out.size m4.size), fun e => ?_⟩
                              have e4 : g4 = gj := Option.some.inj (show some g4 = some gj from e)
                              rcases HA4.out with h | h
                              · exact k3 (by rw [← e4]; exact h)
                              · rw [World.size_alloc] at h
                                have := HB2.out.size
                                omega
                          · refine ⟨.slice (some ⟨gt, 0, none⟩) ql ct, by rw [List.getElem?_append_right (by omega)]; simp [hxl], ?_, fun hne => ?_⟩
                            · have hx := texts_row HTt.out m4 (fun hne i hi hSi => by
                                have e1 : gt = i := Option.some.inj (show some gt = some i from hi)
                                have := (HOw.out.lt i hSi).2
                                have := HGt.out
                                omega)
                              rw [HQt.out] at hx
                              exact hx
                            · refine ⟨gt, rfl, by have := HGt.out; omega, Nat.lt_of_lt_of_le HGl.out m4.size, fun e => ?_⟩
                              have e4 : g4 = gt := Option.some.inj (show some g4 = some gt from e)
                              rcases HA4.out with h | h
                              · have := (HOw.out.lt g4 h).2
                                have := HGt.out
                                omega
                              · rw [World.size_alloc] at h
                                have := HGl.out
                                omega
                        · exact ((HB.out.trans (HB2.out.mono HB.out.size)).alloc (HB.out.trans (HB2.out.mono HB.out.size)).size _).grown HG4.out (by rw [World.size_alloc]; omega) (fun i hi => (HOw.out.lt i hi).1)
                      case measure => simp [intOf]; omega
                    | j + 1, hm2, HR2 =>
                      have hj : j < Q.length := by omega
                      have x4 := HEq.out j hj _ HB2.out
                      have HDr : Hid ((Q.drop j).reverse = (Q.drop (j + 1)).reverse ++ [Q[j]]) := by
                        show (Q.drop j).reverse = _
                        rw [List.drop_eq_getElem_cons hj, List.reverse_cons]
                      have hj0 : (0 : Int) ≤ (j : Int) := by omega
                      have hj1 : (j : Int) < (Q.length : Int) := by omega
                      have hji : ((j + 1 : Nat) : Int) - 1 = (j : Int) := by omega
                      have hlen : Q.length - j = Q.length - (j + 1) + 1 := by omega
                      have HLen := Lib.hid hlen
                      generalize hY : Q[j] = Y at *
                      have HJ1 : Hid (j ≤ Q.length) := Nat.le_of_lt hj
                      rw [hji]
                      clear hY hji hlen HEq hm2 hj
                      generalize hL : Q.length - (j + 1) = nl at *
                      have hnl : nl ≤ 1000 := by omega
                      clear hL
                      go_wp2_with (first
                        | (at_builtin; refine wpList_append_own _ rfl _ _ 22 rfl V0.heap.size 9 i0 (.string ⟨#[]⟩) 1 16 Tryd.underlying22 hi0 hz0 hz1 hz2 rfl (by decide) _ _ _ rfl (HR2.out.alloc _) ⟨wr.heap.size, 0, none⟩ 1 1 [.string Y] rfl rfl (cell_one_new _ _ _) (str_one Y) (by unfold maxLen; omega) (by omega) (by simp; omega) ?_; intro v' w8 hown' hgrow2 hnil2)
                        | fail)
                      go_roundw
                      case rel =>
                        refine ⟨j, HJ1.out, by go_num, ?_, ?_⟩
                        · rw [HDr.out, strs_snoc, HLen.out]
                          simpa using hown'
                        · exact (HB2.out.alloc HB2.out.size _).grown hgrow2 (by simp; omega) (fun i hi => (HR2.out.lt i hi).1)
                      case measure => simp [intOf]
        · have hk8 : k = 8 := by omega
          subst hk8
          have hform := hrow.2
          rcases hform with ⟨_, h0⟩ | ⟨g', cap', cur, e, hbg, hgr, hnc, hcm, hcs, htake⟩
          · exact absurd h0 (by omega)
          injection e with e1 _ e3
          subst e1 e3
          have hgl : g' < V0.heap.size := (Array.getElem?_eq_some_iff.1 hgr).1
          have hcells : ∀ j < 8, V0.cell? ⟨g', j, none⟩ = some (xs.getD j (.slice none 0 0)) ∧ TextsAt V0 (xs.getD j (.slice none 0 0)) ((turnP q j).map bs) := fun j hj => by
            obtain ⟨x, h1, h2, _⟩ := hcp j hj
            have e : xs.getD j (.slice none 0 0) = x := by rw [List.getD_eq_getElem?_getD, h1]; rfl
            rw [e]
            refine ⟨?_, h2⟩
            rw [cell_of_row V0 g' j _ _ _ hgr]
            rw [← htake, List.getElem?_take, if_pos (by omega)] at h1
            rw [← Array.getElem?_toList]
            exact h1
          have HOf : Hid (Calls Tryd.prog 24 #[.slice (some ⟨g', 0, none⟩) 8 cx] V0 fun e w' => ∃ u' : Nat → Value, e = .returned (.tuple #[agg8 u', .bool true]) ∧ (∀ k < 8, TextsAt w' (u' k) ((turnP q k).map bs)) ∧ Below V0.heap.size V0 w') := pfOf_eight (u := fun j => xs.getD j (.slice none 0 0)) hgl hcells (fun k hk => by unfold turnP; rw [List.length_reverse]; exact hl' k hk)
          have HB := Lib.hid hb
          obtain ⟨E0, T0⟩ := HBe.out _ hb
          have HE0 := Lib.hid E0
          have HT0 := Lib.hid T0
          clear hcells hcp hrow hb hlt hk hgl hgr hnc hcm hcs htake hbg HRow HF E0 T0 hl hl' HBe
          have HZc : Hid (∀ W, Below (w3.alloc (.cells #[.string F0, .string F1, .string F2, .string F3, .string F4, .string F5, .string F6, .string F7] 28)).heap.size (w3.alloc (.cells #[.string F0, .string F1, .string F2, .string F3, .string F4, .string F5, .string F6, .string F7] 28)) W → W.cell? ⟨w3.heap.size, 0, none⟩ = some (.string F0) ∧ W.cell? ⟨w3.heap.size, 1, none⟩ = some (.string F1) ∧ W.cell? ⟨w3.heap.size, 2, none⟩ = some (.string F2) ∧ W.cell? ⟨w3.heap.size, 3, none⟩ = some (.string F3) ∧ W.cell? ⟨w3.heap.size, 4, none⟩ = some (.string F4) ∧ W.cell? ⟨w3.heap.size, 5, none⟩ = some (.string F5) ∧ W.cell? ⟨w3.heap.size, 6, none⟩ = some (.string F6) ∧ W.cell? ⟨w3.heap.size, 7, none⟩ = some (.string F7)) := HZ3.out
          clear HZ3
          have q0 : (F0.toList == F0.toList) = true := by simp
          have q1 : (F1.toList == F1.toList) = true := by simp
          have q2 : (F2.toList == F2.toList) = true := by simp
          have q3 : (F3.toList == F3.toList) = true := by simp
          have q4 : (F4.toList == F4.toList) = true := by simp
          have q5 : (F5.toList == F5.toList) = true := by simp
          have q6 : (F6.toList == F6.toList) = true := by simp
          have q7 : (F7.toList == F7.toList) = true := by simp
          go_wp2_with (first
            | (go_at_call 24; (with_reducible refine HOf.out.mono ?_); rintro e w9 ⟨u9, rfl, hu9, b9⟩; have hsl9 := texts_sl hu9; obtain ⟨A0, N0, C0, E0⟩ := hsl9 0 (by omega); obtain ⟨A1, N1, C1, E1⟩ := hsl9 1 (by omega); obtain ⟨A2, N2, C2, E2⟩ := hsl9 2 (by omega); obtain ⟨A3, N3, C3, E3⟩ := hsl9 3 (by omega); obtain ⟨A4, N4, C4, E4⟩ := hsl9 4 (by omega); obtain ⟨A5, N5, C5, E5⟩ := hsl9 5 (by omega); obtain ⟨A6, N6, C6, E6⟩ := hsl9 6 (by omega); obtain ⟨A7, N7, C7, E7⟩ := hsl9 7 (by omega); have hU9 : agg8 u9 = .agg #[.slice A0 N0 C0, .slice A1 N1 C1, .slice A2 N2 C2, .slice A3 N3 C3, .slice A4 N4 C4, .slice A5 N5 C5, .slice A6 N6 C6, .slice A7 N7 C7] := (by rw [agg8, E0, E1, E2, E3, E4, E5, E6, E7]); rw [hU9]; have HU9 := Lib.hid hU9; have P9 : Hid (Below w9.heap.size w9 (w9.alloc (.cells #[.slice A0 N0 C0, .slice A1 N1 C1, .slice A2 N2 C2, .slice A3 N3 C3, .slice A4 N4 C4, .slice A5 N5 C5, .slice A6 N6 C6, .slice A7 N7 C7] 24))) := (Below.refl _ _).alloc (Nat.le_refl _) _; have B9 := Lib.hid ((HE0.out.trans (b9.mono HE0.out.size)).alloc (HE0.out.trans (b9.mono HE0.out.size)).size (.cells #[.slice A0 N0 C0, .slice A1 N1 C1, .slice A2 N2 C2, .slice A3 N3 C3, .slice A4 N4 C4, .slice A5 N5 C5, .slice A6 N6 C6, .slice A7 N7 C7] 24)); have T9 := Lib.hid ((HT0.out.trans (b9.mono HT0.out.size)).alloc (HT0.out.trans (b9.mono HT0.out.size)).size (.cells #[.slice A0 N0 C0, .slice A1 N1 C1, .slice A2 N2 C2, .slice A3 N3 C3, .slice A4 N4 C4, .slice A5 N5 C5, .slice A6 N6 C6, .slice A7 N7 C7] 24)); have HV9 := Lib.hid hu9; clear hU9 hsl9 hu9 b9 E0 E1 E2 E3 E4 E5 E6 E7; (try clear x0 x1 x2 x3 x4 x5 x6 x7 y0 y1 y2 y3 y4 y5 y6 y7); obtain ⟨x0, x1, x2, x3, x4, x5, x6, x7, y0, y1, y2, y3, y4, y5, y6, y7⟩ := HCe.out _ B9.out)
            | (go_at_call 12; (with_reducible refine (by rw [← HU9.out]; exact HC2.out _ u9 B9.out (fun k hk => (HV9.out k hk).below P9.out) : Calls _ _ _ _ _).mono ?_); rintro e w10 ⟨rfl, b10⟩; have B10 := Lib.hid ((B9.out.trans (b10.mono B9.out.size)).alloc (B9.out.trans (b10.mono B9.out.size)).size (.cells #[.string F0, .string F1, .string F2, .string F3, .string F4, .string F5, .string F6, .string F7] 28)); have T10 := Lib.hid ((T9.out.trans (b10.mono T9.out.size)).alloc (T9.out.trans (b10.mono T9.out.size)).size (.cells #[.string F0, .string F1, .string F2, .string F3, .string F4, .string F5, .string F6, .string F7] 28)); have HZ10 := Lib.hid (ch_box8 (w := w10) (cs := #[.string F0, .string F1, .string F2, .string F3, .string F4, .string F5, .string F6, .string F7])); clear b10)
            | (go_at_call 11; (with_reducible refine (HAw.out _ (HBt.out _ B10.out)).mono ?_); rintro e w11 ⟨rfl, b11⟩; have B11 := Lib.hid (B10.out.trans (b11.mono B10.out.size)); have T11 := Lib.hid (T10.out.trans (b11.mono T10.out.size)); obtain ⟨z0, z1, z2, z3, z4, z5, z6, z7⟩ := HZc.out _ T11.out; obtain ⟨v0, v1, v2, v3, v4, v5, v6, v7⟩ := HZ10.out _ b11; clear b11)
            | fail)
          go_ret
          exact ⟨rfl, HBt.out _ B11.out⟩
end Go.Proofs.YtihkhcocfhbekaaDoor
