/- Part 27 of what the statement wants. -/
import Derived.Laws.NewBlocks
import Derived.Deep.AppendLies
import Derived.Laws.Rows
import Derived.Deep.RegionHeld3
import Derived.Test.YtgoinpibllomfaaDoorPk00
import Derived.Test.YtgoinpibllomfaaDoorPk23
import Derived.Test.YtgoinpibllomfaaDoorPk25
import Derived.Test.YtgoinpibllomfaaDoorPk26
namespace Go.Proofs.YtgoinpibllomfaaDoor
open Go.RowKit

theorem texts_setO {w : World} {v : Value} {l : List ByteArray} {g : Nat} (h : TextsO w v l) (hv : l ≠ [] → ∀ b, v.ownBlock = some b → b ≠ g) (R : Array Value) : TextsO (w.setRow g R) v l :=
  ⟨texts_set h.1 hv R, fun hne b hb => by
    obtain ⟨cur, hc⟩ := h.2 hne b hb
    exact ⟨cur, cell_row hc (hv hne b hb) R⟩⟩
/-- Eight lists copied: all of them new, and their own. -/
def Copied8O (w : World) (p : Nat → List (List UInt8)) (e : Ending) (w' : World) : Prop := ∃ u : Nat → Value, e = .returned (agg8 u) ∧ (∀ k < 8, TextsO w' (u k) ((p k).map bs)) ∧ (∀ k < 8, Nil0 (u k)) ∧ (∀ k < 8, p k ≠ [] → ∀ g, (u k).ownBlock = some g → w.heap.size < g) ∧ Below w.heap.size w w'
set_option maxHeartbeats 2000000 in
set_option maxRecDepth 100000 in
theorem cfCopyP_own {w : World} {u : Nat → Value} {p : Nat → List (List UInt8)} (h : ∀ k < 8, TextsAt w (u k) ((p k).map bs)) (hl : ∀ k < 8, (p k).length ≤ 1000) : Calls Tryd.prog 40 #[agg8 u] w (Copied8O w p) := by
  have hsl := texts_sl h
  obtain ⟨a0, n0, c0, e0⟩ := hsl 0 (by omega); obtain ⟨a1, n1, c1, e1⟩ := hsl 1 (by omega); obtain ⟨a2, n2, c2, e2⟩ := hsl 2 (by omega); obtain ⟨a3, n3, c3, e3⟩ := hsl 3 (by omega); obtain ⟨a4, n4, c4, e4⟩ := hsl 4 (by omega); obtain ⟨a5, n5, c5, e5⟩ := hsl 5 (by omega); obtain ⟨a6, n6, c6, e6⟩ := hsl 6 (by omega); obtain ⟨a7, n7, c7, e7⟩ := hsl 7 (by omega)
  have hX : agg8 u = .agg #[.slice a0 n0 c0, .slice a1 n1 c1, .slice a2 n2 c2, .slice a3 n3 c3, .slice a4 n4 c4, .slice a5 n5 c5, .slice a6 n6 c6, .slice a7 n7 c7] := by unfold agg8; rw [e0, e1, e2, e3, e4, e5, e6, e7]
  have hb : Below w.heap.size w ((w.alloc (.cells #[.slice a0 n0 c0, .slice a1 n1 c1, .slice a2 n2 c2, .slice a3 n3 c3, .slice a4 n4 c4, .slice a5 n5 c5, .slice a6 n6 c6, .slice a7 n7 c7] 46)).alloc (.cells #[.slice none 0 0, .slice none 0 0, .slice none 0 0, .slice none 0 0, .slice none 0 0, .slice none 0 0, .slice none 0 0, .slice none 0 0] 46)) := ((Below.refl _ _).alloc (Nat.le_refl _) _).alloc (by simp only [World.size_alloc]; omega) _
  have hN := And.intro (show Holds _ w.heap.size 46 #[.slice a0 n0 c0, .slice a1 n1 c1, .slice a2 n2 c2, .slice a3 n3 c3, .slice a4 n4 c4, .slice a5 n5 c5, .slice a6 n6 c6, .slice a7 n7 c7] from first2_row w #[.slice a0 n0 c0, .slice a1 n1 c1, .slice a2 n2 c2, .slice a3 n3 c3, .slice a4 n4 c4, .slice a5 n5 c5, .slice a6 n6 c6, .slice a7 n7 c7] 46 (.cells #[.slice none 0 0, .slice none 0 0, .slice none 0 0, .slice none 0 0, .slice none 0 0, .slice none 0 0, .slice none 0 0, .slice none 0 0] 46) rfl) (show Holds _ (w.heap.size + 1) 46 #[.slice none 0 0, .slice none 0 0, .slice none 0 0, .slice none 0 0, .slice none 0 0, .slice none 0 0, .slice none 0 0, .slice none 0 0] from last2_row w #[.slice none 0 0, .slice none 0 0, .slice none 0 0, .slice none 0 0, .slice none 0 0, .slice none 0 0, .slice none 0 0, .slice none 0 0] 46 (.cells #[.slice a0 n0 c0, .slice a1 n1 c1, .slice a2 n2 c2, .slice a3 n3 c3, .slice a4 n4 c4, .slice a5 n5 c5, .slice a6 n6 c6, .slice a7 n7 c7] 46) rfl)
  have HL : Hid (Calls Tryd.prog 56 #[.agg #[.slice a0 n0 c0, .slice a1 n1 c1, .slice a2 n2 c2, .slice a3 n3 c3, .slice a4 n4 c4, .slice a5 n5 c5, .slice a6 n6 c6, .slice a7 n7 c7]] ((w.alloc (.cells #[.slice a0 n0 c0, .slice a1 n1 c1, .slice a2 n2 c2, .slice a3 n3 c3, .slice a4 n4 c4, .slice a5 n5 c5, .slice a6 n6 c6, .slice a7 n7 c7] 46)).alloc (.cells #[.slice none 0 0, .slice none 0 0, .slice none 0 0, .slice none 0 0, .slice none 0 0, .slice none 0 0, .slice none 0 0, .slice none 0 0] 46)) fun e w' => ∃ (b c : Nat) (u' : Nat → Value), e = .returned (.slice (some ⟨b, 0, none⟩) 8 c) ∧ b < w'.heap.size ∧ 8 ≤ c ∧ (∀ k < 8, w'.cell? ⟨b, k, none⟩ = some (u' k) ∧ TextsAt w' (u' k) ((p k).map bs)) ∧ Below ((w.alloc (.cells #[.slice a0 n0 c0, .slice a1 n1 c1, .slice a2 n2 c2, .slice a3 n3 c3, .slice a4 n4 c4, .slice a5 n5 c5, .slice a6 n6 c6, .slice a7 n7 c7] 46)).alloc (.cells #[.slice none 0 0, .slice none 0 0, .slice none 0 0, .slice none 0 0, .slice none 0 0, .slice none 0 0, .slice none 0 0, .slice none 0 0] 46)).heap.size ((w.alloc (.cells #[.slice a0 n0 c0, .slice a1 n1 c1, .slice a2 n2 c2, .slice a3 n3 c3, .slice a4 n4 c4, .slice a5 n5 c5, .slice a6 n6 c6, .slice a7 n7 c7] 46)).alloc (.cells #[.slice none 0 0, .slice none 0 0, .slice none 0 0, .slice none 0 0, .slice none 0 0, .slice none 0 0, .slice none 0 0, .slice none 0 0] 46)) w') := by
    show Calls _ _ _ _ _
    rw [← hX]
    exact pfLists_any (fun k hk => (h k hk).below hb) hl
  have HO : Hid (∀ (W : World) (u : Nat → Value) (b c : Nat), b < W.heap.size → (∀ k < 8, W.cell? ⟨b, k, none⟩ = some (u k) ∧ TextsAt W (u k) ((p k).map bs)) → Calls Tryd.prog 55 #[.slice (some ⟨b, 0, none⟩) 8 c] W fun e w' => ∃ u' : Nat → Value, e = .returned (.tuple #[agg8 u', .bool true]) ∧ (∀ k < 8, TextsO w' (u' k) ((p k).map bs)) ∧ (∀ k < 8, Nil0 (u' k)) ∧ (∀ k < 8, p k ≠ [] → ∀ g, (u' k).ownBlock = some g → W.heap.size < g) ∧ Below W.heap.size W w') := fun W u b c h1 h2 => pfOf_own h1 h2 hl
  have HB := Lib.hid hb
  have HN := Lib.hid hN
  rw [hX]
  clear h hl hsl hX hb hN e0 e1 e2 e3 e4 e5 e6 e7
  go_enter Tryd.func40, Tryd.ntmps40
  go_wp2_with (first
    | (go_at_call 56; (with_reducible refine HL.out.mono ?_); rintro e w1 ⟨b, c, u1, rfl, hlt, _, hc1, b1⟩; have H1 := Lib.hid (And.intro hlt hc1); have B1 := Lib.hid b1; clear hlt hc1 b1)
    | (go_at_call 55; (with_reducible refine (HO.out _ _ _ _ H1.out.1 H1.out.2).mono ?_); rintro e w2 ⟨u2, rfl, ht, hz, hf, bb2⟩; obtain ⟨b0, m0, d0, f0⟩ := (texts_sl (fun k hk => (ht k hk).1)) 0 (by omega); obtain ⟨b1, m1, d1, f1⟩ := (texts_sl (fun k hk => (ht k hk).1)) 1 (by omega); obtain ⟨b2, m2, d2, f2⟩ := (texts_sl (fun k hk => (ht k hk).1)) 2 (by omega); obtain ⟨b3, m3, d3, f3⟩ := (texts_sl (fun k hk => (ht k hk).1)) 3 (by omega); obtain ⟨b4, m4, d4, f4⟩ := (texts_sl (fun k hk => (ht k hk).1)) 4 (by omega); obtain ⟨b5, m5, d5, f5⟩ := (texts_sl (fun k hk => (ht k hk).1)) 5 (by omega); obtain ⟨b6, m6, d6, f6⟩ := (texts_sl (fun k hk => (ht k hk).1)) 6 (by omega); obtain ⟨b7, m7, d7, f7⟩ := (texts_sl (fun k hk => (ht k hk).1)) 7 (by omega); have hX2 : agg8 u2 = .agg #[.slice b0 m0 d0, .slice b1 m1 d1, .slice b2 m2 d2, .slice b3 m3 d3, .slice b4 m4 d4, .slice b5 m5 d5, .slice b6 m6 d6, .slice b7 m7 d7] := (by unfold agg8; rw [f0, f1, f2, f3, f4, f5, f6, f7]); rw [hX2]; have HX2 := Lib.hid hX2; have HT := Lib.hid ht; have HZ := Lib.hid hz; have HF := Lib.hid hf; have B2 := Lib.hid (B1.out.trans (bb2.mono B1.out.size)); have B1s := Lib.hid B1.out.size; clear ht hz hf bb2 hX2 f0 f1 f2 f3 f4 f5 f6 f7)
    | (refine wpList_store_row rfl 46 _ _ rfl w.heap.size #[.slice b0 m0 d0, .slice b1 m1 d1, .slice b2 m2 d2, .slice b3 m3 d3, .slice b4 m4 d4, .slice b5 m5 d5, .slice b6 m6 d6, .slice b7 m7 d7] rfl rfl 46 #[.slice a0 n0 c0, .slice a1 n1 c1, .slice a2 n2 c2, .slice a3 n3 c3, .slice a4 n4 c4, .slice a5 n5 c5, .slice a6 n6 c6, .slice a7 n7 c7] ((B2.out.block _ HN.out.1.lt).trans HN.out.1) (by exact sizePrefs) (by rfl) (by simp [Value.oneCell']) ?_; have HR1 := Lib.hid (setRow_heap w2 w.heap.size #[.slice a0 n0 c0, .slice a1 n1 c1, .slice a2 n2 c2, .slice a3 n3 c3, .slice a4 n4 c4, .slice a5 n5 c5, .slice a6 n6 c6, .slice a7 n7 c7] #[.slice b0 m0 d0, .slice b1 m1 d1, .slice b2 m2 d2, .slice b3 m3 d3, .slice b4 m4 d4, .slice b5 m5 d5, .slice b6 m6 d6, .slice b7 m7 d7] 46 (0, 0) ((B2.out.block _ HN.out.1.lt).trans HN.out.1)); have HR2 := Lib.hid ((setRow_other w2 w.heap.size (w.heap.size + 1) #[.slice b0 m0 d0, .slice b1 m1 d1, .slice b2 m2 d2, .slice b3 m3 d3, .slice b4 m4 d4, .slice b5 m5 d5, .slice b6 m6 d6, .slice b7 m7 d7] (by omega)).trans ((B2.out.block _ HN.out.2.lt).trans HN.out.2)); obtain ⟨w3, hw3⟩ : ∃ w3, Hid (w3 = w2.setRow w.heap.size #[.slice b0 m0 d0, .slice b1 m1 d1, .slice b2 m2 d2, .slice b3 m3 d3, .slice b4 m4 d4, .slice b5 m5 d5, .slice b6 m6 d6, .slice b7 m7 d7]) := ⟨_, Lib.hid rfl⟩; rw [← hw3.out] at HR1 HR2 ⊢)
    | (refine wpList_load_row rfl 46 _ rfl w.heap.size rfl 46 #[.slice b0 m0 d0, .slice b1 m1 d1, .slice b2 m2 d2, .slice b3 m3 d3, .slice b4 m4 d4, .slice b5 m5 d5, .slice b6 m6 d6, .slice b7 m7 d7] (0, 0) _ HR1.out Tryd.underlying46 rfl (by exact sizePrefs) ?_)
    | (refine wpList_store_row rfl 46 _ _ rfl (w.heap.size + 1) #[.slice b0 m0 d0, .slice b1 m1 d1, .slice b2 m2 d2, .slice b3 m3 d3, .slice b4 m4 d4, .slice b5 m5 d5, .slice b6 m6 d6, .slice b7 m7 d7] rfl rfl 46 #[.slice none 0 0, .slice none 0 0, .slice none 0 0, .slice none 0 0, .slice none 0 0, .slice none 0 0, .slice none 0 0, .slice none 0 0] HR2.out (by exact sizePrefs) (by rfl) (by simp [Value.oneCell']) ?_; have HR3 := Lib.hid (setRow_heap w3 (w.heap.size + 1) #[.slice none 0 0, .slice none 0 0, .slice none 0 0, .slice none 0 0, .slice none 0 0, .slice none 0 0, .slice none 0 0, .slice none 0 0] #[.slice b0 m0 d0, .slice b1 m1 d1, .slice b2 m2 d2, .slice b3 m3 d3, .slice b4 m4 d4, .slice b5 m5 d5, .slice b6 m6 d6, .slice b7 m7 d7] 46 (0, 0) HR2.out); obtain ⟨w4, hw4⟩ : ∃ w4, Hid (w4 = w3.setRow (w.heap.size + 1) #[.slice b0 m0 d0, .slice b1 m1 d1, .slice b2 m2 d2, .slice b3 m3 d3, .slice b4 m4 d4, .slice b5 m5 d5, .slice b6 m6 d6, .slice b7 m7 d7]) := ⟨_, Lib.hid rfl⟩; rw [← hw4.out] at HR3 ⊢)
    | fail)
  refine bodyPost_ret (results_cell_row rfl _ _ (w.heap.size + 1) _ #[.slice b0 m0 d0, .slice b1 m1 d1, .slice b2 m2 d2, .slice b3 m3 d3, .slice b4 m4 d4, .slice b5 m5 d5, .slice b6 m6 d6, .slice b7 m7 d7] (0, 0) _ rfl HR3.out Tryd.underlying46 rfl (by exact sizePrefs)) rfl ?_
  have hs1 : w.heap.size + 2 ≤ w1.heap.size := by
    have := B1s.out
    simp only [World.size_alloc] at this
    omega
  have hsz := HB.out.size
  simp only [World.size_alloc] at hsz
  have hbl : Below w.heap.size w w2 := HB.out.trans (B2.out.mono HB.out.size)
  refine ⟨u2, by rw [HX2.out], fun k hk => ?_, HZ.out, fun k hk hne g hg => ?_, ?_⟩
  · have hne : ∀ b, (p k).map bs ≠ [] → (u2 k).ownBlock = some b → w1.heap.size < b := fun b h1 h2 => HF.out k hk (fun e => h1 (by rw [e]; rfl)) b h2
    rw [hw4.out, hw3.out]
    exact texts_setO (texts_setO (HT.out k hk) (fun h1 b h2 => by have := hne b h1 h2; omega) _) (fun h1 b h2 => by have := hne b h1 h2; omega) _
  · have := HF.out k hk hne g hg
    omega
  · rw [hw4.out, hw3.out]
    exact below_setRow (below_setRow hbl (Nat.le_refl _) _) (by omega) _
end Go.Proofs.YtgoinpibllomfaaDoor

namespace Go.Proofs.YtgoinpibllomfaaDoor
open Go.RowKit

end Go.Proofs.YtgoinpibllomfaaDoor

namespace Go.Proofs.YtgoinpibllomfaaDoor
open Go.RowKit

end Go.Proofs.YtgoinpibllomfaaDoor

namespace Go.Proofs.YtgoinpibllomfaaDoor
open Go.RowKit

theorem row_one (w : World) (b : UInt8) : (w.alloc (.cells #[.int .u8 (b.toNat : Int)] 5)).ownsRow w.heap.size 5 1 (.slice (some ⟨w.heap.size, 0, none⟩) 1 1) 1 (byteCells [b]) :=
  ⟨rfl, .inr ⟨w.heap.size, 1, #[.int .u8 (b.toNat : Int)], rfl, Nat.le_refl _, heap_alloc_new w _, Nat.le_refl _, by unfold maxLen; omega, rfl, rfl⟩⟩

end Go.Proofs.YtgoinpibllomfaaDoor

namespace Go.Proofs.YtgoinpibllomfaaDoor
open Go.RowKit

/-- What is said, with these lists: ours are new, those of languages are nil. -/
def initV (C : ByteArray) (u : Nat → Value) (p1 p2 p3 p4 p5 : Bool) : Value := .agg #[.string C, u 0, u 1, u 2, u 3, u 4, u 5, u 6, u 7, .slice none 0 0, .slice none 0 0, .bool p1, .bool p2, .bool p3, .bool p4, .bool p5]
def Inits25 (w : World) (C : ByteArray) (p : Nat → List (List UInt8)) (p1 p2 p3 p4 p5 : Bool) (e : Ending) (w' : World) : Prop := ∃ u : Nat → Value, e = .returned (initV C u p1 p2 p3 p4 p5) ∧ (∀ k < 8, TextsAt w' (u k) ((p k).map bs)) ∧ Below w.heap.size w w'
end Go.Proofs.YtgoinpibllomfaaDoor

namespace Go.Proofs.YtgoinpibllomfaaDoor
open Go.RowKit


end Go.Proofs.YtgoinpibllomfaaDoor

namespace Go.Proofs.YtgoinpibllomfaaDoor
open Go.RowKit

theorem below_setCell25 {B : Nat} {w0 w : World} (hb : Below B w0 w) {a : Addr} (ha : B ≤ a.block) (v : Value) : Below B w0 (w.setCell a v) :=
  ⟨hb.os, hb.tape, hb.output, by have := hb.size; simpa using this, fun k hk => (heap_setCell_other w a k v (by omega)).trans (hb.block k hk)⟩
end Go.Proofs.YtgoinpibllomfaaDoor

namespace Go.Proofs.YtgoinpibllomfaaDoor
open Go.RowKit


theorem map_bs_inj {l m : List (List UInt8)} : l.map bs = m.map bs ↔ l = m :=
  ⟨fun h => by
    have e : ∀ l : List (List UInt8), (l.map bs).map (fun x => x.data.toList) = l := fun l => by
      rw [List.map_map]
      conv => rhs; rw [← List.map_id l]
      exact List.map_congr_left fun x _ => by simp [bs]
    rw [← e l, h, e m], fun h => by rw [h]⟩
theorem decide_bs (l m : List (List UInt8)) : decide (l.map bs = m.map bs) = decide (l = m) := by
  by_cases h : l = m
  · rw [decide_eq_true h, decide_eq_true (map_bs_inj.2 h)]
  · rw [decide_eq_false h, decide_eq_false (fun e => h (map_bs_inj.1 e))]
def Same15 (p q : Nat → List (List UInt8)) : Prop := ∀ k < 8, p k = q k
end Go.Proofs.YtgoinpibllomfaaDoor
