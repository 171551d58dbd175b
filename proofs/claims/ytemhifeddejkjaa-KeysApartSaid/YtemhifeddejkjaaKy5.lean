/- Layer 21: the law KeysApart. -/
import Derived.Test.YtemhifeddejkjaaKy4
import Derived.Deep.DeepCutAuto
import Derived.Deep.CutRange
namespace Go.Proofs.Ytemhifeddejkjaa
open Go.RowKit

/-- An arena that grew, with new rows of six zeros beside it. -/
structure Gs (B : Nat) (w0 : World) (A : Nat) (P : List (Int × List UInt8)) (n : Nat) (W5 : World) (zs : List Nat) (W : World) : Prop where
  ta : Ta B w0 A P n W
  kept : Kept W5 W
  row : ∀ b ∈ zs, Holds W b 36 #[.int .i64 0, .int .i64 0, .int .i64 0, .int .i64 0, .int .i64 0, .int .i64 0] ∧ W5.heap.size ≤ b ∧ B ≤ b
  apart : zs.Nodup
section
variable {B A n : Nat} {w0 W W5 : World} {P : List (Int × List UInt8)} {zs : List Nat}
theorem Gs.drew (h : Gs B w0 A P n W5 zs W) : Gs B w0 A P n W5 zs W.drew := ⟨h.ta.drew, h.kept.trans (Kept.ofBelow (Below.refl _ _).drew), h.row, h.apart⟩
theorem Gs.new (h : Gs B w0 A P n W5 zs W) : Gs B w0 A P n W5 (W.heap.size :: zs) (W.alloc (.cells #[.int .i64 0, .int .i64 0, .int .i64 0, .int .i64 0, .int .i64 0, .int .i64 0] 36)) := by
  have hb : Below W.heap.size W (W.alloc (.cells #[.int .i64 0, .int .i64 0, .int .i64 0, .int .i64 0, .int .i64 0, .int .i64 0] 36)) := (Below.refl _ _).alloc (Nat.le_refl _) _
  refine ⟨h.ta.below hb, h.kept.trans (Kept.ofBelow hb), fun b hm => ?_, ?_⟩
  · rcases List.mem_cons.1 hm with rfl | hm
    · exact ⟨Holds.new W _ _, h.kept.size, Nat.le_of_lt h.ta.lt⟩
    · obtain ⟨h1, h2, h3⟩ := h.row b hm
      exact ⟨(Kept.ofBelow hb).hold _ _ _ (by decide) (by decide) h1, h2, h3⟩
  · refine List.nodup_cons.2 ⟨fun hm => ?_, h.apart⟩
    have := (h.row _ hm).1.lt
    omega
theorem gs_six (h : Gs B w0 A P n W5 zs W) (hn : n ≤ 1000) {i j k : Int} {x y z : List UInt8} (hi : (i, x) ∈ P) (hj : (j, y) ∈ P) (hk : (k, z) ∈ P) :
    Calls Try.prog 10 #[.pointer (some ⟨A, 0, none⟩), .int .i64 i, .int .i64 j, .int .i64 k] W fun r w' => ∃ k0 k1 k2 k3 k4 k5 : Int, r = .returned (.agg #[.int .i64 k0, .int .i64 k1, .int .i64 k2, .int .i64 k3, .int .i64 k4, .int .i64 k5]) ∧ Gs B w0 A (sixP x y z [k0, k1, k2, k3, k4, k5] ++ P) (n + 6) W5 zs w' :=
  (kSix_any h.ta (by omega) hi hj hk).mono fun r w' ⟨k0, k1, k2, k3, k4, k5, h1, h2, h3⟩ => ⟨k0, k1, k2, k3, k4, k5, h1, h2, h.kept.trans h3, fun b hb => ⟨h3.hold _ _ _ (by decide) (by decide) (h.row b hb).1, (h.row b hb).2⟩, h.apart⟩
theorem six_cells {b : Nat} (h : Holds W b 36 #[.int .i64 0, .int .i64 0, .int .i64 0, .int .i64 0, .int .i64 0, .int .i64 0]) : W.cell? ⟨b, 0, none⟩ = some (.int .i64 0) ∧ W.cell? ⟨b, 1, none⟩ = some (.int .i64 0) ∧ W.cell? ⟨b, 2, none⟩ = some (.int .i64 0) ∧ W.cell? ⟨b, 3, none⟩ = some (.int .i64 0) ∧ W.cell? ⟨b, 4, none⟩ = some (.int .i64 0) ∧ W.cell? ⟨b, 5, none⟩ = some (.int .i64 0) ∧ W.frozen? ⟨b, 0, none⟩ = false ∧ W.frozen? ⟨b, 1, none⟩ = false ∧ W.frozen? ⟨b, 2, none⟩ = false ∧ W.frozen? ⟨b, 3, none⟩ = false ∧ W.frozen? ⟨b, 4, none⟩ = false ∧ W.frozen? ⟨b, 5, none⟩ = false :=
  ⟨h.cell 0, h.cell 1, h.cell 2, h.cell 3, h.cell 4, h.cell 5, h.frozen 0, h.frozen 1, h.frozen 2, h.frozen 3, h.frozen 4, h.frozen 5⟩
theorem Gs.one {a : Nat} {l : List Nat} (h : Gs B w0 A P n W5 (a :: l) W) : Holds W a 36 #[.int .i64 0, .int .i64 0, .int .i64 0, .int .i64 0, .int .i64 0, .int .i64 0] ∧ a < W.heap.size := ⟨(h.row a (.head _)).1, (h.row a (.head _)).1.lt⟩
theorem Gs.two {a b : Nat} {l : List Nat} (h : Gs B w0 A P n W5 (a :: b :: l) W) : Holds W b 36 #[.int .i64 0, .int .i64 0, .int .i64 0, .int .i64 0, .int .i64 0, .int .i64 0] ∧ b < W.heap.size ∧ a ≠ b ∧ b ≠ a := by
  have hne : a ≠ b := fun e => (List.nodup_cons.1 h.apart).1 (e ▸ .head _)
  exact ⟨(h.row b (.tail _ (.head _))).1, (h.row b (.tail _ (.head _))).1.lt, hne, hne.symm⟩
/-- Both rows stored. -/
structure SixTwo (B : Nat) (w0 : World) (A : Nat) (P : List (Int × List UInt8)) (n : Nat) (W5 : World) (S T : Array Value) (b c : Nat) (W : World) : Prop where
  ta : Ta B w0 A P n W
  kept : Kept W5 W
  s : Holds W b 36 S
  t : Holds W c 36 T
theorem Kept.past {W5 W W' : World} (h : Kept W5 W) {b : Nat} (hb : W5.heap.size ≤ b) (m : Moves (fun i => i = b) W W') : Kept W5 W' :=
  ⟨Nat.le_trans h.size m.size, fun g t cs h1 h2 h3 => (h.hold g t cs h1 h2 h3).moves m fun e => by have := h3.lt; omega⟩
theorem Ta.past {W' : World} (h : Ta B w0 A P n W) {b : Nat} {cs : Array Value} (hh : Holds W b 36 cs) (hb : B ≤ b) (m : Moves (fun i => i = b) W W') : Ta B w0 A P n W' := by
  obtain ⟨⟨L, F, ha, h3⟩, h4⟩ := h
  have hn := arena_ne ha hh (by decide) (by decide)
  have := ha.lt A ha.self
  exact ⟨⟨L, F, ha.moves m (fun k hk e => hn (e ▸ hk)), h3⟩, h4.trans (m.below (by omega) (fun i e => by rw [e]; exact hb))⟩
theorem chain_moves (w : World) (b : Nat) (k0 k1 k2 k3 k4 k5 : Int) : Moves (fun i => i = b) w ((((((w.setCell ⟨b, 0, none⟩ (.int .i64 k0)).setCell ⟨b, 1, none⟩ (.int .i64 k1)).setCell ⟨b, 2, none⟩ (.int .i64 k2)).setCell ⟨b, 3, none⟩ (.int .i64 k3)).setCell ⟨b, 4, none⟩ (.int .i64 k4)).setCell ⟨b, 5, none⟩ (.int .i64 k5)) := ((((((Moves.refl (fun i => i = b) w).setCell (p := ⟨b, 0, none⟩) (.inl rfl) (.int .i64 k0)).setCell (p := ⟨b, 1, none⟩) (.inl rfl) (.int .i64 k1)).setCell (p := ⟨b, 2, none⟩) (.inl rfl) (.int .i64 k2)).setCell (p := ⟨b, 3, none⟩) (.inl rfl) (.int .i64 k3)).setCell (p := ⟨b, 4, none⟩) (.inl rfl) (.int .i64 k4)).setCell (p := ⟨b, 5, none⟩) (.inl rfl) (.int .i64 k5)
theorem chain_holds {w : World} {b : Nat} (h : Holds w b 36 #[.int .i64 0, .int .i64 0, .int .i64 0, .int .i64 0, .int .i64 0, .int .i64 0]) (k0 k1 k2 k3 k4 k5 : Int) : Holds ((((((w.setCell ⟨b, 0, none⟩ (.int .i64 k0)).setCell ⟨b, 1, none⟩ (.int .i64 k1)).setCell ⟨b, 2, none⟩ (.int .i64 k2)).setCell ⟨b, 3, none⟩ (.int .i64 k3)).setCell ⟨b, 4, none⟩ (.int .i64 k4)).setCell ⟨b, 5, none⟩ (.int .i64 k5)) b 36 #[.int .i64 k0, .int .i64 k1, .int .i64 k2, .int .i64 k3, .int .i64 k4, .int .i64 k5] := (Holds.set (Holds.set (Holds.set (Holds.set (Holds.set (Holds.set h 0 (.int .i64 k0)) 1 (.int .i64 k1)) 2 (.int .i64 k2)) 3 (.int .i64 k3)) 4 (.int .i64 k4)) 5 (.int .i64 k5))
theorem Gs.chain {b : Nat} (h : Gs B w0 A P n W5 zs W) (hb : b ∈ zs) (k0 k1 k2 k3 k4 k5 : Int) : Kept W5 ((((((W.setCell ⟨b, 0, none⟩ (.int .i64 k0)).setCell ⟨b, 1, none⟩ (.int .i64 k1)).setCell ⟨b, 2, none⟩ (.int .i64 k2)).setCell ⟨b, 3, none⟩ (.int .i64 k3)).setCell ⟨b, 4, none⟩ (.int .i64 k4)).setCell ⟨b, 5, none⟩ (.int .i64 k5)) := h.kept.past (h.row b hb).2.1 (chain_moves W b k0 k1 k2 k3 k4 k5)
theorem two_new (h : Gs B w0 A P n W5 zs W) (S T : Array Value) : SixTwo B w0 A P n W5 S T W.heap.size (W.heap.size + 1) ((W.alloc (.cells S 36)).alloc (.cells T 36)) := by
  have hb : Below W.heap.size W ((W.alloc (.cells S 36)).alloc (.cells T 36)) := ((Below.refl _ _).alloc (Nat.le_refl _) _).alloc (by simp) _
  refine ⟨h.ta.below hb, h.kept.trans (Kept.ofBelow hb), (Holds.new W 36 S).moves ((Moves.refl nobody _).alloc _) (fun h => h), ?_⟩
  have := Holds.new (W.alloc (.cells S 36)) 36 T
  rwa [World.size_alloc] at this
theorem SixTwo.swap {S T : Array Value} {b c : Nat} (h : SixTwo B w0 A P n W5 S T b c W) : SixTwo B w0 A P n W5 T S c b W := ⟨h.ta, h.kept, h.t, h.s⟩
theorem two_one {b : Nat} (h : Gs B w0 A P n W5 zs W) (hb : b ∈ zs) (k0 k1 k2 k3 k4 k5 : Int) (T : Array Value) {N : Nat} (hN : N = W.heap.size) : SixTwo B w0 A P n W5 #[.int .i64 k0, .int .i64 k1, .int .i64 k2, .int .i64 k3, .int .i64 k4, .int .i64 k5] T b N (((((((W.setCell ⟨b, 0, none⟩ (.int .i64 k0)).setCell ⟨b, 1, none⟩ (.int .i64 k1)).setCell ⟨b, 2, none⟩ (.int .i64 k2)).setCell ⟨b, 3, none⟩ (.int .i64 k3)).setCell ⟨b, 4, none⟩ (.int .i64 k4)).setCell ⟨b, 5, none⟩ (.int .i64 k5)).alloc (.cells T 36)) := by
  obtain ⟨h1, h2, h3⟩ := h.row b hb
  have m := chain_moves W b k0 k1 k2 k3 k4 k5
  have hs := chain_holds h1 k0 k1 k2 k3 k4 k5
  have t1 := h.ta.past h1 h3 m
  have kk := h.kept.past h2 m
  have hsz : ((((((W.setCell ⟨b, 0, none⟩ (.int .i64 k0)).setCell ⟨b, 1, none⟩ (.int .i64 k1)).setCell ⟨b, 2, none⟩ (.int .i64 k2)).setCell ⟨b, 3, none⟩ (.int .i64 k3)).setCell ⟨b, 4, none⟩ (.int .i64 k4)).setCell ⟨b, 5, none⟩ (.int .i64 k5)).heap.size = W.heap.size := by simp [World.setCell]
  have hnew := Holds.new ((((((W.setCell ⟨b, 0, none⟩ (.int .i64 k0)).setCell ⟨b, 1, none⟩ (.int .i64 k1)).setCell ⟨b, 2, none⟩ (.int .i64 k2)).setCell ⟨b, 3, none⟩ (.int .i64 k3)).setCell ⟨b, 4, none⟩ (.int .i64 k4)).setCell ⟨b, 5, none⟩ (.int .i64 k5)) 36 T
  rw [hsz, ← hN] at hnew
  generalize ((((((W.setCell ⟨b, 0, none⟩ (.int .i64 k0)).setCell ⟨b, 1, none⟩ (.int .i64 k1)).setCell ⟨b, 2, none⟩ (.int .i64 k2)).setCell ⟨b, 3, none⟩ (.int .i64 k3)).setCell ⟨b, 4, none⟩ (.int .i64 k4)).setCell ⟨b, 5, none⟩ (.int .i64 k5)) = W2 at *
  have hbl : Below W2.heap.size W2 (W2.alloc (.cells T 36)) := (Below.refl _ _).alloc (Nat.le_refl _) _
  exact ⟨t1.below hbl, kk.trans (Kept.ofBelow hbl), (Kept.ofBelow hbl).hold _ _ _ (by decide) (by decide) hs, hnew⟩
theorem two_none {b c : Nat} (h : Gs B w0 A P n W5 zs W) (hb : b ∈ zs) (hc : c ∈ zs) (hne : b ≠ c) (k0 k1 k2 k3 k4 k5 m0 m1 m2 m3 m4 m5 : Int) : SixTwo B w0 A P n W5 #[.int .i64 k0, .int .i64 k1, .int .i64 k2, .int .i64 k3, .int .i64 k4, .int .i64 k5] #[.int .i64 m0, .int .i64 m1, .int .i64 m2, .int .i64 m3, .int .i64 m4, .int .i64 m5] b c ((((((((((((W.setCell ⟨b, 0, none⟩ (.int .i64 k0)).setCell ⟨b, 1, none⟩ (.int .i64 k1)).setCell ⟨b, 2, none⟩ (.int .i64 k2)).setCell ⟨b, 3, none⟩ (.int .i64 k3)).setCell ⟨b, 4, none⟩ (.int .i64 k4)).setCell ⟨b, 5, none⟩ (.int .i64 k5)).setCell ⟨c, 0, none⟩ (.int .i64 m0)).setCell ⟨c, 1, none⟩ (.int .i64 m1)).setCell ⟨c, 2, none⟩ (.int .i64 m2)).setCell ⟨c, 3, none⟩ (.int .i64 m3)).setCell ⟨c, 4, none⟩ (.int .i64 m4)).setCell ⟨c, 5, none⟩ (.int .i64 m5)) := by
  obtain ⟨h1, h2, h3⟩ := h.row b hb
  obtain ⟨g1, g2, g3⟩ := h.row c hc
  have m := chain_moves W b k0 k1 k2 k3 k4 k5
  have hs := chain_holds h1 k0 k1 k2 k3 k4 k5
  have t1 := h.ta.past h1 h3 m
  have kk := h.kept.past h2 m
  have hc1 := g1.moves m (fun e => hne e.symm)
  generalize ((((((W.setCell ⟨b, 0, none⟩ (.int .i64 k0)).setCell ⟨b, 1, none⟩ (.int .i64 k1)).setCell ⟨b, 2, none⟩ (.int .i64 k2)).setCell ⟨b, 3, none⟩ (.int .i64 k3)).setCell ⟨b, 4, none⟩ (.int .i64 k4)).setCell ⟨b, 5, none⟩ (.int .i64 k5)) = W2 at *
  have mm := chain_moves W2 c m0 m1 m2 m3 m4 m5
  exact ⟨t1.past hc1 g3 mm, kk.past g2 mm, hs.moves mm (fun e => hne e), chain_holds hc1 m0 m1 m2 m3 m4 m5⟩
end
end Go.Proofs.Ytemhifeddejkjaa
