/- Part 30 of what the statement wants. -/
import Derived.Test.YtgoinpibllomfaaDoorPk29
namespace Go.Proofs.YtgoinpibllomfaaDoor
open Go.RowKit

theorem holds_as25 {w : World} {b : Nat} {t : TypeId} {R R' : Array Value} (h : Holds w b t R) (e : R = R') : Holds w b t R' := e ▸ h
theorem moves_row25 (w : World) (g : Nat) (cs : Array Value) : Moves (fun i => i = g) w (w.setRow g cs) :=
  ⟨rfl, rfl, rfl, by simp, fun k _ hk => setRow_other w g k cs hk⟩
/-- Eight lists copied, spelled. -/
theorem Copied8O.spelled {w : World} {p : Nat → List (List UInt8)} {e : Ending} {w' : World} (h : Copied8O w p e w') : ∃ q : Nat → Option Addr × Nat × Nat, e = .returned (.agg #[.slice (q 0).1 (q 0).2.1 (q 0).2.2, .slice (q 1).1 (q 1).2.1 (q 1).2.2, .slice (q 2).1 (q 2).2.1 (q 2).2.2, .slice (q 3).1 (q 3).2.1 (q 3).2.2, .slice (q 4).1 (q 4).2.1 (q 4).2.2, .slice (q 5).1 (q 5).2.1 (q 5).2.2, .slice (q 6).1 (q 6).2.1 (q 6).2.2, .slice (q 7).1 (q 7).2.1 (q 7).2.2]) ∧ (∀ k < 8, TextsO w' (.slice (q k).1 (q k).2.1 (q k).2.2) ((p k).map bs)) ∧ (∀ k < 8, p k ≠ [] → ∀ g, (Value.slice (q k).1 (q k).2.1 (q k).2.2).ownBlock = some g → w.heap.size < g) ∧ Below w.heap.size w w' := by
  obtain ⟨u, rfl, hu, _, hn, hb⟩ := h
  have hq : ∀ k, ∃ x : Option Addr × Nat × Nat, k < 8 → u k = .slice x.1 x.2.1 x.2.2 := fun k => by
    by_cases hk : k < 8
    · obtain ⟨a, c, e, _⟩ := (hu k hk).1
      exact ⟨(a, _, c), fun _ => e⟩
    · exact ⟨(none, 0, 0), fun h => absurd h hk⟩
  obtain ⟨q, hq⟩ := Classical.axiomOfChoice hq
  refine ⟨q, ?_, fun k hk => by rw [← hq k hk]; exact hu k hk, fun k hk => by rw [← hq k hk]; exact hn k hk, hb⟩
  unfold agg8
  rw [hq 0 (by omega), hq 1 (by omega), hq 2 (by omega), hq 3 (by omega), hq 4 (by omega), hq 5 (by omega), hq 6 (by omega), hq 7 (by omega)]
set_option maxHeartbeats 8000000 in
set_option maxRecDepth 100000 in
theorem cfCopy_any {w : World} {c : CfV} {d : CfL} (h : CfAt w c d) (hl : ∀ k < 8, (d.p k).length ≤ 1000) (hal : d.al.length ≤ 1000) (hgr : d.gr.length ≤ 1000) (hks : d.ks.length ≤ 1000) :
    Calls Tryd.prog 23 #[.agg c.row] w fun e w' => ∃ c2, e = .returned (.agg c2.row) ∧ CopyOf c d (w.heap.size + 2) w' c2 ∧ Below w.heap.size w w' := by
  obtain ⟨W1, hW1⟩ : ∃ W1, Hid (W1 = ((w.alloc (.cells c.row 51)).alloc (.cells #[.bool false, .string ⟨#[]⟩, .string ⟨#[]⟩, .slice none 0 0, .slice none 0 0, .slice none 0 0, .slice none 0 0, .slice none 0 0, .slice none 0 0, .slice none 0 0, .slice none 0 0, .slice none 0 0, .int .i64 0, .slice none 0 0, .int .i64 0, .int .i64 0, .string ⟨#[]⟩, .slice none 0 0, .bool false, .bool false, .int .u32 0, .int .u32 0, .int .u32 0] 51))) := ⟨_, Lib.hid rfl⟩
  have b1 : Below w.heap.size w W1 := by rw [hW1.out]; exact ((Below.refl _ _).alloc (Nat.le_refl _) _).alloc (by simp only [World.size_alloc]; omega) _
  have hX : Holds W1 w.heap.size 51 c.row := by rw [hW1.out]; exact first2_row w c.row 51 _ rfl
  have hZ : Holds W1 (w.heap.size + 1) 51 #[.bool false, .string ⟨#[]⟩, .string ⟨#[]⟩, .slice none 0 0, .slice none 0 0, .slice none 0 0, .slice none 0 0, .slice none 0 0, .slice none 0 0, .slice none 0 0, .slice none 0 0, .slice none 0 0, .int .i64 0, .slice none 0 0, .int .i64 0, .int .i64 0, .string ⟨#[]⟩, .slice none 0 0, .bool false, .bool false, .int .u32 0, .int .u32 0, .int .u32 0] := by rw [hW1.out]; exact last2_row w _ 51 _ rfl
  have hsz : W1.heap.size = w.heap.size + 2 := by rw [hW1.out]; simp only [World.size_alloc]
  have HP : Hid (Calls Tryd.prog 40 #[.agg #[.slice c.a0 c.n0 c.c0, .slice c.a1 c.n1 c.c1, .slice c.a2 c.n2 c.c2, .slice c.a3 c.n3 c.c3, .slice c.a4 c.n4 c.c4, .slice c.a5 c.n5 c.c5, .slice c.a6 c.n6 c.c6, .slice c.a7 c.n7 c.c7]] W1 fun e w' => ∃ q : Nat → Option Addr × Nat × Nat, e = .returned (.agg #[.slice (q 0).1 (q 0).2.1 (q 0).2.2, .slice (q 1).1 (q 1).2.1 (q 1).2.2, .slice (q 2).1 (q 2).2.1 (q 2).2.2, .slice (q 3).1 (q 3).2.1 (q 3).2.2, .slice (q 4).1 (q 4).2.1 (q 4).2.2, .slice (q 5).1 (q 5).2.1 (q 5).2.2, .slice (q 6).1 (q 6).2.1 (q 6).2.2, .slice (q 7).1 (q 7).2.1 (q 7).2.2]) ∧ (∀ k < 8, TextsO w' (.slice (q k).1 (q k).2.1 (q k).2.2) ((d.p k).map bs)) ∧ (∀ k < 8, d.p k ≠ [] → ∀ g, (Value.slice (q k).1 (q k).2.1 (q k).2.2).ownBlock = some g → W1.heap.size < g) ∧ Below W1.heap.size W1 w') := by
    show Calls _ _ _ _ _
    rw [← show agg8 c.u = .agg #[.slice c.a0 c.n0 c.c0, .slice c.a1 c.n1 c.c1, .slice c.a2 c.n2 c.c2, .slice c.a3 c.n3 c.c3, .slice c.a4 c.n4 c.c4, .slice c.a5 c.n5 c.c5, .slice c.a6 c.n6 c.c6, .slice c.a7 c.n7 c.c7] from rfl]
    exact (cfCopyP_own (h.below b1).pf hl).mono fun e w' hh => hh.spelled
  have HCA : Hid (∀ W, Below w.heap.size w W → Calls Tryd.prog 33 #[.slice c.aa c.na c.ca] W fun e w' => ∃ a n cc, e = .returned (.slice a n cc) ∧ TextsAt w' (.slice a n cc) (d.al.map bs) ∧ OwnFrom w' W.heap.size 9 (.slice a n cc) ∧ Below W.heap.size W w') := fun W hW => cloneS_own (h.al.below hW) (by rw [List.length_map]; omega)
  have HCG : Hid (∀ W, Below w.heap.size w W → Calls Tryd.prog 32 #[.slice c.ag c.ng c.cg] W fun e w' => ∃ a n cc, e = .returned (.slice a n cc) ∧ GrantsAt w' (.slice a n cc) d.gr ∧ OwnFrom w' W.heap.size 62 (.slice a n cc) ∧ Below W.heap.size W w') := fun W hW => (cloneG_own (h.gr.below hW) hgr).mono fun e w' ⟨v', h1, h2, ⟨a, n, cc, h3⟩, h4, h5⟩ => ⟨a, n, cc, by rw [h1, h3], h3 ▸ h2, h3 ▸ h4, h5⟩
  have HCI : Hid (∀ W, Below w.heap.size w W → Calls Tryd.prog 42 #[.slice c.ak c.nk c.ck] W fun e w' => ∃ a n cc, e = .returned (.slice a n cc) ∧ IdsAt w' (.slice a n cc) d.ks ∧ OwnFrom w' W.heap.size 3 (.slice a n cc) ∧ Below W.heap.size W w') := fun W hW => cloneI_own (h.ks.keep hW.size fun _ _ _ _ _ hlt => hW.cell hlt) hks
  have HSame : Hid (c.so = bs d.so ∧ c.co = bs d.co ∧ c.us = bs d.us) := ⟨h.so, h.co, h.us⟩
  have HB1 := Lib.hid b1
  have HX := Lib.hid hX
  have HZ := Lib.hid hZ
  have HS := Lib.hid hsz
  clear h b1 hX hZ hsz hl hal hgr hks
  go_enter Tryd.func23, Tryd.ntmps23
  go_upto_region 1 with fail
  rw [← hW1.out]
  have y3 : W1.cell? ⟨w.heap.size, 3, none⟩ = some (.slice c.a0 c.n0 c.c0) := Holds.cell HX.out 3
  have y4 : W1.cell? ⟨w.heap.size, 4, none⟩ = some (.slice c.a1 c.n1 c.c1) := Holds.cell HX.out 4
  have y5 : W1.cell? ⟨w.heap.size, 5, none⟩ = some (.slice c.a2 c.n2 c.c2) := Holds.cell HX.out 5
  have y6 : W1.cell? ⟨w.heap.size, 6, none⟩ = some (.slice c.a3 c.n3 c.c3) := Holds.cell HX.out 6
  have y7 : W1.cell? ⟨w.heap.size, 7, none⟩ = some (.slice c.a4 c.n4 c.c4) := Holds.cell HX.out 7
  have y8 : W1.cell? ⟨w.heap.size, 8, none⟩ = some (.slice c.a5 c.n5 c.c5) := Holds.cell HX.out 8
  have y9 : W1.cell? ⟨w.heap.size, 9, none⟩ = some (.slice c.a6 c.n6 c.c6) := Holds.cell HX.out 9
  have y10 : W1.cell? ⟨w.heap.size, 10, none⟩ = some (.slice c.a7 c.n7 c.c7) := Holds.cell HX.out 10
  go_upto_region 2 with (go_at_call 40; (with_reducible refine HP.out.mono ?_); rintro e w1 ⟨q, rfl, hu, hn, bb1⟩; clear y3 y4 y5 y6 y7 y8 y9 y10; have HU := Lib.hid hu; have HN := Lib.hid hn; have B1 := Lib.hid (HB1.out.trans (bb1.mono HB1.out.size)); have HSz1 := Lib.hid bb1.size; have HX1 := Lib.hid ((bb1.block _ HX.out.lt).trans HX.out); have HZ1 := Lib.hid ((bb1.block _ HZ.out.lt).trans HZ.out); clear hu hn bb1; have y3 : w1.cell? ⟨w.heap.size, 3, none⟩ = some (.slice c.a0 c.n0 c.c0) := Holds.cell HX1.out 3; have f3 : w1.frozen? ⟨w.heap.size, 3, none⟩ = false := Holds.frozen HX1.out 3; have y4 : w1.cell? ⟨w.heap.size, 4, none⟩ = some (.slice c.a1 c.n1 c.c1) := Holds.cell HX1.out 4; have f4 : w1.frozen? ⟨w.heap.size, 4, none⟩ = false := Holds.frozen HX1.out 4; have y5 : w1.cell? ⟨w.heap.size, 5, none⟩ = some (.slice c.a2 c.n2 c.c2) := Holds.cell HX1.out 5; have f5 : w1.frozen? ⟨w.heap.size, 5, none⟩ = false := Holds.frozen HX1.out 5; have y6 : w1.cell? ⟨w.heap.size, 6, none⟩ = some (.slice c.a3 c.n3 c.c3) := Holds.cell HX1.out 6; have f6 : w1.frozen? ⟨w.heap.size, 6, none⟩ = false := Holds.frozen HX1.out 6; have y7 : w1.cell? ⟨w.heap.size, 7, none⟩ = some (.slice c.a4 c.n4 c.c4) := Holds.cell HX1.out 7; have f7 : w1.frozen? ⟨w.heap.size, 7, none⟩ = false := Holds.frozen HX1.out 7; have y8 : w1.cell? ⟨w.heap.size, 8, none⟩ = some (.slice c.a5 c.n5 c.c5) := Holds.cell HX1.out 8; have f8 : w1.frozen? ⟨w.heap.size, 8, none⟩ = false := Holds.frozen HX1.out 8; have y9 : w1.cell? ⟨w.heap.size, 9, none⟩ = some (.slice c.a6 c.n6 c.c6) := Holds.cell HX1.out 9; have f9 : w1.frozen? ⟨w.heap.size, 9, none⟩ = false := Holds.frozen HX1.out 9; have y10 : w1.cell? ⟨w.heap.size, 10, none⟩ = some (.slice c.a7 c.n7 c.c7) := Holds.cell HX1.out 10; have f10 : w1.frozen? ⟨w.heap.size, 10, none⟩ = false := Holds.frozen HX1.out 10)
  have HX2 : Hid (Holds ((((((((w1.setCell ⟨w.heap.size, 3, none⟩ (.slice (q 0).1 (q 0).2.1 (q 0).2.2)).setCell ⟨w.heap.size, 4, none⟩ (.slice (q 1).1 (q 1).2.1 (q 1).2.2)).setCell ⟨w.heap.size, 5, none⟩ (.slice (q 2).1 (q 2).2.1 (q 2).2.2)).setCell ⟨w.heap.size, 6, none⟩ (.slice (q 3).1 (q 3).2.1 (q 3).2.2)).setCell ⟨w.heap.size, 7, none⟩ (.slice (q 4).1 (q 4).2.1 (q 4).2.2)).setCell ⟨w.heap.size, 8, none⟩ (.slice (q 5).1 (q 5).2.1 (q 5).2.2)).setCell ⟨w.heap.size, 9, none⟩ (.slice (q 6).1 (q 6).2.1 (q 6).2.2)).setCell ⟨w.heap.size, 10, none⟩ (.slice (q 7).1 (q 7).2.1 (q 7).2.2)) w.heap.size 51 ({ c with a0 := (q 0).1, n0 := (q 0).2.1, c0 := (q 0).2.2, a1 := (q 1).1, n1 := (q 1).2.1, c1 := (q 1).2.2, a2 := (q 2).1, n2 := (q 2).2.1, c2 := (q 2).2.2, a3 := (q 3).1, n3 := (q 3).2.1, c3 := (q 3).2.2, a4 := (q 4).1, n4 := (q 4).2.1, c4 := (q 4).2.2, a5 := (q 5).1, n5 := (q 5).2.1, c5 := (q 5).2.2, a6 := (q 6).1, n6 := (q 6).2.1, c6 := (q 6).2.2, a7 := (q 7).1, n7 := (q 7).2.1, c7 := (q 7).2.2 } : CfV).row) := Lib.hid (holds_as25 (Holds.set (Holds.set (Holds.set (Holds.set (Holds.set (Holds.set (Holds.set (Holds.set HX1.out 3 (.slice (q 0).1 (q 0).2.1 (q 0).2.2)) 4 (.slice (q 1).1 (q 1).2.1 (q 1).2.2)) 5 (.slice (q 2).1 (q 2).2.1 (q 2).2.2)) 6 (.slice (q 3).1 (q 3).2.1 (q 3).2.2)) 7 (.slice (q 4).1 (q 4).2.1 (q 4).2.2)) 8 (.slice (q 5).1 (q 5).2.1 (q 5).2.2)) 9 (.slice (q 6).1 (q 6).2.1 (q 6).2.2)) 10 (.slice (q 7).1 (q 7).2.1 (q 7).2.2)) (by kernel_rfl))
  have M2 : Hid (Moves (fun i => i < w.heap.size + 2) w1 ((((((((w1.setCell ⟨w.heap.size, 3, none⟩ (.slice (q 0).1 (q 0).2.1 (q 0).2.2)).setCell ⟨w.heap.size, 4, none⟩ (.slice (q 1).1 (q 1).2.1 (q 1).2.2)).setCell ⟨w.heap.size, 5, none⟩ (.slice (q 2).1 (q 2).2.1 (q 2).2.2)).setCell ⟨w.heap.size, 6, none⟩ (.slice (q 3).1 (q 3).2.1 (q 3).2.2)).setCell ⟨w.heap.size, 7, none⟩ (.slice (q 4).1 (q 4).2.1 (q 4).2.2)).setCell ⟨w.heap.size, 8, none⟩ (.slice (q 5).1 (q 5).2.1 (q 5).2.2)).setCell ⟨w.heap.size, 9, none⟩ (.slice (q 6).1 (q 6).2.1 (q 6).2.2)).setCell ⟨w.heap.size, 10, none⟩ (.slice (q 7).1 (q 7).2.1 (q 7).2.2))) := Lib.hid (Moves.setCell (p := ⟨w.heap.size, 10, none⟩) (Moves.setCell (p := ⟨w.heap.size, 9, none⟩) (Moves.setCell (p := ⟨w.heap.size, 8, none⟩) (Moves.setCell (p := ⟨w.heap.size, 7, none⟩) (Moves.setCell (p := ⟨w.heap.size, 6, none⟩) (Moves.setCell (p := ⟨w.heap.size, 5, none⟩) (Moves.setCell (p := ⟨w.heap.size, 4, none⟩) (Moves.setCell (p := ⟨w.heap.size, 3, none⟩) (Moves.refl (fun i => i < w.heap.size + 2) w1) (.inl (by show w.heap.size < w.heap.size + 2; omega)) (.slice (q 0).1 (q 0).2.1 (q 0).2.2)) (.inl (by show w.heap.size < w.heap.size + 2; omega)) (.slice (q 1).1 (q 1).2.1 (q 1).2.2)) (.inl (by show w.heap.size < w.heap.size + 2; omega)) (.slice (q 2).1 (q 2).2.1 (q 2).2.2)) (.inl (by show w.heap.size < w.heap.size + 2; omega)) (.slice (q 3).1 (q 3).2.1 (q 3).2.2)) (.inl (by show w.heap.size < w.heap.size + 2; omega)) (.slice (q 4).1 (q 4).2.1 (q 4).2.2)) (.inl (by show w.heap.size < w.heap.size + 2; omega)) (.slice (q 5).1 (q 5).2.1 (q 5).2.2)) (.inl (by show w.heap.size < w.heap.size + 2; omega)) (.slice (q 6).1 (q 6).2.1 (q 6).2.2)) (.inl (by show w.heap.size < w.heap.size + 2; omega)) (.slice (q 7).1 (q 7).2.1 (q 7).2.2))
  have B2 : Hid (Below w.heap.size w ((((((((w1.setCell ⟨w.heap.size, 3, none⟩ (.slice (q 0).1 (q 0).2.1 (q 0).2.2)).setCell ⟨w.heap.size, 4, none⟩ (.slice (q 1).1 (q 1).2.1 (q 1).2.2)).setCell ⟨w.heap.size, 5, none⟩ (.slice (q 2).1 (q 2).2.1 (q 2).2.2)).setCell ⟨w.heap.size, 6, none⟩ (.slice (q 3).1 (q 3).2.1 (q 3).2.2)).setCell ⟨w.heap.size, 7, none⟩ (.slice (q 4).1 (q 4).2.1 (q 4).2.2)).setCell ⟨w.heap.size, 8, none⟩ (.slice (q 5).1 (q 5).2.1 (q 5).2.2)).setCell ⟨w.heap.size, 9, none⟩ (.slice (q 6).1 (q 6).2.1 (q 6).2.2)).setCell ⟨w.heap.size, 10, none⟩ (.slice (q 7).1 (q 7).2.1 (q 7).2.2))) := Lib.hid (below_setCell25 (below_setCell25 (below_setCell25 (below_setCell25 (below_setCell25 (below_setCell25 (below_setCell25 (below_setCell25 B1.out (a := ⟨w.heap.size, 3, none⟩) (Nat.le_refl _) (.slice (q 0).1 (q 0).2.1 (q 0).2.2)) (a := ⟨w.heap.size, 4, none⟩) (Nat.le_refl _) (.slice (q 1).1 (q 1).2.1 (q 1).2.2)) (a := ⟨w.heap.size, 5, none⟩) (Nat.le_refl _) (.slice (q 2).1 (q 2).2.1 (q 2).2.2)) (a := ⟨w.heap.size, 6, none⟩) (Nat.le_refl _) (.slice (q 3).1 (q 3).2.1 (q 3).2.2)) (a := ⟨w.heap.size, 7, none⟩) (Nat.le_refl _) (.slice (q 4).1 (q 4).2.1 (q 4).2.2)) (a := ⟨w.heap.size, 8, none⟩) (Nat.le_refl _) (.slice (q 5).1 (q 5).2.1 (q 5).2.2)) (a := ⟨w.heap.size, 9, none⟩) (Nat.le_refl _) (.slice (q 6).1 (q 6).2.1 (q 6).2.2)) (a := ⟨w.heap.size, 10, none⟩) (Nat.le_refl _) (.slice (q 7).1 (q 7).2.1 (q 7).2.2))
  have HZ2 : Hid (Holds ((((((((w1.setCell ⟨w.heap.size, 3, none⟩ (.slice (q 0).1 (q 0).2.1 (q 0).2.2)).setCell ⟨w.heap.size, 4, none⟩ (.slice (q 1).1 (q 1).2.1 (q 1).2.2)).setCell ⟨w.heap.size, 5, none⟩ (.slice (q 2).1 (q 2).2.1 (q 2).2.2)).setCell ⟨w.heap.size, 6, none⟩ (.slice (q 3).1 (q 3).2.1 (q 3).2.2)).setCell ⟨w.heap.size, 7, none⟩ (.slice (q 4).1 (q 4).2.1 (q 4).2.2)).setCell ⟨w.heap.size, 8, none⟩ (.slice (q 5).1 (q 5).2.1 (q 5).2.2)).setCell ⟨w.heap.size, 9, none⟩ (.slice (q 6).1 (q 6).2.1 (q 6).2.2)).setCell ⟨w.heap.size, 10, none⟩ (.slice (q 7).1 (q 7).2.1 (q 7).2.2)) (w.heap.size + 1) 51 #[.bool false, .string ⟨#[]⟩, .string ⟨#[]⟩, .slice none 0 0, .slice none 0 0, .slice none 0 0, .slice none 0 0, .slice none 0 0, .slice none 0 0, .slice none 0 0, .slice none 0 0, .slice none 0 0, .int .i64 0, .slice none 0 0, .int .i64 0, .int .i64 0, .string ⟨#[]⟩, .slice none 0 0, .bool false, .bool false, .int .u32 0, .int .u32 0, .int .u32 0]) := Lib.hid ((heap_setCell_other _ _ _ _ (by show w.heap.size + 1 ≠ w.heap.size; omega)).trans ((heap_setCell_other _ _ _ _ (by show w.heap.size + 1 ≠ w.heap.size; omega)).trans ((heap_setCell_other _ _ _ _ (by show w.heap.size + 1 ≠ w.heap.size; omega)).trans ((heap_setCell_other _ _ _ _ (by show w.heap.size + 1 ≠ w.heap.size; omega)).trans ((heap_setCell_other _ _ _ _ (by show w.heap.size + 1 ≠ w.heap.size; omega)).trans ((heap_setCell_other _ _ _ _ (by show w.heap.size + 1 ≠ w.heap.size; omega)).trans ((heap_setCell_other _ _ _ _ (by show w.heap.size + 1 ≠ w.heap.size; omega)).trans ((heap_setCell_other _ _ _ _ (by show w.heap.size + 1 ≠ w.heap.size; omega)).trans HZ1.out))))))))
  have MSz2 := Lib.hid (Nat.le_trans HSz1.out M2.out.size)
  clear y3 y4 y5 y6 y7 y8 y9 y10 f3 f4 f5 f6 f7 f8 f9 f10 HX1 HZ1 B1
  generalize ((((((((w1.setCell ⟨w.heap.size, 3, none⟩ (.slice (q 0).1 (q 0).2.1 (q 0).2.2)).setCell ⟨w.heap.size, 4, none⟩ (.slice (q 1).1 (q 1).2.1 (q 1).2.2)).setCell ⟨w.heap.size, 5, none⟩ (.slice (q 2).1 (q 2).2.1 (q 2).2.2)).setCell ⟨w.heap.size, 6, none⟩ (.slice (q 3).1 (q 3).2.1 (q 3).2.2)).setCell ⟨w.heap.size, 7, none⟩ (.slice (q 4).1 (q 4).2.1 (q 4).2.2)).setCell ⟨w.heap.size, 8, none⟩ (.slice (q 5).1 (q 5).2.1 (q 5).2.2)).setCell ⟨w.heap.size, 9, none⟩ (.slice (q 6).1 (q 6).2.1 (q 6).2.2)).setCell ⟨w.heap.size, 10, none⟩ (.slice (q 7).1 (q 7).2.1 (q 7).2.2)) = W2 at *
  have y11 : W2.cell? ⟨w.heap.size, 11, none⟩ = some (.slice c.aa c.na c.ca) := Holds.cell HX2.out 11
  go_upto_region 3 with (go_at_call 33; (with_reducible refine (HCA.out _ B2.out).mono ?_); rintro e w2 ⟨ba, ma, da, rfl, ta, oa, bb2⟩; clear y11; have HTA := Lib.hid ta; have HOA := Lib.hid oa; have B3 := Lib.hid (B2.out.trans (bb2.mono B2.out.size)); have M3 := Lib.hid (M2.out.trans (T := fun i => i < w.heap.size + 2) (Moves.ofBelow bb2) (fun _ h => .inl h)); have HSz2 := Lib.hid bb2.size; have HX3 := Lib.hid ((bb2.block _ HX2.out.lt).trans HX2.out); have HZ3 := Lib.hid ((bb2.block _ HZ2.out.lt).trans HZ2.out); clear ta oa bb2; have y11 : w2.cell? ⟨w.heap.size, 11, none⟩ = some (.slice c.aa c.na c.ca) := Holds.cell HX3.out 11; have f11 : w2.frozen? ⟨w.heap.size, 11, none⟩ = false := Holds.frozen HX3.out 11)
  have HX4 : Hid (Holds (w2.setCell ⟨w.heap.size, 11, none⟩ (.slice ba ma da)) w.heap.size 51 ({ c with a0 := (q 0).1, n0 := (q 0).2.1, c0 := (q 0).2.2, a1 := (q 1).1, n1 := (q 1).2.1, c1 := (q 1).2.2, a2 := (q 2).1, n2 := (q 2).2.1, c2 := (q 2).2.2, a3 := (q 3).1, n3 := (q 3).2.1, c3 := (q 3).2.2, a4 := (q 4).1, n4 := (q 4).2.1, c4 := (q 4).2.2, a5 := (q 5).1, n5 := (q 5).2.1, c5 := (q 5).2.2, a6 := (q 6).1, n6 := (q 6).2.1, c6 := (q 6).2.2, a7 := (q 7).1, n7 := (q 7).2.1, c7 := (q 7).2.2, aa := ba, na := ma, ca := da } : CfV).row) := Lib.hid (holds_as25 (Holds.set HX3.out 11 (.slice ba ma da)) (by kernel_rfl))
  have m4 : Moves (fun i => i < w.heap.size + 2) w2 (w2.setCell ⟨w.heap.size, 11, none⟩ (.slice ba ma da)) := Moves.setCell (p := ⟨w.heap.size, 11, none⟩) (Moves.refl _ _) (.inl (by show w.heap.size < w.heap.size + 2; omega)) _
  have B4 := Lib.hid (below_setCell25 B3.out (a := ⟨w.heap.size, 11, none⟩) (Nat.le_refl _) (.slice ba ma da))
  have HZ4 : Hid (Holds (w2.setCell ⟨w.heap.size, 11, none⟩ (.slice ba ma da)) (w.heap.size + 1) 51 #[.bool false, .string ⟨#[]⟩, .string ⟨#[]⟩, .slice none 0 0, .slice none 0 0, .slice none 0 0, .slice none 0 0, .slice none 0 0, .slice none 0 0, .slice none 0 0, .slice none 0 0, .slice none 0 0, .int .i64 0, .slice none 0 0, .int .i64 0, .int .i64 0, .string ⟨#[]⟩, .slice none 0 0, .bool false, .bool false, .int .u32 0, .int .u32 0, .int .u32 0]) := Lib.hid ((heap_setCell_other _ _ _ _ (by show w.heap.size + 1 ≠ w.heap.size; omega)).trans HZ3.out)
  have MSz4 := Lib.hid (Nat.le_trans HSz1.out (Nat.le_trans M3.out.size m4.size))
  have M4 := Lib.hid (M3.out.trans m4 (fun _ h => .inl h))
  have MA4 := Lib.hid m4
  clear y11 f11 m4 HX2 HX3 HZ2 HZ3 M2 M3 B2 B3
  generalize w2.setCell ⟨w.heap.size, 11, none⟩ (.slice ba ma da) = W4 at *
  have y13 : W4.cell? ⟨w.heap.size, 13, none⟩ = some (.slice c.ag c.ng c.cg) := Holds.cell HX4.out 13
  go_upto_region 4 with (go_at_call 32; (with_reducible refine (HCG.out _ B4.out).mono ?_); rintro e w3 ⟨bg, mg, dg, rfl, ta, oa, bb2⟩; clear y13; have HTG := Lib.hid ta; have HOG := Lib.hid oa; have B5 := Lib.hid (B4.out.trans (bb2.mono B4.out.size)); have M5 := Lib.hid (M4.out.trans (T := fun i => i < w.heap.size + 2) (Moves.ofBelow bb2) (fun _ h => .inl h)); have MA5 := Lib.hid (MA4.out.trans (T := fun i => i < w.heap.size + 2) (Moves.ofBelow bb2) (fun _ h => .inl h)); have HSz3 := Lib.hid bb2.size; have HX5 := Lib.hid ((bb2.block _ HX4.out.lt).trans HX4.out); have HZ5 := Lib.hid ((bb2.block _ HZ4.out.lt).trans HZ4.out); clear ta oa bb2; have y13 : w3.cell? ⟨w.heap.size, 13, none⟩ = some (.slice c.ag c.ng c.cg) := Holds.cell HX5.out 13; have f13 : w3.frozen? ⟨w.heap.size, 13, none⟩ = false := Holds.frozen HX5.out 13)
  have HX6 : Hid (Holds (w3.setCell ⟨w.heap.size, 13, none⟩ (.slice bg mg dg)) w.heap.size 51 ({ c with a0 := (q 0).1, n0 := (q 0).2.1, c0 := (q 0).2.2, a1 := (q 1).1, n1 := (q 1).2.1, c1 := (q 1).2.2, a2 := (q 2).1, n2 := (q 2).2.1, c2 := (q 2).2.2, a3 := (q 3).1, n3 := (q 3).2.1, c3 := (q 3).2.2, a4 := (q 4).1, n4 := (q 4).2.1, c4 := (q 4).2.2, a5 := (q 5).1, n5 := (q 5).2.1, c5 := (q 5).2.2, a6 := (q 6).1, n6 := (q 6).2.1, c6 := (q 6).2.2, a7 := (q 7).1, n7 := (q 7).2.1, c7 := (q 7).2.2, aa := ba, na := ma, ca := da, ag := bg, ng := mg, cg := dg } : CfV).row) := Lib.hid (holds_as25 (Holds.set HX5.out 13 (.slice bg mg dg)) (by kernel_rfl))
  have m6 : Moves (fun i => i < w.heap.size + 2) w3 (w3.setCell ⟨w.heap.size, 13, none⟩ (.slice bg mg dg)) := Moves.setCell (p := ⟨w.heap.size, 13, none⟩) (Moves.refl _ _) (.inl (by show w.heap.size < w.heap.size + 2; omega)) _
  have B6 := Lib.hid (below_setCell25 B5.out (a := ⟨w.heap.size, 13, none⟩) (Nat.le_refl _) (.slice bg mg dg))
  have HZ6 : Hid (Holds (w3.setCell ⟨w.heap.size, 13, none⟩ (.slice bg mg dg)) (w.heap.size + 1) 51 #[.bool false, .string ⟨#[]⟩, .string ⟨#[]⟩, .slice none 0 0, .slice none 0 0, .slice none 0 0, .slice none 0 0, .slice none 0 0, .slice none 0 0, .slice none 0 0, .slice none 0 0, .slice none 0 0, .int .i64 0, .slice none 0 0, .int .i64 0, .int .i64 0, .string ⟨#[]⟩, .slice none 0 0, .bool false, .bool false, .int .u32 0, .int .u32 0, .int .u32 0]) := Lib.hid ((heap_setCell_other _ _ _ _ (by show w.heap.size + 1 ≠ w.heap.size; omega)).trans HZ5.out)
  have MSz6 := Lib.hid (Nat.le_trans HSz1.out (Nat.le_trans M5.out.size m6.size))
  have M6 := Lib.hid (M5.out.trans m6 (fun _ h => .inl h))
  have MA6 := Lib.hid (MA5.out.trans m6 (fun _ h => .inl h))
  have MG6 := Lib.hid m6
  clear y13 f13 m6 HX4 HX5 HZ4 HZ5 M4 M5 MA4 MA5 B4 B5
  generalize w3.setCell ⟨w.heap.size, 13, none⟩ (.slice bg mg dg) = W6 at *
  have y17 : W6.cell? ⟨w.heap.size, 17, none⟩ = some (.slice c.ak c.nk c.ck) := Holds.cell HX6.out 17
  go_upto_region 5 with (go_at_call 42; (with_reducible refine (HCI.out _ B6.out).mono ?_); rintro e w4 ⟨bk, mk, dk, rfl, ta, oa, bb2⟩; clear y17; have HTK := Lib.hid ta; have HOK := Lib.hid oa; have B7 := Lib.hid (B6.out.trans (bb2.mono B6.out.size)); have M7 := Lib.hid (M6.out.trans (T := fun i => i < w.heap.size + 2) (Moves.ofBelow bb2) (fun _ h => .inl h)); have MA7 := Lib.hid (MA6.out.trans (T := fun i => i < w.heap.size + 2) (Moves.ofBelow bb2) (fun _ h => .inl h)); have MG7 := Lib.hid (MG6.out.trans (T := fun i => i < w.heap.size + 2) (Moves.ofBelow bb2) (fun _ h => .inl h)); have HSz4 := Lib.hid bb2.size; have HX7 := Lib.hid ((bb2.block _ HX6.out.lt).trans HX6.out); have HZ7 := Lib.hid ((bb2.block _ HZ6.out.lt).trans HZ6.out); clear ta oa bb2; have y17 : w4.cell? ⟨w.heap.size, 17, none⟩ = some (.slice c.ak c.nk c.ck) := Holds.cell HX7.out 17; have f17 : w4.frozen? ⟨w.heap.size, 17, none⟩ = false := Holds.frozen HX7.out 17)
  obtain ⟨c2, hc2⟩ : ∃ c2, c2 = ({ c with a0 := (q 0).1, n0 := (q 0).2.1, c0 := (q 0).2.2, a1 := (q 1).1, n1 := (q 1).2.1, c1 := (q 1).2.2, a2 := (q 2).1, n2 := (q 2).2.1, c2 := (q 2).2.2, a3 := (q 3).1, n3 := (q 3).2.1, c3 := (q 3).2.2, a4 := (q 4).1, n4 := (q 4).2.1, c4 := (q 4).2.2, a5 := (q 5).1, n5 := (q 5).2.1, c5 := (q 5).2.2, a6 := (q 6).1, n6 := (q 6).2.1, c6 := (q 6).2.2, a7 := (q 7).1, n7 := (q 7).2.1, c7 := (q 7).2.2, aa := ba, na := ma, ca := da, ag := bg, ng := mg, cg := dg, ak := bk, nk := mk, ck := dk } : CfV) := ⟨_, rfl⟩
  have HX8 : Hid (Holds (w4.setCell ⟨w.heap.size, 17, none⟩ (.slice bk mk dk)) w.heap.size 51 c2.row) := Lib.hid (holds_as25 (Holds.set HX7.out 17 (.slice bk mk dk)) (by rw [hc2]; kernel_rfl))
  have m8 : Moves (fun i => i < w.heap.size + 2) w4 (w4.setCell ⟨w.heap.size, 17, none⟩ (.slice bk mk dk)) := Moves.setCell (p := ⟨w.heap.size, 17, none⟩) (Moves.refl _ _) (.inl (by show w.heap.size < w.heap.size + 2; omega)) _
  have B8 := Lib.hid (below_setCell25 B7.out (a := ⟨w.heap.size, 17, none⟩) (Nat.le_refl _) (.slice bk mk dk))
  have HZ8 : Hid (Holds (w4.setCell ⟨w.heap.size, 17, none⟩ (.slice bk mk dk)) (w.heap.size + 1) 51 #[.bool false, .string ⟨#[]⟩, .string ⟨#[]⟩, .slice none 0 0, .slice none 0 0, .slice none 0 0, .slice none 0 0, .slice none 0 0, .slice none 0 0, .slice none 0 0, .slice none 0 0, .slice none 0 0, .int .i64 0, .slice none 0 0, .int .i64 0, .int .i64 0, .string ⟨#[]⟩, .slice none 0 0, .bool false, .bool false, .int .u32 0, .int .u32 0, .int .u32 0]) := Lib.hid ((heap_setCell_other _ _ _ _ (by show w.heap.size + 1 ≠ w.heap.size; omega)).trans HZ7.out)
  have M8 := Lib.hid (M7.out.trans m8 (fun _ h => .inl h))
  have MA8 := Lib.hid (MA7.out.trans m8 (fun _ h => .inl h))
  have MG8 := Lib.hid (MG7.out.trans m8 (fun _ h => .inl h))
  have MK8 := Lib.hid m8
  have HC2 := Lib.hid hc2
  clear y17 f17 m8 HX6 HX7 HZ6 HZ7 M6 M7 MA6 MA7 MG6 MG7 B6 B7 hc2
  generalize w4.setCell ⟨w.heap.size, 17, none⟩ (.slice bk mk dk) = W8 at *
  have mr : Moves (fun i => i < w.heap.size + 2) W8 (W8.setRow (w.heap.size + 1) c2.row) := (moves_row25 W8 (w.heap.size + 1) c2.row).mono (fun i hi _ => by omega)
  have HF : Hid (CopyOf c d (w.heap.size + 2) (W8.setRow (w.heap.size + 1) c2.row) c2) := by
    have s1 := HSz1.out
    have s2 := HSz2.out
    have s3 := HSz3.out
    have s4 := HSz4.out
    have hS := HS.out
    have z8 := M8.out.size
    have za := MA8.out.size
    have zg := MG8.out.size
    have g1 : w.heap.size + 2 ≤ W2.heap.size := by have := MSz2.out; omega
    have g2 : w.heap.size + 2 ≤ W4.heap.size := by have := MSz4.out; omega
    have g3 : w.heap.size + 2 ≤ W6.heap.size := by have := MSz6.out; omega
    have pu : ∀ k < 8, TextsO (W8.setRow (w.heap.size + 1) c2.row) (.slice (q k).1 (q k).2.1 (q k).2.2) ((d.p k).map bs) := fun k hk => texts_rowO (HU.out k hk) (M8.out.trans mr (fun _ h => .inl h)) (fun hne g hg hlt => by
      have := HN.out k hk (by intro e; rw [e] at hne; exact hne rfl) g hg
      have hlt : g < w.heap.size + 2 := hlt
      omega)
    generalize W8.setRow (w.heap.size + 1) c2.row = Wf at *
    have e2 := HC2.out
    clear HC2 HX8
    subst e2
    refine ⟨⟨HSame.out.1, HSame.out.2.1, HSame.out.2.2, fun k hk => ?_, ?_, ?_, ?_⟩, ⟨rfl, rfl, rfl, rfl, rfl, rfl, rfl, rfl, rfl, rfl, rfl, rfl⟩, fun k hk => ?_, fun k hk => ?_, ?_, ?_, ?_⟩
    · match k, hk with
      | 0, _ => exact (pu 0 (by omega)).1
      | 1, _ => exact (pu 1 (by omega)).1
      | 2, _ => exact (pu 2 (by omega)).1
      | 3, _ => exact (pu 3 (by omega)).1
      | 4, _ => exact (pu 4 (by omega)).1
      | 5, _ => exact (pu 5 (by omega)).1
      | 6, _ => exact (pu 6 (by omega)).1
      | 7, _ => exact (pu 7 (by omega)).1
    · exact texts_row HTA.out (MA8.out.trans mr (fun _ h => .inl h)) (fun _ g hg hlt => by have := (HOA.out g hg).1; have hlt : g < w.heap.size + 2 := hlt; omega)
    · exact HTG.out.moves (MG8.out.trans mr (fun _ h => .inl h)) (fun g hg hlt => by have := (HOG.out g hg).1; have hlt : g < w.heap.size + 2 := hlt; omega)
    · exact HTK.out.moves (MK8.out.trans mr (fun _ h => .inl h)) (fun g hg hlt => by have := (HOK.out g hg).1; have hlt : g < w.heap.size + 2 := hlt; omega)
    · match k, hk with
      | 0, _ => exact pu 0 (by omega)
      | 1, _ => exact pu 1 (by omega)
      | 2, _ => exact pu 2 (by omega)
      | 3, _ => exact pu 3 (by omega)
      | 4, _ => exact pu 4 (by omega)
      | 5, _ => exact pu 5 (by omega)
      | 6, _ => exact pu 6 (by omega)
      | 7, _ => exact pu 7 (by omega)
    · have hS2 := HS.out
      match k, hk with
      | 0, _ => exact fun hne g hg => by have := HN.out 0 (by omega) hne g hg; omega
      | 1, _ => exact fun hne g hg => by have := HN.out 1 (by omega) hne g hg; omega
      | 2, _ => exact fun hne g hg => by have := HN.out 2 (by omega) hne g hg; omega
      | 3, _ => exact fun hne g hg => by have := HN.out 3 (by omega) hne g hg; omega
      | 4, _ => exact fun hne g hg => by have := HN.out 4 (by omega) hne g hg; omega
      | 5, _ => exact fun hne g hg => by have := HN.out 5 (by omega) hne g hg; omega
      | 6, _ => exact fun hne g hg => by have := HN.out 6 (by omega) hne g hg; omega
      | 7, _ => exact fun hne g hg => by have := HN.out 7 (by omega) hne g hg; omega
    · exact (HOA.out.mono g1).moves (MA8.out.trans mr (fun _ h => .inl h)) (fun g hg hlt => by have := (HOA.out g hg).1; have hlt : g < w.heap.size + 2 := hlt; omega)
    · exact (HOG.out.mono g2).moves (MG8.out.trans mr (fun _ h => .inl h)) (fun g hg hlt => by have := (HOG.out g hg).1; have hlt : g < w.heap.size + 2 := hlt; omega)
    · exact (HOK.out.mono g3).moves (MK8.out.trans mr (fun _ h => .inl h)) (fun g hg hlt => by have := (HOK.out g hg).1; have hlt : g < w.heap.size + 2 := hlt; omega)
  have hB9 := below_setRow B8.out (show w.heap.size ≤ w.heap.size + 1 by omega) c2.row
  have HB9 := Lib.hid hB9
  have HR9 : Hid ((W8.setRow (w.heap.size + 1) c2.row).heap[w.heap.size + 1]? = some (.cells c2.row 51 (0, 0))) := Lib.hid (setRow_heap W8 (w.heap.size + 1) #[.bool false, .string ⟨#[]⟩, .string ⟨#[]⟩, .slice none 0 0, .slice none 0 0, .slice none 0 0, .slice none 0 0, .slice none 0 0, .slice none 0 0, .slice none 0 0, .slice none 0 0, .slice none 0 0, .int .i64 0, .slice none 0 0, .int .i64 0, .int .i64 0, .string ⟨#[]⟩, .slice none 0 0, .bool false, .bool false, .int .u32 0, .int .u32 0, .int .u32 0] c2.row 51 (0, 0) HZ8.out)
  clear hB9 mr HU HN HTA HOA HTG HOG HTK HOK M8 MA8 MG8 MK8 HSame B8 HSz1 HSz2 HSz3 HSz4 HC2 HCA HCG HCI HP
  go_wp2_with (first
    | (refine wpList_load_row rfl 51 _ rfl w.heap.size rfl 51 c2.row (0, 0) _ (by exact HX8.out) Tryd.underlying51 rfl (by exact sizeConfRow) ?_)
    | (refine wpList_store_row rfl 51 _ _ rfl (w.heap.size + 1) c2.row rfl rfl 51 #[.bool false, .string ⟨#[]⟩, .string ⟨#[]⟩, .slice none 0 0, .slice none 0 0, .slice none 0 0, .slice none 0 0, .slice none 0 0, .slice none 0 0, .slice none 0 0, .slice none 0 0, .slice none 0 0, .int .i64 0, .slice none 0 0, .int .i64 0, .int .i64 0, .string ⟨#[]⟩, .slice none 0 0, .bool false, .bool false, .int .u32 0, .int .u32 0, .int .u32 0] (by exact HZ8.out) (by exact sizeConfRow) (by rfl) (by exact CfV.row_one c2) ?_)
    | fail)
  refine bodyPost_ret (results_cell_row rfl _ _ (w.heap.size + 1) _ c2.row (0, 0) _ rfl HR9.out Tryd.underlying51 rfl (by exact sizeConfRow)) rfl ?_
  exact ⟨c2, rfl, HF.out, HB9.out⟩
end Go.Proofs.YtgoinpibllomfaaDoor
