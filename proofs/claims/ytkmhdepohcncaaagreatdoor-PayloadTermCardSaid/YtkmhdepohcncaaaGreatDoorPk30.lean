/- Part 30 of what the statement wants. -/
import Derived.Deep.RegionHeld3
import Derived.Test.YtkmhdepohcncaaaGreatDoorPk26
import Derived.Test.YtkmhdepohcncaaaGreatDoorPk28
import Derived.Test.YtkmhdepohcncaaaGreatDoorPk29
namespace Go.Proofs.YtkmhdepohcncaaaGreatDoor
open Go.RowKit

theorem QAt.err {w : World} {R : Nat} {r : List UInt8} {e e' : Int} (h : QAt w R r e) (he : e = e') : QAt w R r e' := he ▸ h
theorem orE_right (x : Int) : orE x 0 = x := by
  unfold orE
  split
  · rename_i h; exact h.symm
  · rfl
/-- What getting a value leaves: the error, and where there is none the field and the reader behind it. -/
def GetPost (Q : Nat) (w : World) (er : Int) (x : FieldR) (rest : List UInt8) (e : Ending) (w' : World) : Prop :=
  Moves (fun k => k = Q) w w' ∧ ∃ (k : Value) (n : Value) (s : Value) (l : Value), ((∃ z, k = .int .u8 z) ∧ (∃ z, n = .int .i64 z) ∧ (∃ b, s = .string b) ∧ ∃ a m c, l = .slice a m c) ∧ e = .returned (.tuple #[.agg #[k, n, s, l], .int .i64 er]) ∧
    (er = 0 → ∃ ao cap, (.agg #[k, n, s, l] : Value) = fieldV x (.slice ao x.l.length cap) ∧ x.l.length ≤ cap ∧ TextsAt w' (.slice ao x.l.length cap) (x.l.map bs) ∧ QAt w' Q rest 0 ∧ ∀ g, (Value.slice ao x.l.length cap).ownBlock = some g → w.heap.size ≤ g)

set_option maxRecDepth 100000 in
theorem get_u {w : World} {Q : Nat} {rest : List UInt8} (h : QAt w Q rest 0) (hr : rest.length ≤ 10000) :
    Calls Tryz.prog 125 #[.pointer (some ⟨Q, 0, none⟩), .int .u8 117] w (GetPost Q w (orE (u32Q rest 0).2.2 0) ⟨117, ((u32Q rest 0).1 : Int), [], []⟩ (u32Q rest 0).2.1) := by
  have HU : Hid (∀ W, Below w.heap.size w W → _) := fun (W : World) (hb : Below w.heap.size w W) => qU32_any (h.moves (Moves.ofBelow (S := nobody) hb) fun h => h) (by omega)
  have hp := u32Q_lt rest 0
  generalize u32Q rest 0 = p at *
  obtain ⟨n, r2, er⟩ := p
  simp only at *
  have hRl := h.lt
  have hD0 := ((Holds.new w 68 #[.int .u8 0, .int .i64 0, .string ⟨#[]⟩, .slice none 0 0])).moves ((Moves.refl nobody _).alloc (.cells #[.int .u8 117, .int .i64 0, .string ⟨#[]⟩, .slice none 0 0] 68)) (fun h => h)
  have hX0 := Holds.new (w.alloc (.cells #[.int .u8 0, .int .i64 0, .string ⟨#[]⟩, .slice none 0 0] 68)) 68 #[.int .u8 117, .int .i64 0, .string ⟨#[]⟩, .slice none 0 0]
  rw [World.size_alloc] at hX0
  have hm0 : Moves (fun k => k = Q) w ((w.alloc (.cells #[.int .u8 0, .int .i64 0, .string ⟨#[]⟩, .slice none 0 0] 68)).alloc (.cells #[.int .u8 117, .int .i64 0, .string ⟨#[]⟩, .slice none 0 0] 68)) := ((Moves.refl (fun k => k = Q) w).alloc _).alloc _
  have hb0 : Below w.heap.size w ((w.alloc (.cells #[.int .u8 0, .int .i64 0, .string ⟨#[]⟩, .slice none 0 0] 68)).alloc (.cells #[.int .u8 117, .int .i64 0, .string ⟨#[]⟩, .slice none 0 0] 68)) := ((Below.refl _ w).alloc (Nat.le_refl _) _).alloc (by simp) _
  have hs0 : ((w.alloc (.cells #[.int .u8 0, .int .i64 0, .string ⟨#[]⟩, .slice none 0 0] 68)).alloc (.cells #[.int .u8 117, .int .i64 0, .string ⟨#[]⟩, .slice none 0 0] 68)).heap.size = w.heap.size + 2 := by simp
  have HD0 := Lib.hid hD0
  have HX0 := Lib.hid hX0
  have HM0 := Lib.hid hm0
  have HUc := Lib.hid (HU.out _ hb0)
  have HB0 := Lib.hid hb0
  have HS0 := Lib.hid hs0
  clear hD0 hX0 hm0 hb0 hs0 HU h
  go_enter Tryz.func125, Tryz.ntmps125
  go_wp2_with (go_at_call 162; with_reducible refine HUc.out.mono ?_; rintro e' w1 ⟨rfl, h1, m1⟩; have hX1 := HX0.out.moves m1 (by omega); have z1 := hX1.cell 1; have t1 := hX1.frozen 1)
  have hm1 := HM0.out.trans m1 fun k h => .inl h
  have hD1 := HD0.out.moves m1 (by omega)
  have ms : Moves (fun i => i = w.heap.size + 1) w1 _ := ((Moves.refl (fun i => i = w.heap.size + 1) w1).setCell (p := ⟨w.heap.size + 1, 1, none⟩) (.inl rfl) (.int .i64 (n : Int)))
  have HR2 : Hid (QAt _ Q r2 er) := h1.moves ms (by omega)
  have HD2 := Lib.hid (hD1.moves ms (by omega))
  have HX2 := Lib.hid (Holds.set hX1 1 (.int .i64 (n : Int)))
  have HM2 := Lib.hid (hm1.setCell (p := ⟨w.heap.size + 1, 1, none⟩) (.inr (by show w.heap.size ≤ w.heap.size + 1; omega)) (.int .i64 (n : Int)))
  obtain ⟨W2, hW2⟩ : ∃ W2, W2 = (w1.setCell ⟨w.heap.size + 1, 1, none⟩ (.int .i64 (n : Int))) := ⟨_, rfl⟩
  rw [← hW2] at HR2 HD2 HX2 HM2 ⊢
  clear hW2 ms
  clear hm1 hD1 hX1 h1 m1
  have HZ : Hid (orE er 0 = 0 → er = 0) := fun h => by rwa [orE_right] at h
  have y0 : W2.drew.cell? ⟨w.heap.size + 1, 0, none⟩ = some (.int .u8 117) := HX2.out.cell 0
  have y1 : W2.drew.cell? ⟨w.heap.size + 1, 1, none⟩ = some (.int .i64 (n : Int)) := HX2.out.cell 1
  have y2 : W2.drew.cell? ⟨w.heap.size + 1, 2, none⟩ = some (.string ⟨#[]⟩) := HX2.out.cell 2
  have y3 : W2.drew.cell? ⟨w.heap.size + 1, 3, none⟩ = some (.slice none 0 0) := HX2.out.cell 3
  have x0 := HX2.out.cell 0
  have x1 := HX2.out.cell 1
  have x2 := HX2.out.cell 2
  have x3 := HX2.out.cell 3
  have xe := Holds.cell HR2.out 1
  have ye : W2.drew.cell? ⟨Q, 1, none⟩ = some (.int .i64 er) := Holds.cell HR2.out 1
  have c0 : W2.drew.cell? ⟨w.heap.size, 0, none⟩ = some (.int .u8 0) := HD2.out.cell 0
  have s0 : W2.drew.frozen? ⟨w.heap.size, 0, none⟩ = false := HD2.out.frozen 0
  have d0 := HD2.out.cell 0
  have fz0 := HD2.out.frozen 0
  have c1 : W2.drew.cell? ⟨w.heap.size, 1, none⟩ = some (.int .i64 0) := HD2.out.cell 1
  have s1 : W2.drew.frozen? ⟨w.heap.size, 1, none⟩ = false := HD2.out.frozen 1
  have d1 := HD2.out.cell 1
  have fz1 := HD2.out.frozen 1
  have c2 : W2.drew.cell? ⟨w.heap.size, 2, none⟩ = some (.string ⟨#[]⟩) := HD2.out.cell 2
  have s2 : W2.drew.frozen? ⟨w.heap.size, 2, none⟩ = false := HD2.out.frozen 2
  have d2 := HD2.out.cell 2
  have fz2 := HD2.out.frozen 2
  have c3 : W2.drew.cell? ⟨w.heap.size, 3, none⟩ = some (.slice none 0 0) := HD2.out.cell 3
  have s3 : W2.drew.frozen? ⟨w.heap.size, 3, none⟩ = false := HD2.out.frozen 3
  have d3 := HD2.out.cell 3
  have fz3 := HD2.out.frozen 3
  go_wp2_with fail
  go_region
  go_wp2_with fail
  have hF := Holds.set (Holds.set (Holds.set (Holds.set HD2.out 0 (.int .u8 117)) 1 (.int .i64 (n : Int))) 2 (.string ⟨#[]⟩)) 3 (.slice none 0 0)
  have mg := (((((Moves.refl (fun i => i = w.heap.size) W2).setCell (p := ⟨w.heap.size, 0, none⟩) (.inl rfl) (.int .u8 117)).setCell (p := ⟨w.heap.size, 1, none⟩) (.inl rfl) (.int .i64 (n : Int))).setCell (p := ⟨w.heap.size, 2, none⟩) (.inl rfl) (.string ⟨#[]⟩)).setCell (p := ⟨w.heap.size, 3, none⟩) (.inl rfl) (.slice none 0 0)).drew
  have mm := HM2.out.trans mg fun i h => .inr (by rw [h]; exact Nat.le_refl _)
  try simp only [Exit.inBlock, Exit.then]
  have hR4 := Holds.moves HR2.out mg (by omega)
  refine bodyPost_ret (rdResults (p := 4) (u := 5) rfl _ _ w.heap.size _ _ (0, 0) _ rfl hF Tryz.underlying68 rfl (by kernel_rfl)) rfl ⟨mm, .int .u8 117, .int .i64 (n : Int), .string ⟨#[]⟩, .slice none 0 0, ⟨⟨_, rfl⟩, ⟨_, rfl⟩, ⟨_, rfl⟩, _, _, _, rfl⟩, ?_, fun hz => ?_⟩
  · rw [orE_right]; rfl
  · exact ⟨none, 0, rfl, Nat.le_refl _, TextsAt.nil _, QAt.err hR4 (HZ.out hz), fun g hg => by simp [Value.ownBlock] at hg⟩

set_option maxRecDepth 100000 in
theorem get_s {w : World} {Q : Nat} {rest : List UInt8} (h : QAt w Q rest 0) (hr : rest.length ≤ 10000) :
    Calls Tryz.prog 125 #[.pointer (some ⟨Q, 0, none⟩), .int .u8 115] w (GetPost Q w (orE (countedP anyR rest 0).2.2 0) ⟨115, 0, (countedP anyR rest 0).1, []⟩ (countedP anyR rest 0).2.1) := by
  have HU : Hid (∀ W, Below w.heap.size w W → _) := fun (W : World) (hb : Below w.heap.size w W) => qText_any (h.moves (Moves.ofBelow (S := nobody) hb) fun h => h) (by omega)
  generalize countedP anyR rest 0 = p at *
  obtain ⟨s, r2, er⟩ := p
  simp only at *
  have hRl := h.lt
  have hD0 := ((Holds.new w 68 #[.int .u8 0, .int .i64 0, .string ⟨#[]⟩, .slice none 0 0])).moves ((Moves.refl nobody _).alloc (.cells #[.int .u8 115, .int .i64 0, .string ⟨#[]⟩, .slice none 0 0] 68)) (fun h => h)
  have hX0 := Holds.new (w.alloc (.cells #[.int .u8 0, .int .i64 0, .string ⟨#[]⟩, .slice none 0 0] 68)) 68 #[.int .u8 115, .int .i64 0, .string ⟨#[]⟩, .slice none 0 0]
  rw [World.size_alloc] at hX0
  have hm0 : Moves (fun k => k = Q) w ((w.alloc (.cells #[.int .u8 0, .int .i64 0, .string ⟨#[]⟩, .slice none 0 0] 68)).alloc (.cells #[.int .u8 115, .int .i64 0, .string ⟨#[]⟩, .slice none 0 0] 68)) := ((Moves.refl (fun k => k = Q) w).alloc _).alloc _
  have hb0 : Below w.heap.size w ((w.alloc (.cells #[.int .u8 0, .int .i64 0, .string ⟨#[]⟩, .slice none 0 0] 68)).alloc (.cells #[.int .u8 115, .int .i64 0, .string ⟨#[]⟩, .slice none 0 0] 68)) := ((Below.refl _ w).alloc (Nat.le_refl _) _).alloc (by simp) _
  have hs0 : ((w.alloc (.cells #[.int .u8 0, .int .i64 0, .string ⟨#[]⟩, .slice none 0 0] 68)).alloc (.cells #[.int .u8 115, .int .i64 0, .string ⟨#[]⟩, .slice none 0 0] 68)).heap.size = w.heap.size + 2 := by simp
  have HD0 := Lib.hid hD0
  have HX0 := Lib.hid hX0
  have HM0 := Lib.hid hm0
  have HUc := Lib.hid (HU.out _ hb0)
  have HB0 := Lib.hid hb0
  have HS0 := Lib.hid hs0
  clear hD0 hX0 hm0 hb0 hs0 HU h
  go_enter Tryz.func125, Tryz.ntmps125
  go_wp2_with (go_at_call 164; with_reducible refine HUc.out.mono ?_; rintro e' w1 ⟨rfl, h1, m1⟩; have hX1 := HX0.out.moves m1 (by omega); have z1 := hX1.cell 2; have t1 := hX1.frozen 2)
  have hm1 := HM0.out.trans m1 fun k h => .inl h
  have hD1 := HD0.out.moves m1 (by omega)
  have ms : Moves (fun i => i = w.heap.size + 1) w1 _ := ((Moves.refl (fun i => i = w.heap.size + 1) w1).setCell (p := ⟨w.heap.size + 1, 2, none⟩) (.inl rfl) (.string (bs s)))
  have HR2 : Hid (QAt _ Q r2 er) := h1.moves ms (by omega)
  have HD2 := Lib.hid (hD1.moves ms (by omega))
  have HX2 := Lib.hid (Holds.set hX1 2 (.string (bs s)))
  have HM2 := Lib.hid (hm1.setCell (p := ⟨w.heap.size + 1, 2, none⟩) (.inr (by show w.heap.size ≤ w.heap.size + 1; omega)) (.string (bs s)))
  obtain ⟨W2, hW2⟩ : ∃ W2, W2 = (w1.setCell ⟨w.heap.size + 1, 2, none⟩ (.string (bs s))) := ⟨_, rfl⟩
  rw [← hW2] at HR2 HD2 HX2 HM2 ⊢
  clear hW2 ms
  clear hm1 hD1 hX1 h1 m1
  have HZ : Hid (orE er 0 = 0 → er = 0) := fun h => by rwa [orE_right] at h
  have y0 : W2.drew.cell? ⟨w.heap.size + 1, 0, none⟩ = some (.int .u8 115) := HX2.out.cell 0
  have y1 : W2.drew.cell? ⟨w.heap.size + 1, 1, none⟩ = some (.int .i64 0) := HX2.out.cell 1
  have y2 : W2.drew.cell? ⟨w.heap.size + 1, 2, none⟩ = some (.string (bs s)) := HX2.out.cell 2
  have y3 : W2.drew.cell? ⟨w.heap.size + 1, 3, none⟩ = some (.slice none 0 0) := HX2.out.cell 3
  have x0 := HX2.out.cell 0
  have x1 := HX2.out.cell 1
  have x2 := HX2.out.cell 2
  have x3 := HX2.out.cell 3
  have xe := Holds.cell HR2.out 1
  have ye : W2.drew.cell? ⟨Q, 1, none⟩ = some (.int .i64 er) := Holds.cell HR2.out 1
  have c0 : W2.drew.cell? ⟨w.heap.size, 0, none⟩ = some (.int .u8 0) := HD2.out.cell 0
  have s0 : W2.drew.frozen? ⟨w.heap.size, 0, none⟩ = false := HD2.out.frozen 0
  have d0 := HD2.out.cell 0
  have fz0 := HD2.out.frozen 0
  have c1 : W2.drew.cell? ⟨w.heap.size, 1, none⟩ = some (.int .i64 0) := HD2.out.cell 1
  have s1 : W2.drew.frozen? ⟨w.heap.size, 1, none⟩ = false := HD2.out.frozen 1
  have d1 := HD2.out.cell 1
  have fz1 := HD2.out.frozen 1
  have c2 : W2.drew.cell? ⟨w.heap.size, 2, none⟩ = some (.string ⟨#[]⟩) := HD2.out.cell 2
  have s2 : W2.drew.frozen? ⟨w.heap.size, 2, none⟩ = false := HD2.out.frozen 2
  have d2 := HD2.out.cell 2
  have fz2 := HD2.out.frozen 2
  have c3 : W2.drew.cell? ⟨w.heap.size, 3, none⟩ = some (.slice none 0 0) := HD2.out.cell 3
  have s3 : W2.drew.frozen? ⟨w.heap.size, 3, none⟩ = false := HD2.out.frozen 3
  have d3 := HD2.out.cell 3
  have fz3 := HD2.out.frozen 3
  go_wp2_with fail
  go_region
  go_wp2_with fail
  have hF := Holds.set (Holds.set (Holds.set (Holds.set HD2.out 0 (.int .u8 115)) 1 (.int .i64 0)) 2 (.string (bs s))) 3 (.slice none 0 0)
  have mg := (((((Moves.refl (fun i => i = w.heap.size) W2).setCell (p := ⟨w.heap.size, 0, none⟩) (.inl rfl) (.int .u8 115)).setCell (p := ⟨w.heap.size, 1, none⟩) (.inl rfl) (.int .i64 0)).setCell (p := ⟨w.heap.size, 2, none⟩) (.inl rfl) (.string (bs s))).setCell (p := ⟨w.heap.size, 3, none⟩) (.inl rfl) (.slice none 0 0)).drew
  have mm := HM2.out.trans mg fun i h => .inr (by rw [h]; exact Nat.le_refl _)
  try simp only [Exit.inBlock, Exit.then]
  have hR4 := Holds.moves HR2.out mg (by omega)
  refine bodyPost_ret (rdResults (p := 4) (u := 5) rfl _ _ w.heap.size _ _ (0, 0) _ rfl hF Tryz.underlying68 rfl (by kernel_rfl)) rfl ⟨mm, .int .u8 115, .int .i64 0, .string (bs s), .slice none 0 0, ⟨⟨_, rfl⟩, ⟨_, rfl⟩, ⟨_, rfl⟩, _, _, _, rfl⟩, ?_, fun hz => ?_⟩
  · rw [orE_right]; rfl
  · exact ⟨none, 0, rfl, Nat.le_refl _, TextsAt.nil _, QAt.err hR4 (HZ.out hz), fun g hg => by simp [Value.ownBlock] at hg⟩

set_option maxRecDepth 100000 in
theorem get_t {w : World} {Q : Nat} {rest : List UInt8} (h : QAt w Q rest 0) (hr : rest.length ≤ 10000) :
    Calls Tryz.prog 125 #[.pointer (some ⟨Q, 0, none⟩), .int .u8 116] w (GetPost Q w (orE (countedP anyR rest 0).2.2 0) ⟨116, 0, (countedP anyR rest 0).1, []⟩ (countedP anyR rest 0).2.1) := by
  have HU : Hid (∀ W, Below w.heap.size w W → _) := fun (W : World) (hb : Below w.heap.size w W) => qText_any (h.moves (Moves.ofBelow (S := nobody) hb) fun h => h) (by omega)
  generalize countedP anyR rest 0 = p at *
  obtain ⟨s, r2, er⟩ := p
  simp only at *
  have hRl := h.lt
  have hD0 := ((Holds.new w 68 #[.int .u8 0, .int .i64 0, .string ⟨#[]⟩, .slice none 0 0])).moves ((Moves.refl nobody _).alloc (.cells #[.int .u8 116, .int .i64 0, .string ⟨#[]⟩, .slice none 0 0] 68)) (fun h => h)
  have hX0 := Holds.new (w.alloc (.cells #[.int .u8 0, .int .i64 0, .string ⟨#[]⟩, .slice none 0 0] 68)) 68 #[.int .u8 116, .int .i64 0, .string ⟨#[]⟩, .slice none 0 0]
  rw [World.size_alloc] at hX0
  have hm0 : Moves (fun k => k = Q) w ((w.alloc (.cells #[.int .u8 0, .int .i64 0, .string ⟨#[]⟩, .slice none 0 0] 68)).alloc (.cells #[.int .u8 116, .int .i64 0, .string ⟨#[]⟩, .slice none 0 0] 68)) := ((Moves.refl (fun k => k = Q) w).alloc _).alloc _
  have hb0 : Below w.heap.size w ((w.alloc (.cells #[.int .u8 0, .int .i64 0, .string ⟨#[]⟩, .slice none 0 0] 68)).alloc (.cells #[.int .u8 116, .int .i64 0, .string ⟨#[]⟩, .slice none 0 0] 68)) := ((Below.refl _ w).alloc (Nat.le_refl _) _).alloc (by simp) _
  have hs0 : ((w.alloc (.cells #[.int .u8 0, .int .i64 0, .string ⟨#[]⟩, .slice none 0 0] 68)).alloc (.cells #[.int .u8 116, .int .i64 0, .string ⟨#[]⟩, .slice none 0 0] 68)).heap.size = w.heap.size + 2 := by simp
  have HD0 := Lib.hid hD0
  have HX0 := Lib.hid hX0
  have HM0 := Lib.hid hm0
  have HUc := Lib.hid (HU.out _ hb0)
  have HB0 := Lib.hid hb0
  have HS0 := Lib.hid hs0
  clear hD0 hX0 hm0 hb0 hs0 HU h
  go_enter Tryz.func125, Tryz.ntmps125
  go_wp2_with (go_at_call 164; with_reducible refine HUc.out.mono ?_; rintro e' w1 ⟨rfl, h1, m1⟩; have hX1 := HX0.out.moves m1 (by omega); have z1 := hX1.cell 2; have t1 := hX1.frozen 2)
  have hm1 := HM0.out.trans m1 fun k h => .inl h
  have hD1 := HD0.out.moves m1 (by omega)
  have ms : Moves (fun i => i = w.heap.size + 1) w1 _ := ((Moves.refl (fun i => i = w.heap.size + 1) w1).setCell (p := ⟨w.heap.size + 1, 2, none⟩) (.inl rfl) (.string (bs s)))
  have HR2 : Hid (QAt _ Q r2 er) := h1.moves ms (by omega)
  have HD2 := Lib.hid (hD1.moves ms (by omega))
  have HX2 := Lib.hid (Holds.set hX1 2 (.string (bs s)))
  have HM2 := Lib.hid (hm1.setCell (p := ⟨w.heap.size + 1, 2, none⟩) (.inr (by show w.heap.size ≤ w.heap.size + 1; omega)) (.string (bs s)))
  obtain ⟨W2, hW2⟩ : ∃ W2, W2 = (w1.setCell ⟨w.heap.size + 1, 2, none⟩ (.string (bs s))) := ⟨_, rfl⟩
  rw [← hW2] at HR2 HD2 HX2 HM2 ⊢
  clear hW2 ms
  clear hm1 hD1 hX1 h1 m1
  have HZ : Hid (orE er 0 = 0 → er = 0) := fun h => by rwa [orE_right] at h
  have y0 : W2.drew.cell? ⟨w.heap.size + 1, 0, none⟩ = some (.int .u8 116) := HX2.out.cell 0
  have y1 : W2.drew.cell? ⟨w.heap.size + 1, 1, none⟩ = some (.int .i64 0) := HX2.out.cell 1
  have y2 : W2.drew.cell? ⟨w.heap.size + 1, 2, none⟩ = some (.string (bs s)) := HX2.out.cell 2
  have y3 : W2.drew.cell? ⟨w.heap.size + 1, 3, none⟩ = some (.slice none 0 0) := HX2.out.cell 3
  have x0 := HX2.out.cell 0
  have x1 := HX2.out.cell 1
  have x2 := HX2.out.cell 2
  have x3 := HX2.out.cell 3
  have xe := Holds.cell HR2.out 1
  have ye : W2.drew.cell? ⟨Q, 1, none⟩ = some (.int .i64 er) := Holds.cell HR2.out 1
  have c0 : W2.drew.cell? ⟨w.heap.size, 0, none⟩ = some (.int .u8 0) := HD2.out.cell 0
  have s0 : W2.drew.frozen? ⟨w.heap.size, 0, none⟩ = false := HD2.out.frozen 0
  have d0 := HD2.out.cell 0
  have fz0 := HD2.out.frozen 0
  have c1 : W2.drew.cell? ⟨w.heap.size, 1, none⟩ = some (.int .i64 0) := HD2.out.cell 1
  have s1 : W2.drew.frozen? ⟨w.heap.size, 1, none⟩ = false := HD2.out.frozen 1
  have d1 := HD2.out.cell 1
  have fz1 := HD2.out.frozen 1
  have c2 : W2.drew.cell? ⟨w.heap.size, 2, none⟩ = some (.string ⟨#[]⟩) := HD2.out.cell 2
  have s2 : W2.drew.frozen? ⟨w.heap.size, 2, none⟩ = false := HD2.out.frozen 2
  have d2 := HD2.out.cell 2
  have fz2 := HD2.out.frozen 2
  have c3 : W2.drew.cell? ⟨w.heap.size, 3, none⟩ = some (.slice none 0 0) := HD2.out.cell 3
  have s3 : W2.drew.frozen? ⟨w.heap.size, 3, none⟩ = false := HD2.out.frozen 3
  have d3 := HD2.out.cell 3
  have fz3 := HD2.out.frozen 3
  go_wp2_with fail
  go_region
  go_wp2_with fail
  have hF := Holds.set (Holds.set (Holds.set (Holds.set HD2.out 0 (.int .u8 116)) 1 (.int .i64 0)) 2 (.string (bs s))) 3 (.slice none 0 0)
  have mg := (((((Moves.refl (fun i => i = w.heap.size) W2).setCell (p := ⟨w.heap.size, 0, none⟩) (.inl rfl) (.int .u8 116)).setCell (p := ⟨w.heap.size, 1, none⟩) (.inl rfl) (.int .i64 0)).setCell (p := ⟨w.heap.size, 2, none⟩) (.inl rfl) (.string (bs s))).setCell (p := ⟨w.heap.size, 3, none⟩) (.inl rfl) (.slice none 0 0)).drew
  have mm := HM2.out.trans mg fun i h => .inr (by rw [h]; exact Nat.le_refl _)
  try simp only [Exit.inBlock, Exit.then]
  have hR4 := Holds.moves HR2.out mg (by omega)
  refine bodyPost_ret (rdResults (p := 4) (u := 5) rfl _ _ w.heap.size _ _ (0, 0) _ rfl hF Tryz.underlying68 rfl (by kernel_rfl)) rfl ⟨mm, .int .u8 116, .int .i64 0, .string (bs s), .slice none 0 0, ⟨⟨_, rfl⟩, ⟨_, rfl⟩, ⟨_, rfl⟩, _, _, _, rfl⟩, ?_, fun hz => ?_⟩
  · rw [orE_right]; rfl
  · exact ⟨none, 0, rfl, Nat.le_refl _, TextsAt.nil _, QAt.err hR4 (HZ.out hz), fun g hg => by simp [Value.ownBlock] at hg⟩

set_option maxRecDepth 100000 in
theorem get_m {w : World} {Q : Nat} {rest : List UInt8} (h : QAt w Q rest 0) (hr : rest.length ≤ 10000) :
    Calls Tryz.prog 125 #[.pointer (some ⟨Q, 0, none⟩), .int .u8 109] w (GetPost Q w (orE (countedP wholeR rest 0).2.2 0) ⟨109, 0, plainL (countedP wholeR rest 0).1, []⟩ (countedP wholeR rest 0).2.1) := by
  have HU : Hid (∀ W, Below w.heap.size w W → _) := fun (W : World) (hb : Below w.heap.size w W) => qWhole_any (h.moves (Moves.ofBelow (S := nobody) hb) fun h => h) (by omega)
  generalize countedP wholeR rest 0 = p at *
  obtain ⟨s, r2, er⟩ := p
  simp only at *
  have hRl := h.lt
  have hD0 := ((Holds.new w 68 #[.int .u8 0, .int .i64 0, .string ⟨#[]⟩, .slice none 0 0])).moves ((Moves.refl nobody _).alloc (.cells #[.int .u8 109, .int .i64 0, .string ⟨#[]⟩, .slice none 0 0] 68)) (fun h => h)
  have hX0 := Holds.new (w.alloc (.cells #[.int .u8 0, .int .i64 0, .string ⟨#[]⟩, .slice none 0 0] 68)) 68 #[.int .u8 109, .int .i64 0, .string ⟨#[]⟩, .slice none 0 0]
  rw [World.size_alloc] at hX0
  have hm0 : Moves (fun k => k = Q) w ((w.alloc (.cells #[.int .u8 0, .int .i64 0, .string ⟨#[]⟩, .slice none 0 0] 68)).alloc (.cells #[.int .u8 109, .int .i64 0, .string ⟨#[]⟩, .slice none 0 0] 68)) := ((Moves.refl (fun k => k = Q) w).alloc _).alloc _
  have hb0 : Below w.heap.size w ((w.alloc (.cells #[.int .u8 0, .int .i64 0, .string ⟨#[]⟩, .slice none 0 0] 68)).alloc (.cells #[.int .u8 109, .int .i64 0, .string ⟨#[]⟩, .slice none 0 0] 68)) := ((Below.refl _ w).alloc (Nat.le_refl _) _).alloc (by simp) _
  have hs0 : ((w.alloc (.cells #[.int .u8 0, .int .i64 0, .string ⟨#[]⟩, .slice none 0 0] 68)).alloc (.cells #[.int .u8 109, .int .i64 0, .string ⟨#[]⟩, .slice none 0 0] 68)).heap.size = w.heap.size + 2 := by simp
  have HD0 := Lib.hid hD0
  have HX0 := Lib.hid hX0
  have HM0 := Lib.hid hm0
  have HUc := Lib.hid (HU.out _ hb0)
  have HB0 := Lib.hid hb0
  have HS0 := Lib.hid hs0
  clear hD0 hX0 hm0 hb0 hs0 HU h
  go_enter Tryz.func125, Tryz.ntmps125
  go_wp2_with (go_at_call 163; with_reducible refine HUc.out.mono ?_; rintro e' w1 ⟨rfl, h1, m1⟩; have hX1 := HX0.out.moves m1 (by omega); have z1 := hX1.cell 2; have t1 := hX1.frozen 2)
  have hm1 := HM0.out.trans m1 fun k h => .inl h
  have hD1 := HD0.out.moves m1 (by omega)
  have ms : Moves (fun i => i = w.heap.size + 1) w1 _ := ((Moves.refl (fun i => i = w.heap.size + 1) w1).setCell (p := ⟨w.heap.size + 1, 2, none⟩) (.inl rfl) (.string (bs (plainL s))))
  have HR2 : Hid (QAt _ Q r2 er) := h1.moves ms (by omega)
  have HD2 := Lib.hid (hD1.moves ms (by omega))
  have HX2 := Lib.hid (Holds.set hX1 2 (.string (bs (plainL s))))
  have HM2 := Lib.hid (hm1.setCell (p := ⟨w.heap.size + 1, 2, none⟩) (.inr (by show w.heap.size ≤ w.heap.size + 1; omega)) (.string (bs (plainL s))))
  obtain ⟨W2, hW2⟩ : ∃ W2, W2 = (w1.setCell ⟨w.heap.size + 1, 2, none⟩ (.string (bs (plainL s)))) := ⟨_, rfl⟩
  rw [← hW2] at HR2 HD2 HX2 HM2 ⊢
  clear hW2 ms
  clear hm1 hD1 hX1 h1 m1
  have HZ : Hid (orE er 0 = 0 → er = 0) := fun h => by rwa [orE_right] at h
  have y0 : W2.drew.cell? ⟨w.heap.size + 1, 0, none⟩ = some (.int .u8 109) := HX2.out.cell 0
  have y1 : W2.drew.cell? ⟨w.heap.size + 1, 1, none⟩ = some (.int .i64 0) := HX2.out.cell 1
  have y2 : W2.drew.cell? ⟨w.heap.size + 1, 2, none⟩ = some (.string (bs (plainL s))) := HX2.out.cell 2
  have y3 : W2.drew.cell? ⟨w.heap.size + 1, 3, none⟩ = some (.slice none 0 0) := HX2.out.cell 3
  have x0 := HX2.out.cell 0
  have x1 := HX2.out.cell 1
  have x2 := HX2.out.cell 2
  have x3 := HX2.out.cell 3
  have xe := Holds.cell HR2.out 1
  have ye : W2.drew.cell? ⟨Q, 1, none⟩ = some (.int .i64 er) := Holds.cell HR2.out 1
  have c0 : W2.drew.cell? ⟨w.heap.size, 0, none⟩ = some (.int .u8 0) := HD2.out.cell 0
  have s0 : W2.drew.frozen? ⟨w.heap.size, 0, none⟩ = false := HD2.out.frozen 0
  have d0 := HD2.out.cell 0
  have fz0 := HD2.out.frozen 0
  have c1 : W2.drew.cell? ⟨w.heap.size, 1, none⟩ = some (.int .i64 0) := HD2.out.cell 1
  have s1 : W2.drew.frozen? ⟨w.heap.size, 1, none⟩ = false := HD2.out.frozen 1
  have d1 := HD2.out.cell 1
  have fz1 := HD2.out.frozen 1
  have c2 : W2.drew.cell? ⟨w.heap.size, 2, none⟩ = some (.string ⟨#[]⟩) := HD2.out.cell 2
  have s2 : W2.drew.frozen? ⟨w.heap.size, 2, none⟩ = false := HD2.out.frozen 2
  have d2 := HD2.out.cell 2
  have fz2 := HD2.out.frozen 2
  have c3 : W2.drew.cell? ⟨w.heap.size, 3, none⟩ = some (.slice none 0 0) := HD2.out.cell 3
  have s3 : W2.drew.frozen? ⟨w.heap.size, 3, none⟩ = false := HD2.out.frozen 3
  have d3 := HD2.out.cell 3
  have fz3 := HD2.out.frozen 3
  go_wp2_with fail
  go_region
  go_wp2_with fail
  have hF := Holds.set (Holds.set (Holds.set (Holds.set HD2.out 0 (.int .u8 109)) 1 (.int .i64 0)) 2 (.string (bs (plainL s)))) 3 (.slice none 0 0)
  have mg := (((((Moves.refl (fun i => i = w.heap.size) W2).setCell (p := ⟨w.heap.size, 0, none⟩) (.inl rfl) (.int .u8 109)).setCell (p := ⟨w.heap.size, 1, none⟩) (.inl rfl) (.int .i64 0)).setCell (p := ⟨w.heap.size, 2, none⟩) (.inl rfl) (.string (bs (plainL s)))).setCell (p := ⟨w.heap.size, 3, none⟩) (.inl rfl) (.slice none 0 0)).drew
  have mm := HM2.out.trans mg fun i h => .inr (by rw [h]; exact Nat.le_refl _)
  try simp only [Exit.inBlock, Exit.then]
  have hR4 := Holds.moves HR2.out mg (by omega)
  refine bodyPost_ret (rdResults (p := 4) (u := 5) rfl _ _ w.heap.size _ _ (0, 0) _ rfl hF Tryz.underlying68 rfl (by kernel_rfl)) rfl ⟨mm, .int .u8 109, .int .i64 0, .string (bs (plainL s)), .slice none 0 0, ⟨⟨_, rfl⟩, ⟨_, rfl⟩, ⟨_, rfl⟩, _, _, _, rfl⟩, ?_, fun hz => ?_⟩
  · rw [orE_right]; rfl
  · exact ⟨none, 0, rfl, Nat.le_refl _, TextsAt.nil _, QAt.err hR4 (HZ.out hz), fun g hg => by simp [Value.ownBlock] at hg⟩

set_option maxRecDepth 100000 in
theorem get_c {w : World} {Q : Nat} {rest : List UInt8} (h : QAt w Q rest 0) (hr : rest.length ≤ 10000) :
    Calls Tryz.prog 125 #[.pointer (some ⟨Q, 0, none⟩), .int .u8 99] w (GetPost Q w (orE (fixedP anyR 16 rest 0).2.2 0) ⟨99, 0, (fixedP anyR 16 rest 0).1, []⟩ (fixedP anyR 16 rest 0).2.1) := by
  have HU : Hid (∀ W, Below w.heap.size w W → _) := fun (W : World) (hb : Below w.heap.size w W) => qBytes_any (h.moves (Moves.ofBelow (S := nobody) hb) fun h => h) (by omega) 16
  generalize fixedP anyR 16 rest 0 = p at *
  obtain ⟨s, r2, er⟩ := p
  simp only at *
  have hRl := h.lt
  have hD0 := ((Holds.new w 68 #[.int .u8 0, .int .i64 0, .string ⟨#[]⟩, .slice none 0 0])).moves ((Moves.refl nobody _).alloc (.cells #[.int .u8 99, .int .i64 0, .string ⟨#[]⟩, .slice none 0 0] 68)) (fun h => h)
  have hX0 := Holds.new (w.alloc (.cells #[.int .u8 0, .int .i64 0, .string ⟨#[]⟩, .slice none 0 0] 68)) 68 #[.int .u8 99, .int .i64 0, .string ⟨#[]⟩, .slice none 0 0]
  rw [World.size_alloc] at hX0
  have hm0 : Moves (fun k => k = Q) w ((w.alloc (.cells #[.int .u8 0, .int .i64 0, .string ⟨#[]⟩, .slice none 0 0] 68)).alloc (.cells #[.int .u8 99, .int .i64 0, .string ⟨#[]⟩, .slice none 0 0] 68)) := ((Moves.refl (fun k => k = Q) w).alloc _).alloc _
  have hb0 : Below w.heap.size w ((w.alloc (.cells #[.int .u8 0, .int .i64 0, .string ⟨#[]⟩, .slice none 0 0] 68)).alloc (.cells #[.int .u8 99, .int .i64 0, .string ⟨#[]⟩, .slice none 0 0] 68)) := ((Below.refl _ w).alloc (Nat.le_refl _) _).alloc (by simp) _
  have hs0 : ((w.alloc (.cells #[.int .u8 0, .int .i64 0, .string ⟨#[]⟩, .slice none 0 0] 68)).alloc (.cells #[.int .u8 99, .int .i64 0, .string ⟨#[]⟩, .slice none 0 0] 68)).heap.size = w.heap.size + 2 := by simp
  have HD0 := Lib.hid hD0
  have HX0 := Lib.hid hX0
  have HM0 := Lib.hid hm0
  have HUc := Lib.hid (HU.out _ hb0)
  have HB0 := Lib.hid hb0
  have HS0 := Lib.hid hs0
  clear hD0 hX0 hm0 hb0 hs0 HU h
  go_enter Tryz.func125, Tryz.ntmps125
  go_wp2_with (go_at_call 166; with_reducible refine HUc.out.mono ?_; rintro e' w1 ⟨rfl, h1, m1⟩; have hX1 := HX0.out.moves m1 (by omega); have z1 := hX1.cell 2; have t1 := hX1.frozen 2)
  have hm1 := HM0.out.trans m1 fun k h => .inl h
  have hD1 := HD0.out.moves m1 (by omega)
  have ms : Moves (fun i => i = w.heap.size + 1) w1 _ := ((Moves.refl (fun i => i = w.heap.size + 1) w1).setCell (p := ⟨w.heap.size + 1, 2, none⟩) (.inl rfl) (.string (bs s)))
  have HR2 : Hid (QAt _ Q r2 er) := h1.moves ms (by omega)
  have HD2 := Lib.hid (hD1.moves ms (by omega))
  have HX2 := Lib.hid (Holds.set hX1 2 (.string (bs s)))
  have HM2 := Lib.hid (hm1.setCell (p := ⟨w.heap.size + 1, 2, none⟩) (.inr (by show w.heap.size ≤ w.heap.size + 1; omega)) (.string (bs s)))
  obtain ⟨W2, hW2⟩ : ∃ W2, W2 = (w1.setCell ⟨w.heap.size + 1, 2, none⟩ (.string (bs s))) := ⟨_, rfl⟩
  rw [← hW2] at HR2 HD2 HX2 HM2 ⊢
  clear hW2 ms
  clear hm1 hD1 hX1 h1 m1
  have HZ : Hid (orE er 0 = 0 → er = 0) := fun h => by rwa [orE_right] at h
  have y0 : W2.drew.cell? ⟨w.heap.size + 1, 0, none⟩ = some (.int .u8 99) := HX2.out.cell 0
  have y1 : W2.drew.cell? ⟨w.heap.size + 1, 1, none⟩ = some (.int .i64 0) := HX2.out.cell 1
  have y2 : W2.drew.cell? ⟨w.heap.size + 1, 2, none⟩ = some (.string (bs s)) := HX2.out.cell 2
  have y3 : W2.drew.cell? ⟨w.heap.size + 1, 3, none⟩ = some (.slice none 0 0) := HX2.out.cell 3
  have x0 := HX2.out.cell 0
  have x1 := HX2.out.cell 1
  have x2 := HX2.out.cell 2
  have x3 := HX2.out.cell 3
  have xe := Holds.cell HR2.out 1
  have ye : W2.drew.cell? ⟨Q, 1, none⟩ = some (.int .i64 er) := Holds.cell HR2.out 1
  have c0 : W2.drew.cell? ⟨w.heap.size, 0, none⟩ = some (.int .u8 0) := HD2.out.cell 0
  have s0 : W2.drew.frozen? ⟨w.heap.size, 0, none⟩ = false := HD2.out.frozen 0
  have d0 := HD2.out.cell 0
  have fz0 := HD2.out.frozen 0
  have c1 : W2.drew.cell? ⟨w.heap.size, 1, none⟩ = some (.int .i64 0) := HD2.out.cell 1
  have s1 : W2.drew.frozen? ⟨w.heap.size, 1, none⟩ = false := HD2.out.frozen 1
  have d1 := HD2.out.cell 1
  have fz1 := HD2.out.frozen 1
  have c2 : W2.drew.cell? ⟨w.heap.size, 2, none⟩ = some (.string ⟨#[]⟩) := HD2.out.cell 2
  have s2 : W2.drew.frozen? ⟨w.heap.size, 2, none⟩ = false := HD2.out.frozen 2
  have d2 := HD2.out.cell 2
  have fz2 := HD2.out.frozen 2
  have c3 : W2.drew.cell? ⟨w.heap.size, 3, none⟩ = some (.slice none 0 0) := HD2.out.cell 3
  have s3 : W2.drew.frozen? ⟨w.heap.size, 3, none⟩ = false := HD2.out.frozen 3
  have d3 := HD2.out.cell 3
  have fz3 := HD2.out.frozen 3
  go_wp2_with fail
  go_region
  go_wp2_with fail
  have hF := Holds.set (Holds.set (Holds.set (Holds.set HD2.out 0 (.int .u8 99)) 1 (.int .i64 0)) 2 (.string (bs s))) 3 (.slice none 0 0)
  have mg := (((((Moves.refl (fun i => i = w.heap.size) W2).setCell (p := ⟨w.heap.size, 0, none⟩) (.inl rfl) (.int .u8 99)).setCell (p := ⟨w.heap.size, 1, none⟩) (.inl rfl) (.int .i64 0)).setCell (p := ⟨w.heap.size, 2, none⟩) (.inl rfl) (.string (bs s))).setCell (p := ⟨w.heap.size, 3, none⟩) (.inl rfl) (.slice none 0 0)).drew
  have mm := HM2.out.trans mg fun i h => .inr (by rw [h]; exact Nat.le_refl _)
  try simp only [Exit.inBlock, Exit.then]
  have hR4 := Holds.moves HR2.out mg (by omega)
  refine bodyPost_ret (rdResults (p := 4) (u := 5) rfl _ _ w.heap.size _ _ (0, 0) _ rfl hF Tryz.underlying68 rfl (by kernel_rfl)) rfl ⟨mm, .int .u8 99, .int .i64 0, .string (bs s), .slice none 0 0, ⟨⟨_, rfl⟩, ⟨_, rfl⟩, ⟨_, rfl⟩, _, _, _, rfl⟩, ?_, fun hz => ?_⟩
  · rw [orE_right]; rfl
  · exact ⟨none, 0, rfl, Nat.le_refl _, TextsAt.nil _, QAt.err hR4 (HZ.out hz), fun g hg => by simp [Value.ownBlock] at hg⟩

set_option maxRecDepth 100000 in
theorem get_b {w : World} {Q : Nat} {rest : List UInt8} (h : QAt w Q rest 0) (hr : rest.length ≤ 10000) :
    Calls Tryz.prog 125 #[.pointer (some ⟨Q, 0, none⟩), .int .u8 98] w (GetPost Q w (orE (boolP rest 0).2.2 0) ⟨98, cond (boolP rest 0).1 1 0, [], []⟩ (boolP rest 0).2.1) := by
  have HU : Hid (∀ W, Below w.heap.size w W → _) := fun (W : World) (hb : Below w.heap.size w W) => qBool_any (h.moves (Moves.ofBelow (S := nobody) hb) fun h => h) (by omega)
  generalize boolP rest 0 = p at *
  obtain ⟨b, r2, er⟩ := p
  simp only at *
  have hRl := h.lt
  have hD0 := ((Holds.new w 68 #[.int .u8 0, .int .i64 0, .string ⟨#[]⟩, .slice none 0 0])).moves ((Moves.refl nobody _).alloc (.cells #[.int .u8 98, .int .i64 0, .string ⟨#[]⟩, .slice none 0 0] 68)) (fun h => h)
  have hX0 := Holds.new (w.alloc (.cells #[.int .u8 0, .int .i64 0, .string ⟨#[]⟩, .slice none 0 0] 68)) 68 #[.int .u8 98, .int .i64 0, .string ⟨#[]⟩, .slice none 0 0]
  rw [World.size_alloc] at hX0
  have hm0 : Moves (fun k => k = Q) w ((w.alloc (.cells #[.int .u8 0, .int .i64 0, .string ⟨#[]⟩, .slice none 0 0] 68)).alloc (.cells #[.int .u8 98, .int .i64 0, .string ⟨#[]⟩, .slice none 0 0] 68)) := ((Moves.refl (fun k => k = Q) w).alloc _).alloc _
  have hb0 : Below w.heap.size w ((w.alloc (.cells #[.int .u8 0, .int .i64 0, .string ⟨#[]⟩, .slice none 0 0] 68)).alloc (.cells #[.int .u8 98, .int .i64 0, .string ⟨#[]⟩, .slice none 0 0] 68)) := ((Below.refl _ w).alloc (Nat.le_refl _) _).alloc (by simp) _
  have hs0 : ((w.alloc (.cells #[.int .u8 0, .int .i64 0, .string ⟨#[]⟩, .slice none 0 0] 68)).alloc (.cells #[.int .u8 98, .int .i64 0, .string ⟨#[]⟩, .slice none 0 0] 68)).heap.size = w.heap.size + 2 := by simp
  have HD0 := Lib.hid hD0
  have HX0 := Lib.hid hX0
  have HM0 := Lib.hid hm0
  have HUc := Lib.hid (HU.out _ hb0)
  have HB0 := Lib.hid hb0
  have HS0 := Lib.hid hs0
  clear hD0 hX0 hm0 hb0 hs0 HU h
  have HZ : Hid (orE er 0 = 0 → er = 0) := fun h => by rwa [orE_right] at h
  cases b with
  | true =>
    go_enter Tryz.func125, Tryz.ntmps125
    go_wp2_with (go_at_call 161; with_reducible refine HUc.out.mono ?_; rintro e' w1 ⟨rfl, h1, m1⟩; have hX1 := HX0.out.moves m1 (by omega); have z1 := hX1.cell 1; have t1 := hX1.frozen 1)
    have hm1 := HM0.out.trans m1 fun k h => .inl h
    have hD1 := HD0.out.moves m1 (by omega)
    have ms : Moves (fun i => i = w.heap.size + 1) w1 _ := ((Moves.refl (fun i => i = w.heap.size + 1) w1).setCell (p := ⟨w.heap.size + 1, 1, none⟩) (.inl rfl) (.int .i64 1))
    have HR2 : Hid (QAt _ Q r2 er) := h1.moves ms (by omega)
    have HD2 := Lib.hid (hD1.moves ms (by omega))
    have HX2 := Lib.hid (Holds.set hX1 1 (.int .i64 1))
    have HM2 := Lib.hid (hm1.setCell (p := ⟨w.heap.size + 1, 1, none⟩) (.inr (by show w.heap.size ≤ w.heap.size + 1; omega)) (.int .i64 1))
    obtain ⟨W2, hW2⟩ : ∃ W2, W2 = (w1.setCell ⟨w.heap.size + 1, 1, none⟩ (.int .i64 1)) := ⟨_, rfl⟩
    rw [← hW2] at HR2 HD2 HX2 HM2 ⊢
    clear hW2 ms
    clear hm1 hD1 hX1 h1 m1
    have y0 : W2.drew.cell? ⟨w.heap.size + 1, 0, none⟩ = some (.int .u8 98) := HX2.out.cell 0
    have y1 : W2.drew.cell? ⟨w.heap.size + 1, 1, none⟩ = some (.int .i64 1) := HX2.out.cell 1
    have y2 : W2.drew.cell? ⟨w.heap.size + 1, 2, none⟩ = some (.string ⟨#[]⟩) := HX2.out.cell 2
    have y3 : W2.drew.cell? ⟨w.heap.size + 1, 3, none⟩ = some (.slice none 0 0) := HX2.out.cell 3
    have x0 := HX2.out.cell 0
    have x1 := HX2.out.cell 1
    have x2 := HX2.out.cell 2
    have x3 := HX2.out.cell 3
    have xe := Holds.cell HR2.out 1
    have ye : W2.drew.cell? ⟨Q, 1, none⟩ = some (.int .i64 er) := Holds.cell HR2.out 1
    have c0 : W2.drew.cell? ⟨w.heap.size, 0, none⟩ = some (.int .u8 0) := HD2.out.cell 0
    have s0 : W2.drew.frozen? ⟨w.heap.size, 0, none⟩ = false := HD2.out.frozen 0
    have d0 := HD2.out.cell 0
    have fz0 := HD2.out.frozen 0
    have c1 : W2.drew.cell? ⟨w.heap.size, 1, none⟩ = some (.int .i64 0) := HD2.out.cell 1
    have s1 : W2.drew.frozen? ⟨w.heap.size, 1, none⟩ = false := HD2.out.frozen 1
    have d1 := HD2.out.cell 1
    have fz1 := HD2.out.frozen 1
    have c2 : W2.drew.cell? ⟨w.heap.size, 2, none⟩ = some (.string ⟨#[]⟩) := HD2.out.cell 2
    have s2 : W2.drew.frozen? ⟨w.heap.size, 2, none⟩ = false := HD2.out.frozen 2
    have d2 := HD2.out.cell 2
    have fz2 := HD2.out.frozen 2
    have c3 : W2.drew.cell? ⟨w.heap.size, 3, none⟩ = some (.slice none 0 0) := HD2.out.cell 3
    have s3 : W2.drew.frozen? ⟨w.heap.size, 3, none⟩ = false := HD2.out.frozen 3
    have d3 := HD2.out.cell 3
    have fz3 := HD2.out.frozen 3
    go_wp2_with fail
    go_region
    go_wp2_with fail
    have hF := Holds.set (Holds.set (Holds.set (Holds.set HD2.out 0 (.int .u8 98)) 1 (.int .i64 1)) 2 (.string ⟨#[]⟩)) 3 (.slice none 0 0)
    have mg := (((((Moves.refl (fun i => i = w.heap.size) W2).setCell (p := ⟨w.heap.size, 0, none⟩) (.inl rfl) (.int .u8 98)).setCell (p := ⟨w.heap.size, 1, none⟩) (.inl rfl) (.int .i64 1)).setCell (p := ⟨w.heap.size, 2, none⟩) (.inl rfl) (.string ⟨#[]⟩)).setCell (p := ⟨w.heap.size, 3, none⟩) (.inl rfl) (.slice none 0 0)).drew
    have mm := HM2.out.trans mg fun i h => .inr (by rw [h]; exact Nat.le_refl _)
    try simp only [Exit.inBlock, Exit.then]
    have hR4 := Holds.moves HR2.out mg (by omega)
    refine bodyPost_ret (rdResults (p := 4) (u := 5) rfl _ _ w.heap.size _ _ (0, 0) _ rfl hF Tryz.underlying68 rfl (by kernel_rfl)) rfl ⟨mm, .int .u8 98, .int .i64 1, .string ⟨#[]⟩, .slice none 0 0, ⟨⟨_, rfl⟩, ⟨_, rfl⟩, ⟨_, rfl⟩, _, _, _, rfl⟩, ?_, fun hz => ?_⟩
    · rw [orE_right]; rfl
    · exact ⟨none, 0, rfl, Nat.le_refl _, TextsAt.nil _, QAt.err hR4 (HZ.out hz), fun g hg => by simp [Value.ownBlock] at hg⟩
  | false =>
    go_enter Tryz.func125, Tryz.ntmps125
    go_wp2_with (go_at_call 161; with_reducible refine HUc.out.mono ?_; rintro e' w1 ⟨rfl, h1, m1⟩; have hX1 := HX0.out.moves m1 (by omega); have z1 := hX1.cell 1; have t1 := hX1.frozen 1)
    have hm1 := HM0.out.trans m1 fun k h => .inl h
    have hD1 := HD0.out.moves m1 (by omega)
    have HR2 : Hid (QAt w1 Q r2 er) := h1
    have HD2 := Lib.hid hD1
    have HX2 := Lib.hid hX1
    have HM2 := Lib.hid hm1
    have hw12 := rfl (a := w1)
    obtain ⟨W2, hW2⟩ : ∃ W2, W2 = w1 := ⟨_, rfl⟩
    rw [← hW2] at HR2 HD2 HX2 HM2 ⊢
    clear hw12 hW2
    clear hm1 hD1 hX1 h1 m1
    have y0 : W2.drew.cell? ⟨w.heap.size + 1, 0, none⟩ = some (.int .u8 98) := HX2.out.cell 0
    have y1 : W2.drew.cell? ⟨w.heap.size + 1, 1, none⟩ = some (.int .i64 0) := HX2.out.cell 1
    have y2 : W2.drew.cell? ⟨w.heap.size + 1, 2, none⟩ = some (.string ⟨#[]⟩) := HX2.out.cell 2
    have y3 : W2.drew.cell? ⟨w.heap.size + 1, 3, none⟩ = some (.slice none 0 0) := HX2.out.cell 3
    have x0 := HX2.out.cell 0
    have x1 := HX2.out.cell 1
    have x2 := HX2.out.cell 2
    have x3 := HX2.out.cell 3
    have xe := Holds.cell HR2.out 1
    have ye : W2.drew.cell? ⟨Q, 1, none⟩ = some (.int .i64 er) := Holds.cell HR2.out 1
    have c0 : W2.drew.cell? ⟨w.heap.size, 0, none⟩ = some (.int .u8 0) := HD2.out.cell 0
    have s0 : W2.drew.frozen? ⟨w.heap.size, 0, none⟩ = false := HD2.out.frozen 0
    have d0 := HD2.out.cell 0
    have fz0 := HD2.out.frozen 0
    have c1 : W2.drew.cell? ⟨w.heap.size, 1, none⟩ = some (.int .i64 0) := HD2.out.cell 1
    have s1 : W2.drew.frozen? ⟨w.heap.size, 1, none⟩ = false := HD2.out.frozen 1
    have d1 := HD2.out.cell 1
    have fz1 := HD2.out.frozen 1
    have c2 : W2.drew.cell? ⟨w.heap.size, 2, none⟩ = some (.string ⟨#[]⟩) := HD2.out.cell 2
    have s2 : W2.drew.frozen? ⟨w.heap.size, 2, none⟩ = false := HD2.out.frozen 2
    have d2 := HD2.out.cell 2
    have fz2 := HD2.out.frozen 2
    have c3 : W2.drew.cell? ⟨w.heap.size, 3, none⟩ = some (.slice none 0 0) := HD2.out.cell 3
    have s3 : W2.drew.frozen? ⟨w.heap.size, 3, none⟩ = false := HD2.out.frozen 3
    have d3 := HD2.out.cell 3
    have fz3 := HD2.out.frozen 3
    go_wp2_with fail
    go_region
    go_wp2_with fail
    have hF := Holds.set (Holds.set (Holds.set (Holds.set HD2.out 0 (.int .u8 98)) 1 (.int .i64 0)) 2 (.string ⟨#[]⟩)) 3 (.slice none 0 0)
    have mg := (((((Moves.refl (fun i => i = w.heap.size) W2).setCell (p := ⟨w.heap.size, 0, none⟩) (.inl rfl) (.int .u8 98)).setCell (p := ⟨w.heap.size, 1, none⟩) (.inl rfl) (.int .i64 0)).setCell (p := ⟨w.heap.size, 2, none⟩) (.inl rfl) (.string ⟨#[]⟩)).setCell (p := ⟨w.heap.size, 3, none⟩) (.inl rfl) (.slice none 0 0)).drew
    have mm := HM2.out.trans mg fun i h => .inr (by rw [h]; exact Nat.le_refl _)
    try simp only [Exit.inBlock, Exit.then]
    have hR4 := Holds.moves HR2.out mg (by omega)
    refine bodyPost_ret (rdResults (p := 4) (u := 5) rfl _ _ w.heap.size _ _ (0, 0) _ rfl hF Tryz.underlying68 rfl (by kernel_rfl)) rfl ⟨mm, .int .u8 98, .int .i64 0, .string ⟨#[]⟩, .slice none 0 0, ⟨⟨_, rfl⟩, ⟨_, rfl⟩, ⟨_, rfl⟩, _, _, _, rfl⟩, ?_, fun hz => ?_⟩
    · rw [orE_right]; rfl
    · exact ⟨none, 0, rfl, Nat.le_refl _, TextsAt.nil _, QAt.err hR4 (HZ.out hz), fun g hg => by simp [Value.ownBlock] at hg⟩
end Go.Proofs.YtkmhdepohcncaaaGreatDoor

namespace Go.Proofs.YtkmhdepohcncaaaGreatDoor
open Go.RowKit


set_option maxRecDepth 100000 in
theorem get_n {w : World} {Q : Nat} {rest : List UInt8} (h : QAt w Q rest 0) (hr : rest.length ≤ 10000) :
    Calls Tryz.prog 125 #[.pointer (some ⟨Q, 0, none⟩), .int .u8 110] w (GetPost Q w (orE (countedP anyR rest 0).2.2 ((splitP (countedP anyR rest 0).1).2 : Int)) ⟨110, 0, [], (splitP (countedP anyR rest 0).1).1⟩ (countedP anyR rest 0).2.1) := by
  have HU : Hid (∀ W, Below w.heap.size w W → _) := fun (W : World) (hb : Below w.heap.size w W) => qText_any (h.moves (Moves.ofBelow (S := nobody) hb) fun h => h) (by omega)
  have hwd := countedP_word anyR rest 0
  generalize countedP anyR rest 0 = p at *
  obtain ⟨s, r2, er⟩ := p
  simp only at *
  have HSp := Lib.hid (fun (W : World) => rSplit_new s (by omega) W)
  generalize splitP s = q at *
  obtain ⟨l, c⟩ := q
  simp only at HSp ⊢
  clear hwd
  have hRl := h.lt
  have hD0 := ((Holds.new w 68 #[.int .u8 0, .int .i64 0, .string ⟨#[]⟩, .slice none 0 0])).moves ((Moves.refl nobody _).alloc (.cells #[.int .u8 110, .int .i64 0, .string ⟨#[]⟩, .slice none 0 0] 68)) (fun h => h)
  have hX0 := Holds.new (w.alloc (.cells #[.int .u8 0, .int .i64 0, .string ⟨#[]⟩, .slice none 0 0] 68)) 68 #[.int .u8 110, .int .i64 0, .string ⟨#[]⟩, .slice none 0 0]
  rw [World.size_alloc] at hX0
  have hm0 : Moves (fun k => k = Q) w ((w.alloc (.cells #[.int .u8 0, .int .i64 0, .string ⟨#[]⟩, .slice none 0 0] 68)).alloc (.cells #[.int .u8 110, .int .i64 0, .string ⟨#[]⟩, .slice none 0 0] 68)) := ((Moves.refl (fun k => k = Q) w).alloc _).alloc _
  have hb0 : Below w.heap.size w ((w.alloc (.cells #[.int .u8 0, .int .i64 0, .string ⟨#[]⟩, .slice none 0 0] 68)).alloc (.cells #[.int .u8 110, .int .i64 0, .string ⟨#[]⟩, .slice none 0 0] 68)) := ((Below.refl _ w).alloc (Nat.le_refl _) _).alloc (by simp) _
  have hs0 : ((w.alloc (.cells #[.int .u8 0, .int .i64 0, .string ⟨#[]⟩, .slice none 0 0] 68)).alloc (.cells #[.int .u8 110, .int .i64 0, .string ⟨#[]⟩, .slice none 0 0] 68)).heap.size = w.heap.size + 2 := by simp
  have HD0 := Lib.hid hD0
  have HX0 := Lib.hid hX0
  have HM0 := Lib.hid hm0
  have HUc := Lib.hid (HU.out _ hb0)
  have HB0 := Lib.hid hb0
  have HS0 := Lib.hid hs0
  clear hD0 hX0 hm0 hb0 hs0 HU h
  go_enter Tryz.func125, Tryz.ntmps125
  go_wp2_with (go_at_call 164; with_reducible refine HUc.out.mono ?_; rintro e' w1 ⟨rfl, h1, m1⟩)
  go_at_call 165
  refine (HSp.out _).mono ?_
  rintro e' w5 ⟨u, rfl, hu, b5, hnw, hcap⟩
  have m5 := m1.trans (Moves.ofBelow (S := nobody) b5) (fun k h => h.elim)
  have h5 : QAt w5 Q r2 er := Holds.moves h1 (Moves.ofBelow (S := nobody) b5) (fun h => h)
  have hX5 := HX0.out.moves m5 (by omega)
  have z1 := hX5.cell 3
  have t1 := hX5.frozen 3
  have hs1 := m1.size
  have HNw : Hid (∀ g, u.ownBlock = some g → w.heap.size + 1 < g) := fun g hg => by have := hnw g hg; have := HS0.out; omega
  clear hnw hs1 h1 m1 b5
  obtain ⟨ao, cap, rfl, hcells⟩ := id hu
  rw [List.length_map] at *
  have hcap' : l.length ≤ cap := hcap ao cap rfl
  have HCap := Lib.hid hcap'
  have HTx5 := Lib.hid hu
  clear hcap hcap' hu hcells
  have q5 := Holds.cell h5 1
  by_cases hec : er = 0 ∧ c ≠ 0
  · have HE : Hid (er = 0 ∧ c ≠ 0) := hec
    have qa : (er == 0) = true := by rw [hec.1]; rfl
    have qb : ((c : Int) != 0) = true := by rw [bne_iff_ne]; have := hec.2; omega
    clear hec
    have hm5 := HM0.out.trans m5 fun k h => .inl h
    have hD5 := HD0.out.moves m5 (by omega)
    have ms : Moves (fun i => i = w.heap.size + 1) w5 _ := ((Moves.refl (fun i => i = w.heap.size + 1) w5).setCell (p := ⟨w.heap.size + 1, 3, none⟩) (.inl rfl) (.slice ao l.length cap))
    have HR2 : Hid (QAt _ Q r2 er) := h5.moves ms (by omega)
    have HD2 := Lib.hid (hD5.moves ms (by omega))
    have HX2 := Lib.hid (Holds.set hX5 3 (.slice ao l.length cap))
    have HM2 := Lib.hid (hm5.setCell (p := ⟨w.heap.size + 1, 3, none⟩) (.inr (by show w.heap.size ≤ w.heap.size + 1; omega)) (.slice ao l.length cap))
    have HTx := Lib.hid (HTx5.out.moves ms (fun g hg => by have := HNw.out g hg; omega))
    have x0 := HX2.out.cell 0
    have x1 := HX2.out.cell 1
    have x2 := HX2.out.cell 2
    have x3 := HX2.out.cell 3
    have xe := Holds.cell HR2.out 1
    have d0 := HD2.out.cell 0
    have d1 := HD2.out.cell 1
    have d2 := HD2.out.cell 2
    have d3 := HD2.out.cell 3
    have r0 := HD2.out.frozen 0
    have r1 := HD2.out.frozen 1
    have r2' := HD2.out.frozen 2
    have r3 := HD2.out.frozen 3
    go_wp2_with fail
    have hF := Holds.set (Holds.set (Holds.set (Holds.set HD2.out 0 (.int .u8 110)) 1 (.int .i64 0)) 2 (.string ⟨#[]⟩)) 3 (.slice ao l.length cap)
    have mg := ((((Moves.refl (fun i => i = w.heap.size) (w5.setCell ⟨w.heap.size + 1, 3, none⟩ (.slice ao l.length cap))).setCell (p := ⟨w.heap.size, 0, none⟩) (.inl rfl) (.int .u8 110)).setCell (p := ⟨w.heap.size, 1, none⟩) (.inl rfl) (.int .i64 0)).setCell (p := ⟨w.heap.size, 2, none⟩) (.inl rfl) (.string ⟨#[]⟩)).setCell (p := ⟨w.heap.size, 3, none⟩) (.inl rfl) (.slice ao l.length cap)
    have mm := HM2.out.trans mg fun i h => .inr (by rw [h]; exact Nat.le_refl _)
    try simp only [Exit.inBlock, Exit.then]
    refine bodyPost_ret (rdResults (p := 4) (u := 5) rfl _ _ w.heap.size _ _ (0, 0) _ rfl hF Tryz.underlying68 rfl (by kernel_rfl)) rfl ⟨mm, .int .u8 110, .int .i64 0, .string ⟨#[]⟩, .slice ao l.length cap, ⟨⟨_, rfl⟩, ⟨_, rfl⟩, ⟨_, rfl⟩, _, _, _, rfl⟩, ?_, fun hz => ?_⟩
    · have hq : orE er (c : Int) = (c : Int) := if_pos HE.out.1
      rw [hq]; rfl
    · exact absurd (orE_zero hz).2 (by have := HE.out.2; omega)
  · have HZ : Hid (orE er (c : Int) = 0 → er = 0) := fun h => (orE_zero h).1
    have HEq : Hid (orE er (c : Int) = er) := by
      show _ = _
      unfold orE
      split
      · rename_i h0
        have : c = 0 := Classical.byContradiction fun h => hec ⟨h0, h⟩
        rw [this, h0]; rfl
      · rfl
    have qs : (w5.setCell ⟨w.heap.size + 1, 3, none⟩ (.slice ao l.length cap)).cell? ⟨Q, 1, none⟩ = some (.int .i64 er) := Holds.cell (Holds.moves h5 ((Moves.refl (fun i => i = w.heap.size + 1) w5).setCell (p := ⟨w.heap.size + 1, 3, none⟩) (.inl rfl) (.slice ao l.length cap)) (by omega)) 1
    by_cases he0 : er = 0
    · have qa : (er == 0) = true := by rw [he0]; rfl
      have qb : ((c : Int) != 0) = false := by
        have : c = 0 := Classical.byContradiction fun h => hec ⟨he0, h⟩
        rw [this]; rfl
      clear hec he0
      go_wp2_with fail
      have hm5 := HM0.out.trans m5 fun k h => .inl h
      have hD5 := HD0.out.moves m5 (by omega)
      have ms : Moves (fun i => i = w.heap.size + 1) w5 _ := ((Moves.refl (fun i => i = w.heap.size + 1) w5).setCell (p := ⟨w.heap.size + 1, 3, none⟩) (.inl rfl) (.slice ao l.length cap))
      have HR2 : Hid (QAt _ Q r2 er) := h5.moves ms (by omega)
      have HD2 := Lib.hid (hD5.moves ms (by omega))
      have HX2 := Lib.hid (Holds.set hX5 3 (.slice ao l.length cap))
      have HM2 := Lib.hid (hm5.setCell (p := ⟨w.heap.size + 1, 3, none⟩) (.inr (by show w.heap.size ≤ w.heap.size + 1; omega)) (.slice ao l.length cap))
      have HTx := Lib.hid (HTx5.out.moves ms (fun g hg => by have := HNw.out g hg; omega))
      obtain ⟨W2, hW2⟩ : ∃ W2, W2 = (w5.setCell ⟨w.heap.size + 1, 3, none⟩ (.slice ao l.length cap)) := ⟨_, rfl⟩
      rw [← hW2] at HR2 HD2 HX2 HM2 HTx ⊢
      clear hW2 ms
      clear hm5 hD5 hX5 h5 m5
      have y0 : W2.drew.cell? ⟨w.heap.size + 1, 0, none⟩ = some (.int .u8 110) := HX2.out.cell 0
      have y1 : W2.drew.cell? ⟨w.heap.size + 1, 1, none⟩ = some (.int .i64 0) := HX2.out.cell 1
      have y2 : W2.drew.cell? ⟨w.heap.size + 1, 2, none⟩ = some (.string ⟨#[]⟩) := HX2.out.cell 2
      have y3 : W2.drew.cell? ⟨w.heap.size + 1, 3, none⟩ = some (.slice ao l.length cap) := HX2.out.cell 3
      have x0 := HX2.out.cell 0
      have x1 := HX2.out.cell 1
      have x2 := HX2.out.cell 2
      have x3 := HX2.out.cell 3
      have xe := Holds.cell HR2.out 1
      have ye : W2.drew.cell? ⟨Q, 1, none⟩ = some (.int .i64 er) := Holds.cell HR2.out 1
      have c0 : W2.drew.cell? ⟨w.heap.size, 0, none⟩ = some (.int .u8 0) := HD2.out.cell 0
      have s0 : W2.drew.frozen? ⟨w.heap.size, 0, none⟩ = false := HD2.out.frozen 0
      have d0 := HD2.out.cell 0
      have fz0 := HD2.out.frozen 0
      have c1 : W2.drew.cell? ⟨w.heap.size, 1, none⟩ = some (.int .i64 0) := HD2.out.cell 1
      have s1 : W2.drew.frozen? ⟨w.heap.size, 1, none⟩ = false := HD2.out.frozen 1
      have d1 := HD2.out.cell 1
      have fz1 := HD2.out.frozen 1
      have c2 : W2.drew.cell? ⟨w.heap.size, 2, none⟩ = some (.string ⟨#[]⟩) := HD2.out.cell 2
      have s2 : W2.drew.frozen? ⟨w.heap.size, 2, none⟩ = false := HD2.out.frozen 2
      have d2 := HD2.out.cell 2
      have fz2 := HD2.out.frozen 2
      have c3 : W2.drew.cell? ⟨w.heap.size, 3, none⟩ = some (.slice none 0 0) := HD2.out.cell 3
      have s3 : W2.drew.frozen? ⟨w.heap.size, 3, none⟩ = false := HD2.out.frozen 3
      have d3 := HD2.out.cell 3
      have fz3 := HD2.out.frozen 3
      go_wp2_with fail
      go_region
      go_wp2_with fail
      have hF := Holds.set (Holds.set (Holds.set (Holds.set HD2.out 0 (.int .u8 110)) 1 (.int .i64 0)) 2 (.string ⟨#[]⟩)) 3 (.slice ao l.length cap)
      have mg := (((((Moves.refl (fun i => i = w.heap.size) W2).setCell (p := ⟨w.heap.size, 0, none⟩) (.inl rfl) (.int .u8 110)).setCell (p := ⟨w.heap.size, 1, none⟩) (.inl rfl) (.int .i64 0)).setCell (p := ⟨w.heap.size, 2, none⟩) (.inl rfl) (.string ⟨#[]⟩)).setCell (p := ⟨w.heap.size, 3, none⟩) (.inl rfl) (.slice ao l.length cap)).drew
      have mm := HM2.out.trans mg fun i h => .inr (by rw [h]; exact Nat.le_refl _)
      try simp only [Exit.inBlock, Exit.then]
      have hR4 := Holds.moves HR2.out mg (by omega)
      refine bodyPost_ret (rdResults (p := 4) (u := 5) rfl _ _ w.heap.size _ _ (0, 0) _ rfl hF Tryz.underlying68 rfl (by kernel_rfl)) rfl ⟨mm, .int .u8 110, .int .i64 0, .string ⟨#[]⟩, .slice ao l.length cap, ⟨⟨_, rfl⟩, ⟨_, rfl⟩, ⟨_, rfl⟩, _, _, _, rfl⟩, ?_, fun hz => ?_⟩
      · rw [HEq.out]; rfl
      · exact ⟨ao, cap, rfl, HCap.out, HTx.out.moves mg (fun g hg => by have := HNw.out g hg; omega), QAt.err hR4 (HZ.out hz), fun g hg => by have := HNw.out g hg; omega⟩
    · have qa : (er == 0) = false := by rw [beq_eq_false_iff_ne]; exact he0
      clear hec he0
      go_wp2_with fail
      have hm5 := HM0.out.trans m5 fun k h => .inl h
      have hD5 := HD0.out.moves m5 (by omega)
      have ms : Moves (fun i => i = w.heap.size + 1) w5 _ := ((Moves.refl (fun i => i = w.heap.size + 1) w5).setCell (p := ⟨w.heap.size + 1, 3, none⟩) (.inl rfl) (.slice ao l.length cap))
      have HR2 : Hid (QAt _ Q r2 er) := h5.moves ms (by omega)
      have HD2 := Lib.hid (hD5.moves ms (by omega))
      have HX2 := Lib.hid (Holds.set hX5 3 (.slice ao l.length cap))
      have HM2 := Lib.hid (hm5.setCell (p := ⟨w.heap.size + 1, 3, none⟩) (.inr (by show w.heap.size ≤ w.heap.size + 1; omega)) (.slice ao l.length cap))
      have HTx := Lib.hid (HTx5.out.moves ms (fun g hg => by have := HNw.out g hg; omega))
      obtain ⟨W2, hW2⟩ : ∃ W2, W2 = (w5.setCell ⟨w.heap.size + 1, 3, none⟩ (.slice ao l.length cap)) := ⟨_, rfl⟩
      rw [← hW2] at HR2 HD2 HX2 HM2 HTx ⊢
      clear hW2 ms
      clear hm5 hD5 hX5 h5 m5
      have y0 : W2.drew.cell? ⟨w.heap.size + 1, 0, none⟩ = some (.int .u8 110) := HX2.out.cell 0
      have y1 : W2.drew.cell? ⟨w.heap.size + 1, 1, none⟩ = some (.int .i64 0) := HX2.out.cell 1
      have y2 : W2.drew.cell? ⟨w.heap.size + 1, 2, none⟩ = some (.string ⟨#[]⟩) := HX2.out.cell 2
      have y3 : W2.drew.cell? ⟨w.heap.size + 1, 3, none⟩ = some (.slice ao l.length cap) := HX2.out.cell 3
      have x0 := HX2.out.cell 0
      have x1 := HX2.out.cell 1
      have x2 := HX2.out.cell 2
      have x3 := HX2.out.cell 3
      have xe := Holds.cell HR2.out 1
      have ye : W2.drew.cell? ⟨Q, 1, none⟩ = some (.int .i64 er) := Holds.cell HR2.out 1
      have c0 : W2.drew.cell? ⟨w.heap.size, 0, none⟩ = some (.int .u8 0) := HD2.out.cell 0
      have s0 : W2.drew.frozen? ⟨w.heap.size, 0, none⟩ = false := HD2.out.frozen 0
      have d0 := HD2.out.cell 0
      have fz0 := HD2.out.frozen 0
      have c1 : W2.drew.cell? ⟨w.heap.size, 1, none⟩ = some (.int .i64 0) := HD2.out.cell 1
      have s1 : W2.drew.frozen? ⟨w.heap.size, 1, none⟩ = false := HD2.out.frozen 1
      have d1 := HD2.out.cell 1
      have fz1 := HD2.out.frozen 1
      have c2 : W2.drew.cell? ⟨w.heap.size, 2, none⟩ = some (.string ⟨#[]⟩) := HD2.out.cell 2
      have s2 : W2.drew.frozen? ⟨w.heap.size, 2, none⟩ = false := HD2.out.frozen 2
      have d2 := HD2.out.cell 2
      have fz2 := HD2.out.frozen 2
      have c3 : W2.drew.cell? ⟨w.heap.size, 3, none⟩ = some (.slice none 0 0) := HD2.out.cell 3
      have s3 : W2.drew.frozen? ⟨w.heap.size, 3, none⟩ = false := HD2.out.frozen 3
      have d3 := HD2.out.cell 3
      have fz3 := HD2.out.frozen 3
      go_wp2_with fail
      go_region
      go_wp2_with fail
      have hF := Holds.set (Holds.set (Holds.set (Holds.set HD2.out 0 (.int .u8 110)) 1 (.int .i64 0)) 2 (.string ⟨#[]⟩)) 3 (.slice ao l.length cap)
      have mg := (((((Moves.refl (fun i => i = w.heap.size) W2).setCell (p := ⟨w.heap.size, 0, none⟩) (.inl rfl) (.int .u8 110)).setCell (p := ⟨w.heap.size, 1, none⟩) (.inl rfl) (.int .i64 0)).setCell (p := ⟨w.heap.size, 2, none⟩) (.inl rfl) (.string ⟨#[]⟩)).setCell (p := ⟨w.heap.size, 3, none⟩) (.inl rfl) (.slice ao l.length cap)).drew
      have mm := HM2.out.trans mg fun i h => .inr (by rw [h]; exact Nat.le_refl _)
      try simp only [Exit.inBlock, Exit.then]
      have hR4 := Holds.moves HR2.out mg (by omega)
      refine bodyPost_ret (rdResults (p := 4) (u := 5) rfl _ _ w.heap.size _ _ (0, 0) _ rfl hF Tryz.underlying68 rfl (by kernel_rfl)) rfl ⟨mm, .int .u8 110, .int .i64 0, .string ⟨#[]⟩, .slice ao l.length cap, ⟨⟨_, rfl⟩, ⟨_, rfl⟩, ⟨_, rfl⟩, _, _, _, rfl⟩, ?_, fun hz => ?_⟩
      · rw [HEq.out]; rfl
      · exact ⟨ao, cap, rfl, HCap.out, HTx.out.moves mg (fun g hg => by have := HNw.out g hg; omega), QAt.err hR4 (HZ.out hz), fun g hg => by have := HNw.out g hg; omega⟩
end Go.Proofs.YtkmhdepohcncaaaGreatDoor

namespace Go.Proofs.YtkmhdepohcncaaaGreatDoor
open Go.RowKit

set_option maxRecDepth 100000 in
theorem invoke_text (a : Act) (v : Value) (w : World) : ((Deferred.ofValue (a.eval (.func 164)) #[v]).run Tryz.prog w).andThen (fun a w' => Sem.run Tryz.prog (invoke a.target a.args) w') = .ok (.enter 164 #[v]) w := by kernel_rfl
theorem rd_step_text {ops : Array Oper} {o : Oper} {a : Act} {w : World} {K : Act → World → Prop} {Q : Exit → Act → World → Prop} {E : Prop} (hgd : o.guard = none) (x : Operand) (t : TypeId)
    (ho : o.op = .call { callee := .value (.func 164), args := #[x], argTypes := #[t] }) {R : Value → World → Prop} (hc : Calls Tryz.prog 164 #[a.eval x] w fun e w' => ∃ v, e = .returned v ∧ R v w')
    (h : ∀ v w', R v w' → K (a.put o.dst v) w') : if Region.wanted o (yielded ops a.tmps) = true then Oper.wp Tryz.prog o a w K Q else E := by
  have hw : Region.wanted o (yielded ops a.tmps) = true := by simp [Region.wanted, hgd]
  rw [if_pos hw]
  unfold Oper.wp execOp
  simp only [ho, resolve, Sem.run_bind, List.map_toArray, List.map_cons, List.map_nil]
  have := invoke_text a (a.eval x) w
  rw [this, Oper.upon_enter]
  exact hc.mono fun e w' ⟨v, he, hr⟩ => by subst he; exact h v w' hr
theorem rd_append_str {ops : Array Oper} {o : Oper} {a : Act} {w : World} {K : Act → World → Prop} {Q : Exit → Act → World → Prop} {E : Prop} (hgd : o.guard = none) (s x : Operand)
    (hop : o.op = .call { callee := .builtin .append, args := #[s, x], argTypes := #[35, 35] }) (hty : o.type = 35) (B : Nat) (v : Value) (l : List ByteArray) (y : ByteArray) (n : Nat) (hn : l.length = n) (hs : a.eval s = v)
    (hown : w.ownsRow B 9 1 v n (strs l)) (X : Nat) (hx : a.eval x = .slice (some ⟨X, 0, none⟩) 1 1) (hX : w.cell? ⟨X, 0, none⟩ = some (.string y))
    (hlen : n < 100000) (hB : B ≤ w.heap.size)
    (h : ∀ g cap w', w'.ownsRow B 9 1 (.slice (some ⟨g, 0, none⟩) (n + 1) cap) (n + 1) (strs (l ++ [y])) → w.grownBy w' v.ownBlock → K (a.put o.dst (.slice (some ⟨g, 0, none⟩) (n + 1) cap)) w') :
    if Region.wanted o (yielded ops a.tmps) = true then Oper.wp Tryz.prog o a w K Q else E := by
  have hw : Region.wanted o (yielded ops a.tmps) = true := by simp [Region.wanted, hgd]
  rw [if_pos hw]
  obtain ⟨i0, hi, hz0, hz1, hz2⟩ := info_parts infoStr
  refine wp_append_own w s x 35 hop B 9 i0 (.string ⟨#[]⟩) 1 16 (by rw [← hty]; exact hty ▸ Tryz.underlying35) hi hz0 hz1 hz2 rfl (by decide) v n (strs l) hs hown ⟨X, 0, none⟩ 1 1 [.string y] hx rfl (fun j u hu => by
    cases j with
    | zero => simp at hu; rw [← hu]; exact hX
    | succ j => simp at hu) (str_one y) (by unfold maxLen; omega) (by omega) hB ?_
  intro v' w' h2 h3 _
  rw [← strs_snoc] at h2
  obtain ⟨g, cap', rfl⟩ : ∃ g cap', v' = .slice (some ⟨g, 0, none⟩) (n + 1) cap' := by
    rcases h2.2 with ⟨_, h⟩ | ⟨g, cap', _, h, _⟩
    · omega
    · exact ⟨g, cap', h⟩
  exact h g cap' w' h2 h3
theorem u32Q_none (rest : List UInt8) : (u32Q rest 0).2.2 ≠ 0 → (u32Q rest 0).1 = 0 := by
  unfold u32Q fixedP
  simp only
  split
  · intro _; rfl
  · split <;> first | (intro _; rfl) | (intro h; exact absurd rfl h)
theorem textsP_err : ∀ (n : Nat) (r : List UInt8) {e : Int}, e ≠ 0 → (textsP n r e).2 = (r, e)
  | 0, _, _, _ => rfl
  | n + 1, r, e, h => by
    rw [textsP, countedP_err anyR h]
    exact textsP_err n r h
theorem textsP_add : ∀ (k m : Nat) (r : List UInt8) (e : Int), (textsP (k + m) r e).2 = (textsP m (textsP k r e).2.1 (textsP k r e).2.2).2
  | 0, m, r, e => by rw [Nat.zero_add]; rfl
  | k + 1, m, r, e => by
    have ih := textsP_add k m (countedP anyR r e).2.1 (countedP anyR r e).2.2
    rw [show k + 1 + m = (k + m) + 1 by omega, textsP, textsP]
    exact ih
set_option maxHeartbeats 4000000 in
set_option maxRecDepth 100000 in
theorem get_e {w : World} {Q : Nat} {rest : List UInt8} (h : QAt w Q rest 0) (hr : rest.length ≤ 10000) :
    Calls Tryz.prog 125 #[.pointer (some ⟨Q, 0, none⟩), .int .u8 101] w (GetPost Q w (orE (extsQ rest).2.2.2 (extsQ rest).1) ⟨101, 0, [], (extsQ rest).2.1⟩ (extsQ rest).2.2.1) := by
  have HU : Hid (∀ W, Below w.heap.size w W → _) := fun (W : World) (hb : Below w.heap.size w W) => qU32_any (h.moves (Moves.ofBelow (S := nobody) hb) fun h => h) (by omega)
  have HT := Lib.hid (fun (W : World) (r : List UInt8) (e : Int) (h : QAt W Q r e) (hr : r.length ≤ 10000) => qText_any h (by omega))
  have hp := u32Q_lt rest 0
  have hlen : (u32Q rest 0).2.1.length ≤ 10000 := Nat.le_trans (fixedP_rest _ _ _ _) hr
  have hze := u32Q_none rest
  have HE : Hid (extsQ rest = if 8 < (u32Q rest 0).1 then (2, [], (u32Q rest 0).2) else (0, textsP (2 * (u32Q rest 0).1) (u32Q rest 0).2.1 (u32Q rest 0).2.2)) := rfl
  obtain ⟨i0, hi, hz0, hz1, hz2⟩ := info_parts infoStr
  generalize u32Q rest 0 = p at *
  obtain ⟨n, r2, er⟩ := p
  simp only at HU HE hp hlen hze
  have hRl := h.lt
  have hD0 := ((Holds.new w 68 #[.int .u8 0, .int .i64 0, .string ⟨#[]⟩, .slice none 0 0])).moves ((Moves.refl nobody _).alloc (.cells #[.int .u8 101, .int .i64 0, .string ⟨#[]⟩, .slice none 0 0] 68)) (fun h => h)
  have hX0 := Holds.new (w.alloc (.cells #[.int .u8 0, .int .i64 0, .string ⟨#[]⟩, .slice none 0 0] 68)) 68 #[.int .u8 101, .int .i64 0, .string ⟨#[]⟩, .slice none 0 0]
  rw [World.size_alloc] at hX0
  have hm0 : Moves (fun k => k = Q) w ((w.alloc (.cells #[.int .u8 0, .int .i64 0, .string ⟨#[]⟩, .slice none 0 0] 68)).alloc (.cells #[.int .u8 101, .int .i64 0, .string ⟨#[]⟩, .slice none 0 0] 68)) := ((Moves.refl (fun k => k = Q) w).alloc _).alloc _
  have hb0 : Below w.heap.size w ((w.alloc (.cells #[.int .u8 0, .int .i64 0, .string ⟨#[]⟩, .slice none 0 0] 68)).alloc (.cells #[.int .u8 101, .int .i64 0, .string ⟨#[]⟩, .slice none 0 0] 68)) := ((Below.refl _ w).alloc (Nat.le_refl _) _).alloc (by simp) _
  have hs0 : ((w.alloc (.cells #[.int .u8 0, .int .i64 0, .string ⟨#[]⟩, .slice none 0 0] 68)).alloc (.cells #[.int .u8 101, .int .i64 0, .string ⟨#[]⟩, .slice none 0 0] 68)).heap.size = w.heap.size + 2 := by simp
  have HD0 := Lib.hid hD0
  have HX0 := Lib.hid hX0
  have HM0 := Lib.hid hm0
  have HUc := Lib.hid (HU.out _ hb0)
  have HB0 := Lib.hid hb0
  have HS0 := Lib.hid hs0
  clear hD0 hX0 hm0 hb0 hs0 HU h
  go_enter Tryz.func125, Tryz.ntmps125
  go_wp2_with fail
  go_at_call 162
  refine HUc.out.mono ?_
  rintro e' w1 ⟨rfl, h1, m1⟩
  have qe := Holds.cell h1 1
  have hX1 := HX0.out.moves m1 (by omega)
  have hm1 := HM0.out.trans m1 fun k h => .inl h
  have hD1 := HD0.out.moves m1 (by omega)
  have x0 := hX1.cell 0
  have x1 := hX1.cell 1
  have x2 := hX1.cell 2
  have x3 := hX1.cell 3
  have d0 := hD1.cell 0
  have d1 := hD1.cell 1
  have d2 := hD1.cell 2
  have d3 := hD1.cell 3
  have r0 := hD1.frozen 0
  have r1 := hD1.frozen 1
  have r2' := hD1.frozen 2
  have r3 := hD1.frozen 3
  have hs1 : w.heap.size + 2 ≤ w1.heap.size := by have := m1.size; have := HS0.out; omega
  have HX1 := Lib.hid hX1
  have HD1 := Lib.hid hD1
  have HM1 := Lib.hid hm1
  have H1 := Lib.hid h1
  clear hX1 hD1 hm1 h1 m1 HUc HD0 HX0 HM0 HB0 HS0
  have qw : wrap64 (n : Int) = (n : Int) := by unfold wrap64; omega
  by_cases h8 : 8 < n
  · have he0 : er = 0 := Classical.byContradiction fun h => by have := hze h; omega
    have HE2 : Hid (extsQ rest = (2, [], r2, er)) := by show _ = _; rw [HE.out, if_pos h8]
    have qa : (er == 0) = true := by rw [he0]; rfl
    have qb : (n : Int) > 8 := by omega
    have HE0 := Lib.hid he0
    clear HE HT hlen hze he0 hp h8
    go_wp2_with fail
    have hF := Holds.set (Holds.set (Holds.set (Holds.set HD1.out 0 (.int .u8 101)) 1 (.int .i64 0)) 2 (.string ⟨#[]⟩)) 3 (.slice none 0 0)
    have mg := ((((Moves.refl (fun i => i = w.heap.size) w1).setCell (p := ⟨w.heap.size, 0, none⟩) (.inl rfl) (.int .u8 101)).setCell (p := ⟨w.heap.size, 1, none⟩) (.inl rfl) (.int .i64 0)).setCell (p := ⟨w.heap.size, 2, none⟩) (.inl rfl) (.string ⟨#[]⟩)).setCell (p := ⟨w.heap.size, 3, none⟩) (.inl rfl) (.slice none 0 0)
    have mm := HM1.out.trans mg fun i h => .inr (by rw [h]; exact Nat.le_refl _)
    try simp only [Exit.inBlock, Exit.then]
    refine bodyPost_ret (rdResults (p := 4) (u := 5) rfl _ _ w.heap.size _ _ (0, 0) _ rfl hF Tryz.underlying68 rfl (by kernel_rfl)) rfl ⟨mm, .int .u8 101, .int .i64 0, .string ⟨#[]⟩, .slice none 0 0, ⟨⟨_, rfl⟩, ⟨_, rfl⟩, ⟨_, rfl⟩, _, _, _, rfl⟩, ?_, fun hz => ?_⟩
    · rw [HE2.out, HE0.out]; rfl
    · rw [HE2.out] at hz; exact absurd (orE_zero hz).2 (by show (2 : Int) ≠ 0; omega)
  · have HE2 : Hid (extsQ rest = (0, textsP (2 * n) r2 er)) := by show _ = _; rw [HE.out, if_neg h8]
    have qb : ¬ (n : Int) > 8 := by omega
    have hn8 : n ≤ 8 := by omega
    have HLn := Lib.hid hlen
    clear HE hlen hp h8
    have HX : Hid (∀ (k : Nat) (v : Value) (r : List UInt8) (e : Int) (W : World), k ≤ 2 * n → W.ownsRow (w.heap.size + 2) 9 1 v k (strs ((textsP k r2 er).1.map bs)) → (k = 0 → v = .slice none 0 0) → k = 2 * n → TextsAt W v ((textsP (2 * n) r2 er).1.map bs) ∧ (∃ ao cap, v = .slice ao (2 * n) cap ∧ 2 * n ≤ cap) ∧ (∀ g, v.ownBlock = some g → w.heap.size + 1 < g)) := fun k v r e W _ hown hnil hk => by
      subst hk
      refine ⟨TextsAt.ofRow (l := (textsP (2 * n) r2 er).1.map bs) (by rw [List.length_map, textsP_len]; exact hown) (fun h0 => hnil (by have := congrArg List.length h0; rw [List.length_map, textsP_len] at this; simpa using this)), ?_, fun g hg => by have := (hown.lt g hg).1; omega⟩
      rcases hown.2 with ⟨hv, h0⟩ | ⟨g, cap, cur, hv, _, _, hcap, _⟩
      · exact ⟨none, 0, by rw [h0]; exact hv, by omega⟩
      · exact ⟨_, cap, hv, hcap⟩
    by_cases he0 : er = 0
    · have qa : (er == 0) = true := by rw [he0]; rfl
      clear he0
      go_wp2_with fail
      go_loopw [11] (fun i wr => ∃ (k : Nat) (v : Value), k ≤ 2 * n ∧ i = .int .i64 k ∧ wr.ownsRow (w.heap.size + 2) 9 1 v k (strs ((textsP k r2 er).1.map bs)) ∧ (k = 0 → v = .slice none 0 0) ∧ QAt wr Q (textsP k r2 er).2.1 (textsP k r2 er).2.2 ∧ Holds wr (w.heap.size + 1) 68 #[.int .u8 101, .int .i64 0, .string ⟨#[]⟩, v] ∧ Holds wr w.heap.size 68 #[.int .u8 0, .int .i64 0, .string ⟨#[]⟩, .slice none 0 0] ∧ Moves (fun k => k = Q) w wr ∧ w.heap.size + 2 ≤ wr.heap.size) (fun i _ => 2 * n - (intOf i).toNat)
      case atStart => exact ⟨0, .slice none 0 0, Nat.zero_le _, rfl, World.ownsRow_nil _ _ _ _, fun _ => rfl, H1.out, HX1.out, HD1.out, HM1.out, hs1⟩
      case round =>
        clear x0 x1 x2 x3 d0 d1 d2 d3 r0 r1 r2' r3 qe hs1
        obtain ⟨k, v, hk, rfl, hown, hnil, hq, hX, hD, hm, hs⟩ := hrel
        obtain ⟨L1, r1, e1, hL⟩ : ∃ L1 r1 e1, textsP k r2 er = (L1, r1, e1) := ⟨_, _, _, rfl⟩
        by_cases hgo : k < 2 * n ∧ e1 = 0
        · obtain ⟨hlt, he1⟩ := hgo
          have q3 : ((k : Int) < 2 * (n : Int)) := by omega
          have hsn := textsP_snoc k r2 er
          rw [hL] at hq hsn
          have hrl : r1.length ≤ 10000 := by have := textsP_rest k r2 er; rw [hL] at this; exact Nat.le_trans this HLn.out
          have hqd : QAt wr.drew Q r1 e1 := hq
          have HTk := Lib.hid (HT.out wr.drew _ _ hqd hrl)
          have qE : wr.cell? ⟨Q, 1, none⟩ = some (.int .i64 e1) := Holds.cell hq 1
          have qe1 : (e1 == 0) = true := by rw [he1]; rfl
          have y3 : wr.cell? ⟨w.heap.size + 1, 3, none⟩ = some v := hX.cell 3
          have y3d : wr.drew.cell? ⟨w.heap.size + 1, 3, none⟩ = some v := hX.cell 3
          have HL := Lib.hid hL
          have HSn := Lib.hid hsn
          have HOw := Lib.hid hown
          have HD := Lib.hid hD
          have HX3 := Lib.hid hX
          have HMk := Lib.hid hm
          have HHs := Lib.hid hs
          have HHq := Lib.hid hq
          clear hL hsn hown hD hX hm hs hq hqd hrl HT hnil HX hi hz0 hz1 hz2
          obtain ⟨Cw, hCw⟩ : ∃ c, c = countedP anyR r1 e1 := ⟨_, rfl⟩
          have HCw := Lib.hid hCw
          rw [← hCw] at HTk
          clear hCw
          have hk18 : k < 100000 := by omega
          have HLl : Hid ((L1.map bs).length = k) := by
            show _ = _
            have := textsP_len k r2 er
            rw [HL.out] at this
            simpa using this
          have HRow : Hid (∀ W2, Moves (fun k => k = Q) wr.drew W2 → W2.ownsRow (w.heap.size + 2) 9 1 v k (strs (L1.map bs))) := fun W2 m2 => by
            have h0 := HOw.out
            rw [HL.out] at h0
            have hne : ∀ g, v.ownBlock = some g → ¬ g = Q := fun g hg hgq => by have := (h0.lt g hg).1; omega
            have h1 : wr.drew.ownsRow (w.heap.size + 2) 9 1 v k (strs (L1.map bs)) := h0
            exact rdOwn_moves h1 m2 hne
          have HXm : Hid (∀ W2, Moves (fun k => k = Q) wr.drew W2 → Holds W2 (w.heap.size + 1) 68 #[.int .u8 101, .int .i64 0, .string ⟨#[]⟩, v]) := fun W2 m2 => Holds.moves (w := wr.drew) HX3.out m2 (by omega)
          go_wp2_with fail
          have HTk2 : Hid (Calls Tryz.prog 164 #[.pointer (some ⟨Q, 0, none⟩)] wr.drew fun e w' => ∃ v, e = .returned v ∧ v = .string (bs Cw.1) ∧ QAt w' Q Cw.2.1 Cw.2.2 ∧ Moves (fun k => k = Q) wr.drew w') := HTk.out.mono fun e w' ⟨h1, h2⟩ => ⟨_, h1, rfl, h2⟩
          go_region_law (first
            | (refine rd_step_text rfl (.tmp 91) _ rfl HTk2.out ?_
               rintro v2 w2 ⟨rfl, h2, m2⟩
               have hX2 := HXm.out w2 m2
               have y3e : w2.cell? ⟨w.heap.size + 1, 3, none⟩ = some v := hX2.cell 3
               have y3f : (w2.alloc (.cells #[.string (bs Cw.1)] 9)).cell? ⟨w.heap.size + 1, 3, none⟩ = some v := (Holds.moves hX2 ((Moves.refl nobody w2).alloc (.cells #[.string (bs Cw.1)] 9)) (fun h => h)).cell 3
               have hrow4 := (HRow.out w2 m2).alloc (.cells #[.string (bs Cw.1)] 9)
               have hX4 : (w2.alloc (.cells #[.string (bs Cw.1)] 9)).cell? ⟨w2.heap.size, 0, none⟩ = some (.string (bs Cw.1)) := (Holds.new w2 9 #[.string (bs Cw.1)]).cell 0
               have hs2 : w.heap.size + 2 ≤ (w2.alloc (.cells #[.string (bs Cw.1)] 9)).heap.size := by (rw [World.size_alloc]; exact Nat.le_succ_of_le (Nat.le_trans HHs.out m2.size)))
            | (refine rd_append_str rfl (.tmp 90) (.tmp 93) rfl rfl (w.heap.size + 2) v (L1.map bs) (bs Cw.1) k HLl.out rfl hrow4 w2.heap.size rfl hX4 hk18 hs2 ?_
               intro g' cp' w3 hown3 hg3
               have mv5 : Moves (fun i => v.ownBlock = some i) w2 w3 := ((Moves.refl _ w2).alloc _).grown hg3 fun _ hi => .inl hi
               have hX5 := hX2.moves mv5 (fun hh => by have := ((HRow.out w2 m2).lt _ hh).1; omega)
               have b4 : w3.cell? ⟨w.heap.size + 1, 3, none⟩ = some v := hX5.cell 3
               have g4 : w3.frozen? ⟨w.heap.size + 1, 3, none⟩ = false := hX5.frozen 3)
            | fail)
          all_goals
            have m6 : Moves (fun i => i = w.heap.size + 1 ∨ v.ownBlock = some i) w2 (w3.setCell ⟨w.heap.size + 1, 3, none⟩ (.slice (some ⟨g', 0, none⟩) (k + 1) cp')) := (mv5.mono fun i h _ => .inr h).setCell (p := ⟨w.heap.size + 1, 3, none⟩) (.inl (.inl rfl)) (.slice (some ⟨g', 0, none⟩) (k + 1) cp')
            have hvb : ∀ g, v.ownBlock = some g → w.heap.size + 2 ≤ g := fun g hg => ((HRow.out w2 m2).lt g hg).1
            have HQ6 := Lib.hid (Holds.moves h2 m6 (by rintro (h | h); exact absurd h (by omega); have := hvb _ h; omega))
            have HD6 := Lib.hid (Holds.moves (Holds.moves (w := wr.drew) HD.out m2 (by omega)) m6 (by rintro (h | h); exact absurd h (by omega); have := hvb _ h; omega))
            have HX6 := Lib.hid (Holds.set hX5 3 (.slice (some ⟨g', 0, none⟩) (k + 1) cp'))
            have HO6 := Lib.hid (rdOwn_moves (w' := w3.setCell ⟨w.heap.size + 1, 3, none⟩ (.slice (some ⟨g', 0, none⟩) (k + 1) cp')) hown3 ((Moves.refl (fun i => i = w.heap.size + 1) w3).setCell (p := ⟨w.heap.size + 1, 3, none⟩) (.inl rfl) _) (fun i hi e => by have := (hown3.lt i hi).1; omega))
            have HM6 := Lib.hid ((HMk.out.drew.trans m2 fun i h => .inl h).trans m6 fun i h => .inr (by rcases h with h | h; omega; have := hvb _ h; omega))
            have HS6 : Hid (w.heap.size + 2 ≤ (w3.setCell ⟨w.heap.size + 1, 3, none⟩ (.slice (some ⟨g', 0, none⟩) (k + 1) cp')).heap.size) := Nat.le_trans (Nat.le_trans HHs.out m2.size) m6.size
            clear m6 hvb hX5 hown3 hg3 mv5 b4 g4 hX2 y3e y3f hrow4 hX4 hs2 h2 m2
            generalize w3.setCell ⟨w.heap.size + 1, 3, none⟩ (.slice (some ⟨g', 0, none⟩) (k + 1) cp') = W6 at *
            go_wp2_with fail
            go_roundw
            case rel =>
              have hsn := HSn.out
              rw [← HCw.out] at hsn
              refine ⟨k + 1, .slice (some ⟨g', 0, none⟩) (k + 1) cp', by omega, by go_num, ?_, fun h0 => by omega, ?_, HX6.out, HD6.out, HM6.out, HS6.out⟩
              · rw [hsn]
                show W6.ownsRow _ _ _ _ _ (strs ((L1 ++ [Cw.1]).map bs))
                rw [List.map_append]
                exact HO6.out
              · rw [hsn]; exact HQ6.out
            case measure => simp [intOf]; omega
        · have hway : (k < 2 * n ∧ e1 ≠ 0) ∨ k = 2 * n := by
            by_cases h : k < 2 * n
            · exact .inl ⟨h, fun h0 => hgo ⟨h, h0⟩⟩
            · exact .inr (by omega)
          rw [hL] at hq
          have HR2 : Hid (QAt wr Q r1 e1) := hq
          have HD2 := Lib.hid hD
          have HX2 := Lib.hid hX
          have HM2 := Lib.hid hm
          have qE : wr.cell? ⟨Q, 1, none⟩ = some (.int .i64 e1) := Holds.cell hq 1
          have HL := Lib.hid hL
          clear hq hD hX hm hgo
          rcases hway with ⟨hlt, he1⟩ | hk2
          · obtain ⟨ao, m, cp, rfl⟩ : ∃ ao m cp, v = .slice ao m cp := by
              rcases hown.2 with ⟨h, _⟩ | ⟨g, cap, cur, h, _⟩
              · exact ⟨none, 0, 0, h⟩
              · exact ⟨_, _, _, h⟩
            have q3 : ((k : Int) < 2 * (n : Int)) := by omega
            have qe1 : (e1 == 0) = false := by rw [beq_eq_false_iff_ne]; exact he1
            have HErr : Hid ((textsP (2 * n) r2 er).2.2 = e1) := by
              show _ = _
              have h2 := textsP_add k (2 * n - k) r2 er
              rw [show k + (2 * n - k) = 2 * n by omega, HL.out] at h2
              rw [h2]
              show (textsP (2 * n - k) r1 e1).2.2 = e1
              rw [textsP_err _ _ he1]
            have HNe := Lib.hid he1
            have HZ : Hid (orE e1 0 = 0 → e1 = 0) := fun h => by rwa [orE_right] at h
            clear hL hown hnil HX he1 hlt
            have y0 : wr.drew.cell? ⟨w.heap.size + 1, 0, none⟩ = some (.int .u8 101) := HX2.out.cell 0
            have y1 : wr.drew.cell? ⟨w.heap.size + 1, 1, none⟩ = some (.int .i64 0) := HX2.out.cell 1
            have y2 : wr.drew.cell? ⟨w.heap.size + 1, 2, none⟩ = some (.string ⟨#[]⟩) := HX2.out.cell 2
            have y3 : wr.drew.cell? ⟨w.heap.size + 1, 3, none⟩ = some (.slice ao m cp) := HX2.out.cell 3
            have x0 := HX2.out.cell 0
            have x1 := HX2.out.cell 1
            have x2 := HX2.out.cell 2
            have x3 := HX2.out.cell 3
            have xe := Holds.cell HR2.out 1
            have ye : wr.drew.cell? ⟨Q, 1, none⟩ = some (.int .i64 e1) := Holds.cell HR2.out 1
            have c0 : wr.drew.cell? ⟨w.heap.size, 0, none⟩ = some (.int .u8 0) := HD2.out.cell 0
            have s0 : wr.drew.frozen? ⟨w.heap.size, 0, none⟩ = false := HD2.out.frozen 0
            have d0 := HD2.out.cell 0
            have fz0 := HD2.out.frozen 0
            have c1 : wr.drew.cell? ⟨w.heap.size, 1, none⟩ = some (.int .i64 0) := HD2.out.cell 1
            have s1 : wr.drew.frozen? ⟨w.heap.size, 1, none⟩ = false := HD2.out.frozen 1
            have d1 := HD2.out.cell 1
            have fz1 := HD2.out.frozen 1
            have c2 : wr.drew.cell? ⟨w.heap.size, 2, none⟩ = some (.string ⟨#[]⟩) := HD2.out.cell 2
            have s2 : wr.drew.frozen? ⟨w.heap.size, 2, none⟩ = false := HD2.out.frozen 2
            have d2 := HD2.out.cell 2
            have fz2 := HD2.out.frozen 2
            have c3 : wr.drew.cell? ⟨w.heap.size, 3, none⟩ = some (.slice none 0 0) := HD2.out.cell 3
            have s3 : wr.drew.frozen? ⟨w.heap.size, 3, none⟩ = false := HD2.out.frozen 3
            have d3 := HD2.out.cell 3
            have fz3 := HD2.out.frozen 3
            go_wp2_with fail
            go_region
            go_wp2_with fail
            have hF := Holds.set (Holds.set (Holds.set (Holds.set HD2.out 0 (.int .u8 101)) 1 (.int .i64 0)) 2 (.string ⟨#[]⟩)) 3 (.slice ao m cp)
            have mg := (((((Moves.refl (fun i => i = w.heap.size) wr).setCell (p := ⟨w.heap.size, 0, none⟩) (.inl rfl) (.int .u8 101)).setCell (p := ⟨w.heap.size, 1, none⟩) (.inl rfl) (.int .i64 0)).setCell (p := ⟨w.heap.size, 2, none⟩) (.inl rfl) (.string ⟨#[]⟩)).setCell (p := ⟨w.heap.size, 3, none⟩) (.inl rfl) (.slice ao m cp)).drew
            have mm := HM2.out.trans mg fun i h => .inr (by rw [h]; exact Nat.le_refl _)
            try simp only [Exit.inBlock, Exit.then]
            have hR4 := Holds.moves HR2.out mg (by omega)
            refine bodyPost_ret (rdResults (p := 4) (u := 5) rfl _ _ w.heap.size _ _ (0, 0) _ rfl hF Tryz.underlying68 rfl (by kernel_rfl)) rfl ⟨mm, .int .u8 101, .int .i64 0, .string ⟨#[]⟩, .slice ao m cp, ⟨⟨_, rfl⟩, ⟨_, rfl⟩, ⟨_, rfl⟩, _, _, _, rfl⟩, ?_, fun hz => ?_⟩
            · rw [HE2.out]; show _ = Ending.returned (.tuple #[_, .int .i64 (orE (textsP (2 * n) r2 er).2.2 0)]); rw [HErr.out, orE_right]; rfl
            · rw [HE2.out] at hz
              have hz2 : orE (textsP (2 * n) r2 er).2.2 0 = 0 := hz
              rw [HErr.out] at hz2
              exact absurd (HZ.out hz2) HNe.out
          · obtain ⟨hTx, ⟨ao, cap, rfl, hcap⟩, hNw⟩ := HX.out k v r1 e1 wr hk hown hnil hk2
            have q3 : ¬ ((k : Int) < 2 * (n : Int)) := by omega
            have HTx := Lib.hid hTx
            have HNw := Lib.hid hNw
            have HCap := Lib.hid hcap
            have HLen := Lib.hid (textsP_len (2 * n) r2 er)
            have HFin : Hid (textsP (2 * n) r2 er = (L1, r1, e1)) := by show _ = _; rw [← hk2]; exact HL.out
            have HZ : Hid (orE e1 0 = 0 → e1 = 0) := fun h => by rwa [orE_right] at h
            clear hL hown hnil HX hTx hcap hNw
            have y0 : wr.drew.cell? ⟨w.heap.size + 1, 0, none⟩ = some (.int .u8 101) := HX2.out.cell 0
            have y1 : wr.drew.cell? ⟨w.heap.size + 1, 1, none⟩ = some (.int .i64 0) := HX2.out.cell 1
            have y2 : wr.drew.cell? ⟨w.heap.size + 1, 2, none⟩ = some (.string ⟨#[]⟩) := HX2.out.cell 2
            have y3 : wr.drew.cell? ⟨w.heap.size + 1, 3, none⟩ = some (.slice ao (2 * n) cap) := HX2.out.cell 3
            have x0 := HX2.out.cell 0
            have x1 := HX2.out.cell 1
            have x2 := HX2.out.cell 2
            have x3 := HX2.out.cell 3
            have xe := Holds.cell HR2.out 1
            have ye : wr.drew.cell? ⟨Q, 1, none⟩ = some (.int .i64 e1) := Holds.cell HR2.out 1
            have c0 : wr.drew.cell? ⟨w.heap.size, 0, none⟩ = some (.int .u8 0) := HD2.out.cell 0
            have s0 : wr.drew.frozen? ⟨w.heap.size, 0, none⟩ = false := HD2.out.frozen 0
            have d0 := HD2.out.cell 0
            have fz0 := HD2.out.frozen 0
            have c1 : wr.drew.cell? ⟨w.heap.size, 1, none⟩ = some (.int .i64 0) := HD2.out.cell 1
            have s1 : wr.drew.frozen? ⟨w.heap.size, 1, none⟩ = false := HD2.out.frozen 1
            have d1 := HD2.out.cell 1
            have fz1 := HD2.out.frozen 1
            have c2 : wr.drew.cell? ⟨w.heap.size, 2, none⟩ = some (.string ⟨#[]⟩) := HD2.out.cell 2
            have s2 : wr.drew.frozen? ⟨w.heap.size, 2, none⟩ = false := HD2.out.frozen 2
            have d2 := HD2.out.cell 2
            have fz2 := HD2.out.frozen 2
            have c3 : wr.drew.cell? ⟨w.heap.size, 3, none⟩ = some (.slice none 0 0) := HD2.out.cell 3
            have s3 : wr.drew.frozen? ⟨w.heap.size, 3, none⟩ = false := HD2.out.frozen 3
            have d3 := HD2.out.cell 3
            have fz3 := HD2.out.frozen 3
            go_wp2_with fail
            go_region
            go_wp2_with fail
            have hF := Holds.set (Holds.set (Holds.set (Holds.set HD2.out 0 (.int .u8 101)) 1 (.int .i64 0)) 2 (.string ⟨#[]⟩)) 3 (.slice ao (2 * n) cap)
            have mg := (((((Moves.refl (fun i => i = w.heap.size) wr).setCell (p := ⟨w.heap.size, 0, none⟩) (.inl rfl) (.int .u8 101)).setCell (p := ⟨w.heap.size, 1, none⟩) (.inl rfl) (.int .i64 0)).setCell (p := ⟨w.heap.size, 2, none⟩) (.inl rfl) (.string ⟨#[]⟩)).setCell (p := ⟨w.heap.size, 3, none⟩) (.inl rfl) (.slice ao (2 * n) cap)).drew
            have mm := HM2.out.trans mg fun i h => .inr (by rw [h]; exact Nat.le_refl _)
            try simp only [Exit.inBlock, Exit.then]
            have hR4 := Holds.moves HR2.out mg (by omega)
            refine bodyPost_ret (rdResults (p := 4) (u := 5) rfl _ _ w.heap.size _ _ (0, 0) _ rfl hF Tryz.underlying68 rfl (by kernel_rfl)) rfl ⟨mm, .int .u8 101, .int .i64 0, .string ⟨#[]⟩, .slice ao (2 * n) cap, ⟨⟨_, rfl⟩, ⟨_, rfl⟩, ⟨_, rfl⟩, _, _, _, rfl⟩, ?_, fun hz => ?_⟩
            · rw [HE2.out]; show _ = Ending.returned (.tuple #[_, .int .i64 (orE (textsP (2 * n) r2 er).2.2 0)]); rw [HFin.out, orE_right]; rfl
            · rw [HE2.out] at hz ⊢
              have hz2 : orE (textsP (2 * n) r2 er).2.2 0 = 0 := hz
              rw [HFin.out] at hz2
              have he := HZ.out hz2
              have hmv := HTx.out.moves mg (fun g hg => by have := HNw.out g hg; omega)
              have hq4 := QAt.err hR4 he
              have hl := HLen.out
              refine ⟨ao, cap, ?_, ?_, ?_, ?_, fun g hg => ?_⟩
              · show _ = fieldV ⟨101, 0, [], (textsP (2 * n) r2 er).1⟩ (.slice ao (textsP (2 * n) r2 er).1.length cap)
                rw [hl]; rfl
              · show (textsP (2 * n) r2 er).1.length ≤ cap
                rw [hl]; exact HCap.out
              · show TextsAt _ (.slice ao (textsP (2 * n) r2 er).1.length cap) ((textsP (2 * n) r2 er).1.map bs)
                rw [hl]; exact hmv
              · show QAt _ Q (textsP (2 * n) r2 er).2.1 0
                rw [HFin.out]; exact hq4
              · have hg2 : (Value.slice ao (textsP (2 * n) r2 er).1.length cap).ownBlock = some g := hg
                rw [hl] at hg2
                have := HNw.out g hg2
                omega
    · have qa : (er == 0) = false := by rw [beq_eq_false_iff_ne]; exact he0
      clear he0
      go_wp2_with fail
      go_loopw [11] (fun i wr => ∃ (k : Nat) (v : Value), k ≤ 2 * n ∧ i = .int .i64 k ∧ wr.ownsRow (w.heap.size + 2) 9 1 v k (strs ((textsP k r2 er).1.map bs)) ∧ (k = 0 → v = .slice none 0 0) ∧ QAt wr Q (textsP k r2 er).2.1 (textsP k r2 er).2.2 ∧ Holds wr (w.heap.size + 1) 68 #[.int .u8 101, .int .i64 0, .string ⟨#[]⟩, v] ∧ Holds wr w.heap.size 68 #[.int .u8 0, .int .i64 0, .string ⟨#[]⟩, .slice none 0 0] ∧ Moves (fun k => k = Q) w wr ∧ w.heap.size + 2 ≤ wr.heap.size) (fun i _ => 2 * n - (intOf i).toNat)
      case atStart => exact ⟨0, .slice none 0 0, Nat.zero_le _, rfl, World.ownsRow_nil _ _ _ _, fun _ => rfl, H1.out, HX1.out, HD1.out, HM1.out, hs1⟩
      case round =>
        clear x0 x1 x2 x3 d0 d1 d2 d3 r0 r1 r2' r3 qe hs1
        obtain ⟨k, v, hk, rfl, hown, hnil, hq, hX, hD, hm, hs⟩ := hrel
        obtain ⟨L1, r1, e1, hL⟩ : ∃ L1 r1 e1, textsP k r2 er = (L1, r1, e1) := ⟨_, _, _, rfl⟩
        by_cases hgo : k < 2 * n ∧ e1 = 0
        · obtain ⟨hlt, he1⟩ := hgo
          have q3 : ((k : Int) < 2 * (n : Int)) := by omega
          have hsn := textsP_snoc k r2 er
          rw [hL] at hq hsn
          have hrl : r1.length ≤ 10000 := by have := textsP_rest k r2 er; rw [hL] at this; exact Nat.le_trans this HLn.out
          have hqd : QAt wr.drew Q r1 e1 := hq
          have HTk := Lib.hid (HT.out wr.drew _ _ hqd hrl)
          have qE : wr.cell? ⟨Q, 1, none⟩ = some (.int .i64 e1) := Holds.cell hq 1
          have qe1 : (e1 == 0) = true := by rw [he1]; rfl
          have y3 : wr.cell? ⟨w.heap.size + 1, 3, none⟩ = some v := hX.cell 3
          have y3d : wr.drew.cell? ⟨w.heap.size + 1, 3, none⟩ = some v := hX.cell 3
          have HL := Lib.hid hL
          have HSn := Lib.hid hsn
          have HOw := Lib.hid hown
          have HD := Lib.hid hD
          have HX3 := Lib.hid hX
          have HMk := Lib.hid hm
          have HHs := Lib.hid hs
          have HHq := Lib.hid hq
          clear hL hsn hown hD hX hm hs hq hqd hrl HT hnil HX hi hz0 hz1 hz2
          obtain ⟨Cw, hCw⟩ : ∃ c, c = countedP anyR r1 e1 := ⟨_, rfl⟩
          have HCw := Lib.hid hCw
          rw [← hCw] at HTk
          clear hCw
          have hk18 : k < 100000 := by omega
          have HLl : Hid ((L1.map bs).length = k) := by
            show _ = _
            have := textsP_len k r2 er
            rw [HL.out] at this
            simpa using this
          have HRow : Hid (∀ W2, Moves (fun k => k = Q) wr.drew W2 → W2.ownsRow (w.heap.size + 2) 9 1 v k (strs (L1.map bs))) := fun W2 m2 => by
            have h0 := HOw.out
            rw [HL.out] at h0
            have hne : ∀ g, v.ownBlock = some g → ¬ g = Q := fun g hg hgq => by have := (h0.lt g hg).1; omega
            have h1 : wr.drew.ownsRow (w.heap.size + 2) 9 1 v k (strs (L1.map bs)) := h0
            exact rdOwn_moves h1 m2 hne
          have HXm : Hid (∀ W2, Moves (fun k => k = Q) wr.drew W2 → Holds W2 (w.heap.size + 1) 68 #[.int .u8 101, .int .i64 0, .string ⟨#[]⟩, v]) := fun W2 m2 => Holds.moves (w := wr.drew) HX3.out m2 (by omega)
          go_wp2_with fail
          have HTk2 : Hid (Calls Tryz.prog 164 #[.pointer (some ⟨Q, 0, none⟩)] wr.drew fun e w' => ∃ v, e = .returned v ∧ v = .string (bs Cw.1) ∧ QAt w' Q Cw.2.1 Cw.2.2 ∧ Moves (fun k => k = Q) wr.drew w') := HTk.out.mono fun e w' ⟨h1, h2⟩ => ⟨_, h1, rfl, h2⟩
          go_region_law (first
            | (refine rd_step_text rfl (.tmp 91) _ rfl HTk2.out ?_
               rintro v2 w2 ⟨rfl, h2, m2⟩
               have hX2 := HXm.out w2 m2
               have y3e : w2.cell? ⟨w.heap.size + 1, 3, none⟩ = some v := hX2.cell 3
               have y3f : (w2.alloc (.cells #[.string (bs Cw.1)] 9)).cell? ⟨w.heap.size + 1, 3, none⟩ = some v := (Holds.moves hX2 ((Moves.refl nobody w2).alloc (.cells #[.string (bs Cw.1)] 9)) (fun h => h)).cell 3
               have hrow4 := (HRow.out w2 m2).alloc (.cells #[.string (bs Cw.1)] 9)
               have hX4 : (w2.alloc (.cells #[.string (bs Cw.1)] 9)).cell? ⟨w2.heap.size, 0, none⟩ = some (.string (bs Cw.1)) := (Holds.new w2 9 #[.string (bs Cw.1)]).cell 0
               have hs2 : w.heap.size + 2 ≤ (w2.alloc (.cells #[.string (bs Cw.1)] 9)).heap.size := by (rw [World.size_alloc]; exact Nat.le_succ_of_le (Nat.le_trans HHs.out m2.size)))
            | (refine rd_append_str rfl (.tmp 90) (.tmp 93) rfl rfl (w.heap.size + 2) v (L1.map bs) (bs Cw.1) k HLl.out rfl hrow4 w2.heap.size rfl hX4 hk18 hs2 ?_
               intro g' cp' w3 hown3 hg3
               have mv5 : Moves (fun i => v.ownBlock = some i) w2 w3 := ((Moves.refl _ w2).alloc _).grown hg3 fun _ hi => .inl hi
               have hX5 := hX2.moves mv5 (fun hh => by have := ((HRow.out w2 m2).lt _ hh).1; omega)
               have b4 : w3.cell? ⟨w.heap.size + 1, 3, none⟩ = some v := hX5.cell 3
               have g4 : w3.frozen? ⟨w.heap.size + 1, 3, none⟩ = false := hX5.frozen 3)
            | fail)
          all_goals
            have m6 : Moves (fun i => i = w.heap.size + 1 ∨ v.ownBlock = some i) w2 (w3.setCell ⟨w.heap.size + 1, 3, none⟩ (.slice (some ⟨g', 0, none⟩) (k + 1) cp')) := (mv5.mono fun i h _ => .inr h).setCell (p := ⟨w.heap.size + 1, 3, none⟩) (.inl (.inl rfl)) (.slice (some ⟨g', 0, none⟩) (k + 1) cp')
            have hvb : ∀ g, v.ownBlock = some g → w.heap.size + 2 ≤ g := fun g hg => ((HRow.out w2 m2).lt g hg).1
            have HQ6 := Lib.hid (Holds.moves h2 m6 (by rintro (h | h); exact absurd h (by omega); have := hvb _ h; omega))
            have HD6 := Lib.hid (Holds.moves (Holds.moves (w := wr.drew) HD.out m2 (by omega)) m6 (by rintro (h | h); exact absurd h (by omega); have := hvb _ h; omega))
            have HX6 := Lib.hid (Holds.set hX5 3 (.slice (some ⟨g', 0, none⟩) (k + 1) cp'))
            have HO6 := Lib.hid (rdOwn_moves (w' := w3.setCell ⟨w.heap.size + 1, 3, none⟩ (.slice (some ⟨g', 0, none⟩) (k + 1) cp')) hown3 ((Moves.refl (fun i => i = w.heap.size + 1) w3).setCell (p := ⟨w.heap.size + 1, 3, none⟩) (.inl rfl) _) (fun i hi e => by have := (hown3.lt i hi).1; omega))
            have HM6 := Lib.hid ((HMk.out.drew.trans m2 fun i h => .inl h).trans m6 fun i h => .inr (by rcases h with h | h; omega; have := hvb _ h; omega))
            have HS6 : Hid (w.heap.size + 2 ≤ (w3.setCell ⟨w.heap.size + 1, 3, none⟩ (.slice (some ⟨g', 0, none⟩) (k + 1) cp')).heap.size) := Nat.le_trans (Nat.le_trans HHs.out m2.size) m6.size
            clear m6 hvb hX5 hown3 hg3 mv5 b4 g4 hX2 y3e y3f hrow4 hX4 hs2 h2 m2
            generalize w3.setCell ⟨w.heap.size + 1, 3, none⟩ (.slice (some ⟨g', 0, none⟩) (k + 1) cp') = W6 at *
            go_wp2_with fail
            go_roundw
            case rel =>
              have hsn := HSn.out
              rw [← HCw.out] at hsn
              refine ⟨k + 1, .slice (some ⟨g', 0, none⟩) (k + 1) cp', by omega, by go_num, ?_, fun h0 => by omega, ?_, HX6.out, HD6.out, HM6.out, HS6.out⟩
              · rw [hsn]
                show W6.ownsRow _ _ _ _ _ (strs ((L1 ++ [Cw.1]).map bs))
                rw [List.map_append]
                exact HO6.out
              · rw [hsn]; exact HQ6.out
            case measure => simp [intOf]; omega
        · have hway : (k < 2 * n ∧ e1 ≠ 0) ∨ k = 2 * n := by
            by_cases h : k < 2 * n
            · exact .inl ⟨h, fun h0 => hgo ⟨h, h0⟩⟩
            · exact .inr (by omega)
          rw [hL] at hq
          have HR2 : Hid (QAt wr Q r1 e1) := hq
          have HD2 := Lib.hid hD
          have HX2 := Lib.hid hX
          have HM2 := Lib.hid hm
          have qE : wr.cell? ⟨Q, 1, none⟩ = some (.int .i64 e1) := Holds.cell hq 1
          have HL := Lib.hid hL
          clear hq hD hX hm hgo
          rcases hway with ⟨hlt, he1⟩ | hk2
          · obtain ⟨ao, m, cp, rfl⟩ : ∃ ao m cp, v = .slice ao m cp := by
              rcases hown.2 with ⟨h, _⟩ | ⟨g, cap, cur, h, _⟩
              · exact ⟨none, 0, 0, h⟩
              · exact ⟨_, _, _, h⟩
            have q3 : ((k : Int) < 2 * (n : Int)) := by omega
            have qe1 : (e1 == 0) = false := by rw [beq_eq_false_iff_ne]; exact he1
            have HErr : Hid ((textsP (2 * n) r2 er).2.2 = e1) := by
              show _ = _
              have h2 := textsP_add k (2 * n - k) r2 er
              rw [show k + (2 * n - k) = 2 * n by omega, HL.out] at h2
              rw [h2]
              show (textsP (2 * n - k) r1 e1).2.2 = e1
              rw [textsP_err _ _ he1]
            have HNe := Lib.hid he1
            have HZ : Hid (orE e1 0 = 0 → e1 = 0) := fun h => by rwa [orE_right] at h
            clear hL hown hnil HX he1 hlt
            have y0 : wr.drew.cell? ⟨w.heap.size + 1, 0, none⟩ = some (.int .u8 101) := HX2.out.cell 0
            have y1 : wr.drew.cell? ⟨w.heap.size + 1, 1, none⟩ = some (.int .i64 0) := HX2.out.cell 1
            have y2 : wr.drew.cell? ⟨w.heap.size + 1, 2, none⟩ = some (.string ⟨#[]⟩) := HX2.out.cell 2
            have y3 : wr.drew.cell? ⟨w.heap.size + 1, 3, none⟩ = some (.slice ao m cp) := HX2.out.cell 3
            have x0 := HX2.out.cell 0
            have x1 := HX2.out.cell 1
            have x2 := HX2.out.cell 2
            have x3 := HX2.out.cell 3
            have xe := Holds.cell HR2.out 1
            have ye : wr.drew.cell? ⟨Q, 1, none⟩ = some (.int .i64 e1) := Holds.cell HR2.out 1
            have c0 : wr.drew.cell? ⟨w.heap.size, 0, none⟩ = some (.int .u8 0) := HD2.out.cell 0
            have s0 : wr.drew.frozen? ⟨w.heap.size, 0, none⟩ = false := HD2.out.frozen 0
            have d0 := HD2.out.cell 0
            have fz0 := HD2.out.frozen 0
            have c1 : wr.drew.cell? ⟨w.heap.size, 1, none⟩ = some (.int .i64 0) := HD2.out.cell 1
            have s1 : wr.drew.frozen? ⟨w.heap.size, 1, none⟩ = false := HD2.out.frozen 1
            have d1 := HD2.out.cell 1
            have fz1 := HD2.out.frozen 1
            have c2 : wr.drew.cell? ⟨w.heap.size, 2, none⟩ = some (.string ⟨#[]⟩) := HD2.out.cell 2
            have s2 : wr.drew.frozen? ⟨w.heap.size, 2, none⟩ = false := HD2.out.frozen 2
            have d2 := HD2.out.cell 2
            have fz2 := HD2.out.frozen 2
            have c3 : wr.drew.cell? ⟨w.heap.size, 3, none⟩ = some (.slice none 0 0) := HD2.out.cell 3
            have s3 : wr.drew.frozen? ⟨w.heap.size, 3, none⟩ = false := HD2.out.frozen 3
            have d3 := HD2.out.cell 3
            have fz3 := HD2.out.frozen 3
            go_wp2_with fail
            go_region
            go_wp2_with fail
            have hF := Holds.set (Holds.set (Holds.set (Holds.set HD2.out 0 (.int .u8 101)) 1 (.int .i64 0)) 2 (.string ⟨#[]⟩)) 3 (.slice ao m cp)
            have mg := (((((Moves.refl (fun i => i = w.heap.size) wr).setCell (p := ⟨w.heap.size, 0, none⟩) (.inl rfl) (.int .u8 101)).setCell (p := ⟨w.heap.size, 1, none⟩) (.inl rfl) (.int .i64 0)).setCell (p := ⟨w.heap.size, 2, none⟩) (.inl rfl) (.string ⟨#[]⟩)).setCell (p := ⟨w.heap.size, 3, none⟩) (.inl rfl) (.slice ao m cp)).drew
            have mm := HM2.out.trans mg fun i h => .inr (by rw [h]; exact Nat.le_refl _)
            try simp only [Exit.inBlock, Exit.then]
            have hR4 := Holds.moves HR2.out mg (by omega)
            refine bodyPost_ret (rdResults (p := 4) (u := 5) rfl _ _ w.heap.size _ _ (0, 0) _ rfl hF Tryz.underlying68 rfl (by kernel_rfl)) rfl ⟨mm, .int .u8 101, .int .i64 0, .string ⟨#[]⟩, .slice ao m cp, ⟨⟨_, rfl⟩, ⟨_, rfl⟩, ⟨_, rfl⟩, _, _, _, rfl⟩, ?_, fun hz => ?_⟩
            · rw [HE2.out]; show _ = Ending.returned (.tuple #[_, .int .i64 (orE (textsP (2 * n) r2 er).2.2 0)]); rw [HErr.out, orE_right]; rfl
            · rw [HE2.out] at hz
              have hz2 : orE (textsP (2 * n) r2 er).2.2 0 = 0 := hz
              rw [HErr.out] at hz2
              exact absurd (HZ.out hz2) HNe.out
          · obtain ⟨hTx, ⟨ao, cap, rfl, hcap⟩, hNw⟩ := HX.out k v r1 e1 wr hk hown hnil hk2
            have q3 : ¬ ((k : Int) < 2 * (n : Int)) := by omega
            have HTx := Lib.hid hTx
            have HNw := Lib.hid hNw
            have HCap := Lib.hid hcap
            have HLen := Lib.hid (textsP_len (2 * n) r2 er)
            have HFin : Hid (textsP (2 * n) r2 er = (L1, r1, e1)) := by show _ = _; rw [← hk2]; exact HL.out
            have HZ : Hid (orE e1 0 = 0 → e1 = 0) := fun h => by rwa [orE_right] at h
            clear hL hown hnil HX hTx hcap hNw
            have y0 : wr.drew.cell? ⟨w.heap.size + 1, 0, none⟩ = some (.int .u8 101) := HX2.out.cell 0
            have y1 : wr.drew.cell? ⟨w.heap.size + 1, 1, none⟩ = some (.int .i64 0) := HX2.out.cell 1
            have y2 : wr.drew.cell? ⟨w.heap.size + 1, 2, none⟩ = some (.string ⟨#[]⟩) := HX2.out.cell 2
            have y3 : wr.drew.cell? ⟨w.heap.size + 1, 3, none⟩ = some (.slice ao (2 * n) cap) := HX2.out.cell 3
            have x0 := HX2.out.cell 0
            have x1 := HX2.out.cell 1
            have x2 := HX2.out.cell 2
            have x3 := HX2.out.cell 3
            have xe := Holds.cell HR2.out 1
            have ye : wr.drew.cell? ⟨Q, 1, none⟩ = some (.int .i64 e1) := Holds.cell HR2.out 1
            have c0 : wr.drew.cell? ⟨w.heap.size, 0, none⟩ = some (.int .u8 0) := HD2.out.cell 0
            have s0 : wr.drew.frozen? ⟨w.heap.size, 0, none⟩ = false := HD2.out.frozen 0
            have d0 := HD2.out.cell 0
            have fz0 := HD2.out.frozen 0
            have c1 : wr.drew.cell? ⟨w.heap.size, 1, none⟩ = some (.int .i64 0) := HD2.out.cell 1
            have s1 : wr.drew.frozen? ⟨w.heap.size, 1, none⟩ = false := HD2.out.frozen 1
            have d1 := HD2.out.cell 1
            have fz1 := HD2.out.frozen 1
            have c2 : wr.drew.cell? ⟨w.heap.size, 2, none⟩ = some (.string ⟨#[]⟩) := HD2.out.cell 2
            have s2 : wr.drew.frozen? ⟨w.heap.size, 2, none⟩ = false := HD2.out.frozen 2
            have d2 := HD2.out.cell 2
            have fz2 := HD2.out.frozen 2
            have c3 : wr.drew.cell? ⟨w.heap.size, 3, none⟩ = some (.slice none 0 0) := HD2.out.cell 3
            have s3 : wr.drew.frozen? ⟨w.heap.size, 3, none⟩ = false := HD2.out.frozen 3
            have d3 := HD2.out.cell 3
            have fz3 := HD2.out.frozen 3
            go_wp2_with fail
            go_region
            go_wp2_with fail
            have hF := Holds.set (Holds.set (Holds.set (Holds.set HD2.out 0 (.int .u8 101)) 1 (.int .i64 0)) 2 (.string ⟨#[]⟩)) 3 (.slice ao (2 * n) cap)
            have mg := (((((Moves.refl (fun i => i = w.heap.size) wr).setCell (p := ⟨w.heap.size, 0, none⟩) (.inl rfl) (.int .u8 101)).setCell (p := ⟨w.heap.size, 1, none⟩) (.inl rfl) (.int .i64 0)).setCell (p := ⟨w.heap.size, 2, none⟩) (.inl rfl) (.string ⟨#[]⟩)).setCell (p := ⟨w.heap.size, 3, none⟩) (.inl rfl) (.slice ao (2 * n) cap)).drew
            have mm := HM2.out.trans mg fun i h => .inr (by rw [h]; exact Nat.le_refl _)
            try simp only [Exit.inBlock, Exit.then]
            have hR4 := Holds.moves HR2.out mg (by omega)
            refine bodyPost_ret (rdResults (p := 4) (u := 5) rfl _ _ w.heap.size _ _ (0, 0) _ rfl hF Tryz.underlying68 rfl (by kernel_rfl)) rfl ⟨mm, .int .u8 101, .int .i64 0, .string ⟨#[]⟩, .slice ao (2 * n) cap, ⟨⟨_, rfl⟩, ⟨_, rfl⟩, ⟨_, rfl⟩, _, _, _, rfl⟩, ?_, fun hz => ?_⟩
            · rw [HE2.out]; show _ = Ending.returned (.tuple #[_, .int .i64 (orE (textsP (2 * n) r2 er).2.2 0)]); rw [HFin.out, orE_right]; rfl
            · rw [HE2.out] at hz ⊢
              have hz2 : orE (textsP (2 * n) r2 er).2.2 0 = 0 := hz
              rw [HFin.out] at hz2
              have he := HZ.out hz2
              have hmv := HTx.out.moves mg (fun g hg => by have := HNw.out g hg; omega)
              have hq4 := QAt.err hR4 he
              have hl := HLen.out
              refine ⟨ao, cap, ?_, ?_, ?_, ?_, fun g hg => ?_⟩
              · show _ = fieldV ⟨101, 0, [], (textsP (2 * n) r2 er).1⟩ (.slice ao (textsP (2 * n) r2 er).1.length cap)
                rw [hl]; rfl
              · show (textsP (2 * n) r2 er).1.length ≤ cap
                rw [hl]; exact HCap.out
              · show TextsAt _ (.slice ao (textsP (2 * n) r2 er).1.length cap) ((textsP (2 * n) r2 er).1.map bs)
                rw [hl]; exact hmv
              · show QAt _ Q (textsP (2 * n) r2 er).2.1 0
                rw [HFin.out]; exact hq4
              · have hg2 : (Value.slice ao (textsP (2 * n) r2 er).1.length cap).ownBlock = some g := hg
                rw [hl] at hg2
                have := HNw.out g hg2
                omega

theorem get_any {w : World} {Q : Nat} {rest : List UInt8} (h : QAt w Q rest 0) (hr : rest.length ≤ 10000) {k : UInt8} (hk : k ∈ letters8) :
    Calls Tryz.prog 125 #[.pointer (some ⟨Q, 0, none⟩), .int .u8 (k.toNat : Int)] w (GetPost Q w (readP k rest).1 (readP k rest).2.1 (readP k rest).2.2) := by
  simp only [letters8, List.mem_cons, List.not_mem_nil, or_false] at hk
  rcases hk with rfl | rfl | rfl | rfl | rfl | rfl | rfl | rfl
  · exact get_b h hr
  · exact get_s h hr
  · exact get_u h hr
  · exact get_m h hr
  · exact get_n h hr
  · exact get_c h hr
  · exact get_t h hr
  · exact get_e h hr
end Go.Proofs.YtkmhdepohcncaaaGreatDoor
