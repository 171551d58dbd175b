/- Part 26 of what the statement wants. -/
import Derived.Laws.Tables
import Derived.Laws.CopyOwn
import Derived.Deep.RegionLaw
import Derived.Test.YtobhpclemmhpoaaGreatDoorPk25
namespace Go.Proofs.YtobhpclemmhpoaaGreatDoor
open Go.RowKit

theorem tr_u32 (x : Nat) (hx : x < 4294967296) (W : World) : (convert 25 3 (.int .u32 (x : Int))).run Tryz.prog W = .ok (.int .i64 (x : Int)) W := by
  have h : IntKind.i64.wrap (x : Int) = (x : Int) := IntWalk.i64_in _ (by omega)
  simp [go_sem, Tryz.underlying25, Tryz.underlying3, h]
set_option maxRecDepth 100000 in
theorem sizeMadeT : (Tryz.prog.info? 47).map (·.size) = some 2 := by kernel_rfl
theorem step_store_row20 {P : Program} {ops : Array Oper} {o : Oper} {a : Act} {w : World} {K : Act → World → Prop} {Q : Exit → Act → World → Prop} {E : Prop} (hgd : o.guard = none) (ty : TypeId) (x y : Operand) (ho : o.op = .store ty x y)
    (g : Nat) (cells : Array Value) (hx : a.eval x = .pointer (some ⟨g, 0, none⟩)) (hy : a.eval y = .agg cells)
    (t : TypeId) (old : Array Value) (hg : w.heap[g]? = some (.cells old t (0, 0))) (hi : (P.info? ty).map (·.size) = some cells.size)
    (hold : old.size = cells.size) (h1 : cells.all (·.oneCell') = true)
    (h : K (a.put o.dst undef) (w.setRow g cells)) : if Region.wanted o (yielded ops a.tmps) = true then Oper.wp P o a w K Q else E := by
  have hw : Region.wanted o (yielded ops a.tmps) = true := by simp [Region.wanted, hgd]
  rw [if_pos hw]
  exact wp_store_row ty x y ho g cells hx hy t old hg hi hold h1 h
theorem step_load_row20 {P : Program} {ops : Array Oper} {o : Oper} {a : Act} {w : World} {K : Act → World → Prop} {Q : Exit → Act → World → Prop} {E : Prop} (hgd : o.guard = none) (ty : TypeId) (x : Operand) (ho : o.op = .load ty x)
    (g : Nat) (hx : a.eval x = .pointer (some ⟨g, 0, none⟩)) (t : TypeId) (cs : Array Value) (fr : Nat × Nat) (d : TypeDesc) (hg : w.heap[g]? = some (.cells cs t fr))
    (hu : P.underlying ty = some d) (hd : (match d with | .struct _ | .array _ _ => true | _ => false) = true) (hi : (P.info? ty).map (·.size) = some cs.size)
    (h : K (a.put o.dst (.agg cs)) w) : if Region.wanted o (yielded ops a.tmps) = true then Oper.wp P o a w K Q else E := by
  have hw : Region.wanted o (yielded ops a.tmps) = true := by simp [Region.wanted, hgd]
  rw [if_pos hw]
  exact wp_load_row ty x ho g hx t cs fr d hg hu hd hi h
theorem results_two_cells {P : Program} {fn : Func} {p q : Tmp} {ty tz : TypeId} (h : fn.results = #[.cell p ty, .cell q tz]) (tmps : Array Value) (w : World) (g k : Nat) (cs ds : Array Value) (d e : TypeDesc)
    (hp : tmps.getD p undef = .pointer (some ⟨g, 0, none⟩)) (hq : tmps.getD q undef = .pointer (some ⟨k, 0, none⟩)) (hg : Holds w g ty cs) (hk : Holds w k tz ds)
    (hu : P.underlying ty = some d) (hd : (match d with | .struct _ | .array _ _ => true | _ => false) = true) (hi : (P.info? ty).map (·.size) = some cs.size)
    (hu' : P.underlying tz = some e) (hd' : (match e with | .struct _ | .array _ _ => true | _ => false) = true) (hi' : (P.info? tz).map (·.size) = some ds.size) :
    (results fn tmps).run P w = .ok (.tuple #[.agg cs, .agg ds]) w := by
  have hp' : tmps[p]?.getD undef = .pointer (some ⟨g, 0, none⟩) := by simpa using hp
  have hq' : tmps[q]?.getD undef = .pointer (some ⟨k, 0, none⟩) := by simpa using hq
  simp [results, h, hp', hq', asAddr, Sem.run_bind, run_loadVar_row w g ty ty cs (0, 0) d hg hu hd hi, run_loadVar_row w k tz tz ds (0, 0) e hk hu' hd' hi']
set_option maxRecDepth 100000 in
theorem sizeXPT : (Tryz.prog.info? 38).map (·.size) = some 14 := by kernel_rfl
set_option maxRecDepth 100000 in
theorem sizeQPT : (Tryz.prog.info? 41).map (·.size) = some 14 := by kernel_rfl
/-- The document's parts, the wish filled as far as k. -/
def qRow (V0 V1 V2 V3 GP GG T0 T1 T2 T3 : ByteArray) (asks : Bool) (a0 a1 a2 k : Nat) : Array Value := #[.string V0, .string V1, .string V2, .string V3, .string T0, .bool asks, .int .i64 (if 0 < k then (a0 : Int) else 0), .int .i64 (if 1 < k then (a1 : Int) else 0), .int .i64 (if 2 < k then (a2 : Int) else 0), .string GP, .string GG, .string T1, .string T2, .string T3]
/-- The world behind the boxes at parts' door. -/
def partsW (w : World) (V0 V1 V2 V3 GP GG : ByteArray) (x0 x1 x2 x3 : Int) (asks : Bool) (a0 a1 a2 : Nat) (vi vt : Value) : World := (((w.alloc (.cells #[.string V0, .string V1, .string V2, .string V3, .int .i64 x0, .int .i64 x1, .int .i64 x2, .int .i64 x3, .bool asks, .int .u32 (a0 : Int), .int .u32 (a1 : Int), .int .u32 (a2 : Int), .string GP, .string GG] 30)).alloc (.cells #[vi, vt] 47)).alloc (.cells #[.string ⟨#[]⟩, .string ⟨#[]⟩, .string ⟨#[]⟩, .string ⟨#[]⟩, .int .i64 0, .bool false, .int .u32 0, .int .u32 0, .int .u32 0, .string ⟨#[]⟩, .string ⟨#[]⟩, .int .i64 0, .int .i64 0, .int .i64 0] 38)).alloc (.cells #[.string ⟨#[]⟩, .string ⟨#[]⟩, .string ⟨#[]⟩, .string ⟨#[]⟩, .string ⟨#[]⟩, .bool false, .int .i64 0, .int .i64 0, .int .i64 0, .string ⟨#[]⟩, .string ⟨#[]⟩, .string ⟨#[]⟩, .string ⟨#[]⟩, .string ⟨#[]⟩] 41)
set_option maxHeartbeats 8000000 in
set_option maxRecDepth 100000 in
theorem rawParts_any {w : World} {ai at' : Option Addr} {n ci ct : Nat} {ids : List Int} {texts : List (List UInt8)} (hI : IdsAt w (.slice ai n ci) ids) (hT : TextsAt w (.slice at' n ct) (texts.map bs)) (hl : ids.length = n ∧ texts.length = n) (hn : n ≤ 1000000)
    (V0 V1 V2 V3 GP GG : ByteArray) (x0 x1 x2 x3 : Int) (asks : Bool) (a0 a1 a2 : Nat) (h0 : a0 < 4294967296) (h1 : a1 < 4294967296) (h2 : a2 < 4294967296) {p0 p1 p2 p3 : Int} {P0 P1 P2 P3 : List UInt8} (e0 : pickP ids texts x0 = (p0, P0)) (e1 : pickP ids texts x1 = (p1, P1)) (e2 : pickP ids texts x2 = (p2, P2)) (e3 : pickP ids texts x3 = (p3, P3)) :
    Calls Tryz.prog 9 #[.agg #[.string V0, .string V1, .string V2, .string V3, .int .i64 x0, .int .i64 x1, .int .i64 x2, .int .i64 x3, .bool asks, .int .u32 (a0 : Int), .int .u32 (a1 : Int), .int .u32 (a2 : Int), .string GP, .string GG], .agg #[.slice ai n ci, .slice at' n ct]] w fun e w' => e = .returned (.tuple #[.agg #[.string V0, .string V1, .string V2, .string V3, .int .i64 p0, .bool asks, .int .u32 (a0 : Int), .int .u32 (a1 : Int), .int .u32 (a2 : Int), .string GP, .string GG, .int .i64 p1, .int .i64 p2, .int .i64 p3], .agg #[.string V0, .string V1, .string V2, .string V3, .string (bs P0), .bool asks, .int .i64 (a0 : Int), .int .i64 (a1 : Int), .int .i64 (a2 : Int), .string GP, .string GG, .string (bs P1), .string (bs P2), .string (bs P3)]]) ∧ Below w.heap.size w w' := by
  obtain ⟨W1, hW1⟩ : ∃ W1, Hid (W1 = partsW w V0 V1 V2 V3 GP GG x0 x1 x2 x3 asks a0 a1 a2 (.slice ai n ci) (.slice at' n ct)) := ⟨_, Lib.hid rfl⟩
  have b1 : Below w.heap.size w W1 := by rw [hW1.out, partsW]; exact ((((Below.refl _ _).alloc (Nat.le_refl _) _).alloc (by simp) _).alloc (by simp; omega) _).alloc (by simp; omega) _
  have hR : Holds W1 w.heap.size 30 #[.string V0, .string V1, .string V2, .string V3, .int .i64 x0, .int .i64 x1, .int .i64 x2, .int .i64 x3, .bool asks, .int .u32 (a0 : Int), .int .u32 (a1 : Int), .int .u32 (a2 : Int), .string GP, .string GG] := by
    rw [hW1.out, partsW]
    exact Holds.moves (S := nobody) (Holds.new w 30 #[.string V0, .string V1, .string V2, .string V3, .int .i64 x0, .int .i64 x1, .int .i64 x2, .int .i64 x3, .bool asks, .int .u32 (a0 : Int), .int .u32 (a1 : Int), .int .u32 (a2 : Int), .string GP, .string GG]) ((((Moves.refl nobody _).alloc _).alloc _).alloc _) (fun h => h)
  have hM : Holds W1 (w.heap.size + 1) 47 #[.slice ai n ci, .slice at' n ct] := by
    rw [hW1.out, partsW]
    have := Holds.moves (S := nobody) (Holds.new (w.alloc (.cells #[.string V0, .string V1, .string V2, .string V3, .int .i64 x0, .int .i64 x1, .int .i64 x2, .int .i64 x3, .bool asks, .int .u32 (a0 : Int), .int .u32 (a1 : Int), .int .u32 (a2 : Int), .string GP, .string GG] 30)) 47 #[.slice ai n ci, .slice at' n ct]) (((Moves.refl nobody _).alloc (.cells #[.string ⟨#[]⟩, .string ⟨#[]⟩, .string ⟨#[]⟩, .string ⟨#[]⟩, .int .i64 0, .bool false, .int .u32 0, .int .u32 0, .int .u32 0, .string ⟨#[]⟩, .string ⟨#[]⟩, .int .i64 0, .int .i64 0, .int .i64 0] 38)).alloc (.cells #[.string ⟨#[]⟩, .string ⟨#[]⟩, .string ⟨#[]⟩, .string ⟨#[]⟩, .string ⟨#[]⟩, .bool false, .int .i64 0, .int .i64 0, .int .i64 0, .string ⟨#[]⟩, .string ⟨#[]⟩, .string ⟨#[]⟩, .string ⟨#[]⟩, .string ⟨#[]⟩] 41)) (fun h => h)
    rwa [World.size_alloc] at this
  have hP : Holds W1 (w.heap.size + 1 + 1) 38 #[.string ⟨#[]⟩, .string ⟨#[]⟩, .string ⟨#[]⟩, .string ⟨#[]⟩, .int .i64 0, .bool false, .int .u32 0, .int .u32 0, .int .u32 0, .string ⟨#[]⟩, .string ⟨#[]⟩, .int .i64 0, .int .i64 0, .int .i64 0] := by
    rw [hW1.out, partsW]
    have := Holds.moves (S := nobody) (Holds.new ((w.alloc (.cells #[.string V0, .string V1, .string V2, .string V3, .int .i64 x0, .int .i64 x1, .int .i64 x2, .int .i64 x3, .bool asks, .int .u32 (a0 : Int), .int .u32 (a1 : Int), .int .u32 (a2 : Int), .string GP, .string GG] 30)).alloc (.cells #[.slice ai n ci, .slice at' n ct] 47)) 38 #[.string ⟨#[]⟩, .string ⟨#[]⟩, .string ⟨#[]⟩, .string ⟨#[]⟩, .int .i64 0, .bool false, .int .u32 0, .int .u32 0, .int .u32 0, .string ⟨#[]⟩, .string ⟨#[]⟩, .int .i64 0, .int .i64 0, .int .i64 0]) ((Moves.refl nobody _).alloc (.cells #[.string ⟨#[]⟩, .string ⟨#[]⟩, .string ⟨#[]⟩, .string ⟨#[]⟩, .string ⟨#[]⟩, .bool false, .int .i64 0, .int .i64 0, .int .i64 0, .string ⟨#[]⟩, .string ⟨#[]⟩, .string ⟨#[]⟩, .string ⟨#[]⟩, .string ⟨#[]⟩] 41)) (fun h => h)
    rwa [World.size_alloc, World.size_alloc] at this
  have hQ : Holds W1 (w.heap.size + 1 + 1 + 1) 41 #[.string ⟨#[]⟩, .string ⟨#[]⟩, .string ⟨#[]⟩, .string ⟨#[]⟩, .string ⟨#[]⟩, .bool false, .int .i64 0, .int .i64 0, .int .i64 0, .string ⟨#[]⟩, .string ⟨#[]⟩, .string ⟨#[]⟩, .string ⟨#[]⟩, .string ⟨#[]⟩] := by
    rw [hW1.out, partsW]
    have := Holds.new (((w.alloc (.cells #[.string V0, .string V1, .string V2, .string V3, .int .i64 x0, .int .i64 x1, .int .i64 x2, .int .i64 x3, .bool asks, .int .u32 (a0 : Int), .int .u32 (a1 : Int), .int .u32 (a2 : Int), .string GP, .string GG] 30)).alloc (.cells #[.slice ai n ci, .slice at' n ct] 47)).alloc (.cells #[.string ⟨#[]⟩, .string ⟨#[]⟩, .string ⟨#[]⟩, .string ⟨#[]⟩, .int .i64 0, .bool false, .int .u32 0, .int .u32 0, .int .u32 0, .string ⟨#[]⟩, .string ⟨#[]⟩, .int .i64 0, .int .i64 0, .int .i64 0] 38)) 41 #[.string ⟨#[]⟩, .string ⟨#[]⟩, .string ⟨#[]⟩, .string ⟨#[]⟩, .string ⟨#[]⟩, .bool false, .int .i64 0, .int .i64 0, .int .i64 0, .string ⟨#[]⟩, .string ⟨#[]⟩, .string ⟨#[]⟩, .string ⟨#[]⟩, .string ⟨#[]⟩]
    rwa [World.size_alloc, World.size_alloc, World.size_alloc] at this
  have HPk : ∀ (i : Int) (p : Int) (T : List UInt8), pickP ids texts i = (p, T) → Hid (∀ W, Below W1.heap.size W1 W → Calls Tryz.prog 20 #[.agg #[.slice ai n ci, .slice at' n ct], .int .i64 i] W fun e w' => e = .returned (.tuple #[.int .i64 p, .string (bs T)]) ∧ Below W.heap.size W w') := fun i p T e W hb => by
    have h := Pick_any (hI.below (b1.trans (hb.mono b1.size))) (hT.below (b1.trans (hb.mono b1.size))) (by omega) (by omega) i
    rwa [e] at h
  have HP0 := HPk x0 p0 P0 e0
  have HP1 := HPk x1 p1 P1 e1
  have HP2 := HPk x2 p2 P2 e2
  have HP3 := HPk x3 p3 P3 e3
  have HRM : Hid (∀ W, Below W1.heap.size W1 W → Holds W w.heap.size 30 #[.string V0, .string V1, .string V2, .string V3, .int .i64 x0, .int .i64 x1, .int .i64 x2, .int .i64 x3, .bool asks, .int .u32 (a0 : Int), .int .u32 (a1 : Int), .int .u32 (a2 : Int), .string GP, .string GG] ∧ Holds W (w.heap.size + 1) 47 #[.slice ai n ci, .slice at' n ct]) := fun W hb => ⟨(Kept.ofBelow hb).hold _ _ _ (by decide) (by decide) hR, (Kept.ofBelow hb).hold _ _ _ (by decide) (by decide) hM⟩
  have HPQ : Hid (∀ W, Below W1.heap.size W1 W → Holds W (w.heap.size + 1 + 1) 38 #[.string ⟨#[]⟩, .string ⟨#[]⟩, .string ⟨#[]⟩, .string ⟨#[]⟩, .int .i64 0, .bool false, .int .u32 0, .int .u32 0, .int .u32 0, .string ⟨#[]⟩, .string ⟨#[]⟩, .int .i64 0, .int .i64 0, .int .i64 0] ∧ Holds W (w.heap.size + 1 + 1 + 1) 41 #[.string ⟨#[]⟩, .string ⟨#[]⟩, .string ⟨#[]⟩, .string ⟨#[]⟩, .string ⟨#[]⟩, .bool false, .int .i64 0, .int .i64 0, .int .i64 0, .string ⟨#[]⟩, .string ⟨#[]⟩, .string ⟨#[]⟩, .string ⟨#[]⟩, .string ⟨#[]⟩]) := fun W hb => ⟨(Kept.ofBelow hb).hold _ _ _ (by decide) (by decide) hP, (Kept.ofBelow hb).hold _ _ _ (by decide) (by decide) hQ⟩
  have HB := Lib.hid b1
  have HZL := Lib.hid hQ.lt
  have cv0 := tr_u32 a0 h0
  have cv1 := tr_u32 a1 h1
  have cv2 := tr_u32 a2 h2
  obtain ⟨hr, hm⟩ := HRM.out W1 (Below.refl _ _)
  have y4 := hr.cell 4
  clear HPk hR hM hP hQ b1 hI hT hl hn e0 e1 e2 e3 h0 h1 h2
  generalize bs P0 = T0 at *
  generalize bs P1 = T1 at *
  generalize bs P2 = T2 at *
  generalize bs P3 = T3 at *
  go_enter Tryz.func9, Tryz.ntmps9
  go_upto_region 1 with fail
  rw [show (((w.alloc (.cells #[.string V0, .string V1, .string V2, .string V3, .int .i64 x0, .int .i64 x1, .int .i64 x2, .int .i64 x3, .bool asks, .int .u32 (a0 : Int), .int .u32 (a1 : Int), .int .u32 (a2 : Int), .string GP, .string GG] 30)).alloc (.cells #[.slice ai n ci, .slice at' n ct] 47)).alloc (.cells #[.string ⟨#[]⟩, .string ⟨#[]⟩, .string ⟨#[]⟩, .string ⟨#[]⟩, .int .i64 0, .bool false, .int .u32 0, .int .u32 0, .int .u32 0, .string ⟨#[]⟩, .string ⟨#[]⟩, .int .i64 0, .int .i64 0, .int .i64 0] 38)).alloc (.cells #[.string ⟨#[]⟩, .string ⟨#[]⟩, .string ⟨#[]⟩, .string ⟨#[]⟩, .string ⟨#[]⟩, .bool false, .int .i64 0, .int .i64 0, .int .i64 0, .string ⟨#[]⟩, .string ⟨#[]⟩, .string ⟨#[]⟩, .string ⟨#[]⟩, .string ⟨#[]⟩] 41) = W1 from hW1.out.symm]
  go_upto_region 2 with (first
    | (go_at_call 20; (with_reducible refine (HP0.out _ (Below.refl _ _)).mono ?_); rintro e u0 ⟨rfl, d0⟩)
    | (refine wpList_load_row rfl 47 _ rfl (w.heap.size + 1) rfl 47 _ (0, 0) _ hm Tryz.underlying47 rfl sizeMadeT ?_))
  obtain ⟨hr, hm⟩ := HRM.out _ d0
  have y5 := hr.cell 5
  clear y4
  go_upto_region 3 with (first
    | (go_at_call 20; (with_reducible refine (HP1.out _ d0).mono ?_); rintro e u1 ⟨rfl, d1⟩; have d1 := d0.trans (d1.mono d0.size))
    | (refine wpList_load_row rfl 47 _ rfl (w.heap.size + 1) rfl 47 _ (0, 0) _ hm Tryz.underlying47 rfl sizeMadeT ?_))
  obtain ⟨hr, hm⟩ := HRM.out _ d1
  have y6 := hr.cell 6
  clear y5
  go_upto_region 4 with (first
    | (go_at_call 20; (with_reducible refine (HP2.out _ d1).mono ?_); rintro e u2 ⟨rfl, d2⟩; have d2 := d1.trans (d2.mono d1.size))
    | (refine wpList_load_row rfl 47 _ rfl (w.heap.size + 1) rfl 47 _ (0, 0) _ hm Tryz.underlying47 rfl sizeMadeT ?_))
  obtain ⟨hr, hm⟩ := HRM.out _ d2
  have y7 := hr.cell 7
  clear y6
  go_upto_region 5 with (first
    | (go_at_call 20; (with_reducible refine (HP3.out _ d2).mono ?_); rintro e u3 ⟨rfl, d3⟩; have d3 := d2.trans (d3.mono d2.size))
    | (refine wpList_load_row rfl 47 _ rfl (w.heap.size + 1) rfl 47 _ (0, 0) _ hm Tryz.underlying47 rfl sizeMadeT ?_))
  obtain ⟨hr, hm⟩ := HRM.out _ d3
  have hrl := hr.lt
  have y0 := hr.cell 0
  have y1 := hr.cell 1
  have y2 := hr.cell 2
  have y3 := hr.cell 3
  have y8 := hr.cell 8
  have y9 := hr.cell 9
  have y10 := hr.cell 10
  have y11 := hr.cell 11
  have y12 := hr.cell 12
  have y13 := hr.cell 13
  go_upto_region 7 with fail
  obtain ⟨W7, hW7⟩ : ∃ W7, W7 = (u3.alloc (.cells #[.string V0, .string V1, .string V2, .string V3, .int .i64 p0, .bool asks, .int .u32 (a0 : Int), .int .u32 (a1 : Int), .int .u32 (a2 : Int), .string GP, .string GG, .int .i64 p1, .int .i64 p2, .int .i64 p3] 38)).alloc (.cells #[.string V0, .string V1, .string V2, .string V3, .string T0, .bool asks, .int .i64 0, .int .i64 0, .int .i64 0, .string GP, .string GG, .string T1, .string T2, .string T3] 41) := ⟨_, rfl⟩
  rw [← hW7]
  have d7 : Below W1.heap.size W1 W7 := by rw [hW7]; exact (d3.alloc d3.size _).alloc (by have := d3.size; simp; omega) _
  have hD1 : Holds W7 u3.heap.size 38 #[.string V0, .string V1, .string V2, .string V3, .int .i64 p0, .bool asks, .int .u32 (a0 : Int), .int .u32 (a1 : Int), .int .u32 (a2 : Int), .string GP, .string GG, .int .i64 p1, .int .i64 p2, .int .i64 p3] := by
    rw [hW7]
    exact Holds.moves (S := nobody) (Holds.new u3 38 #[.string V0, .string V1, .string V2, .string V3, .int .i64 p0, .bool asks, .int .u32 (a0 : Int), .int .u32 (a1 : Int), .int .u32 (a2 : Int), .string GP, .string GG, .int .i64 p1, .int .i64 p2, .int .i64 p3]) ((Moves.refl nobody _).alloc _) (fun h => h)
  have hD2 : Holds W7 (u3.heap.size + 1) 41 #[.string V0, .string V1, .string V2, .string V3, .string T0, .bool asks, .int .i64 0, .int .i64 0, .int .i64 0, .string GP, .string GG, .string T1, .string T2, .string T3] := by
    rw [hW7]
    have := Holds.new (u3.alloc (.cells #[.string V0, .string V1, .string V2, .string V3, .int .i64 p0, .bool asks, .int .u32 (a0 : Int), .int .u32 (a1 : Int), .int .u32 (a2 : Int), .string GP, .string GG, .int .i64 p1, .int .i64 p2, .int .i64 p3] 38)) 41 #[.string V0, .string V1, .string V2, .string V3, .string T0, .bool asks, .int .i64 0, .int .i64 0, .int .i64 0, .string GP, .string GG, .string T1, .string T2, .string T3]
    rwa [World.size_alloc] at this
  have hrl3 : W1.heap.size ≤ u3.heap.size := d3.size
  have hw1 : w.heap.size < W1.heap.size := (HRM.out W1 (Below.refl _ _)).1.lt
  have HD := Lib.hid (And.intro hD1 hD2)
  have H7 := Lib.hid d7
  have HW1 := Lib.hid hw1
  clear hW7 hD1 hD2 d7 hr hm d0 d1 d2 d3 hrl y0 y1 y2 y3 y8 y9 y10 y11 y12 y13 HP0 HP1 HP2 HP3 hw1
  generalize u3.heap.size = N at *
  go_wp2_with fail
  go_loopw [16] (fun i wr => ∃ k : Nat, k ≤ 3 ∧ i = .int .i64 (k : Int) ∧ Moves (fun b => b = N + 1) W7 wr ∧ Holds wr (N + 1) 41 (qRow V0 V1 V2 V3 GP GG T0 T1 T2 T3 asks a0 a1 a2 k)) (fun i _ => 3 - (intOf i).toNat)
  case atStart => exact ⟨0, by omega, rfl, Moves.refl _ _, HD.out.2⟩
  case round =>
    obtain ⟨k, hk, rfl, mv, hq⟩ := hrel
    have HRr : Holds wr w.heap.size 30 #[.string V0, .string V1, .string V2, .string V3, .int .i64 x0, .int .i64 x1, .int .i64 x2, .int .i64 x3, .bool asks, .int .u32 (a0 : Int), .int .u32 (a1 : Int), .int .u32 (a2 : Int), .string GP, .string GG] := ((HRM.out W7 H7.out).1).moves mv (fun e => by have := HW1.out; omega)
    have hc : k = 0 ∨ k = 1 ∨ k = 2 ∨ k = 3 := by omega
    rcases hc with rfl | rfl | rfl | rfl
    · have y0 := HRr.cell 9
      have c0 := hq.cell 6
      have g0 := hq.frozen 6
      have hn := Holds.set hq 6 (.int .i64 (a0 : Int))
      have mv2 : Moves (fun b => b = N + 1) W7 (wr.setCell ⟨N + 1, 6, none⟩ (.int .i64 (a0 : Int))) := mv.setCell (p := ⟨N + 1, 6, none⟩) (.inl rfl) _
      have HN := Lib.hid hn
      have HMv := Lib.hid mv2
      clear HRr hq mv mv2 hn hk
      go_wp2_with fail
      go_roundw
      case rel => exact ⟨1, by omega, by go_num, HMv.out, HN.out⟩
      case measure => simp [intOf]
    · have y0 := HRr.cell 10
      have c0 := hq.cell 7
      have g0 := hq.frozen 7
      have hn := Holds.set hq 7 (.int .i64 (a1 : Int))
      have mv2 : Moves (fun b => b = N + 1) W7 (wr.setCell ⟨N + 1, 7, none⟩ (.int .i64 (a1 : Int))) := mv.setCell (p := ⟨N + 1, 7, none⟩) (.inl rfl) _
      have HN := Lib.hid hn
      have HMv := Lib.hid mv2
      clear HRr hq mv mv2 hn hk
      go_wp2_with fail
      go_roundw
      case rel => exact ⟨2, by omega, by go_num, HMv.out, HN.out⟩
      case measure => simp [intOf]
    · have y0 := HRr.cell 11
      have c0 := hq.cell 8
      have g0 := hq.frozen 8
      have hn := Holds.set hq 8 (.int .i64 (a2 : Int))
      have mv2 : Moves (fun b => b = N + 1) W7 (wr.setCell ⟨N + 1, 8, none⟩ (.int .i64 (a2 : Int))) := mv.setCell (p := ⟨N + 1, 8, none⟩) (.inl rfl) _
      have HN := Lib.hid hn
      have HMv := Lib.hid mv2
      clear HRr hq mv mv2 hn hk
      go_wp2_with fail
      go_roundw
      case rel => exact ⟨3, by omega, by go_num, HMv.out, HN.out⟩
      case measure => simp [intOf]
    · have hp : Holds wr.drew N 38 #[.string V0, .string V1, .string V2, .string V3, .int .i64 p0, .bool asks, .int .u32 (a0 : Int), .int .u32 (a1 : Int), .int .u32 (a2 : Int), .string GP, .string GG, .int .i64 p1, .int .i64 p2, .int .i64 p3] := HD.out.1.moves mv.drew (fun e => by omega)
      have hq3 : Holds wr.drew (N + 1) 41 #[.string V0, .string V1, .string V2, .string V3, .string T0, .bool asks, .int .i64 (a0 : Int), .int .i64 (a1 : Int), .int .i64 (a2 : Int), .string GP, .string GG, .string T1, .string T2, .string T3] := hq
      obtain ⟨hz1, hz2⟩ := HPQ.out W7 H7.out
      have z1 : Holds wr.drew (w.heap.size + 1 + 1) 38 #[.string ⟨#[]⟩, .string ⟨#[]⟩, .string ⟨#[]⟩, .string ⟨#[]⟩, .int .i64 0, .bool false, .int .u32 0, .int .u32 0, .int .u32 0, .string ⟨#[]⟩, .string ⟨#[]⟩, .int .i64 0, .int .i64 0, .int .i64 0] := hz1.moves mv.drew (fun e => by have := HZL.out; omega)
      have z2 : Holds wr.drew (w.heap.size + 1 + 1 + 1) 41 #[.string ⟨#[]⟩, .string ⟨#[]⟩, .string ⟨#[]⟩, .string ⟨#[]⟩, .string ⟨#[]⟩, .bool false, .int .i64 0, .int .i64 0, .int .i64 0, .string ⟨#[]⟩, .string ⟨#[]⟩, .string ⟨#[]⟩, .string ⟨#[]⟩, .string ⟨#[]⟩] := hz2.moves mv.drew (fun e => by have := HZL.out; omega)
      have bw : Below w.heap.size w wr.drew := (HB.out.trans (H7.out.mono HB.out.size)).trans (mv.drew.below (by have := H7.out.size; have := HW1.out; omega) (fun i (hi : i = N + 1) => by have := HZL.out; omega))
      have hN : N ≠ w.heap.size + 1 + 1 ∧ N + 1 ≠ w.heap.size + 1 + 1 ∧ N ≠ w.heap.size + 1 + 1 + 1 ∧ N + 1 ≠ w.heap.size + 1 + 1 + 1 := by have := HZL.out; omega
      clear hq mv hk hz1 hz2 HPQ HRM HRr HD H7 HB HW1 HZL
      obtain ⟨PA, hPA⟩ : ∃ x : Array Value, x = #[.string V0, .string V1, .string V2, .string V3, .int .i64 p0, .bool asks, .int .u32 (a0 : Int), .int .u32 (a1 : Int), .int .u32 (a2 : Int), .string GP, .string GG, .int .i64 p1, .int .i64 p2, .int .i64 p3] := ⟨_, rfl⟩
      obtain ⟨QF, hQF⟩ : ∃ x : Array Value, x = #[.string V0, .string V1, .string V2, .string V3, .string T0, .bool asks, .int .i64 (a0 : Int), .int .i64 (a1 : Int), .int .i64 (a2 : Int), .string GP, .string GG, .string T1, .string T2, .string T3] := ⟨_, rfl⟩
      have iPA : (Tryz.prog.info? 38).map (·.size) = some PA.size := by rw [hPA]; exact sizeXPT
      have iQF : (Tryz.prog.info? 41).map (·.size) = some QF.size := by rw [hQF]; exact sizeQPT
      have sPA : (#[.string ⟨#[]⟩, .string ⟨#[]⟩, .string ⟨#[]⟩, .string ⟨#[]⟩, .int .i64 0, .bool false, .int .u32 0, .int .u32 0, .int .u32 0, .string ⟨#[]⟩, .string ⟨#[]⟩, .int .i64 0, .int .i64 0, .int .i64 0] : Array Value).size = PA.size := by rw [hPA]; rfl
      have sQF : (#[.string ⟨#[]⟩, .string ⟨#[]⟩, .string ⟨#[]⟩, .string ⟨#[]⟩, .string ⟨#[]⟩, .bool false, .int .i64 0, .int .i64 0, .int .i64 0, .string ⟨#[]⟩, .string ⟨#[]⟩, .string ⟨#[]⟩, .string ⟨#[]⟩, .string ⟨#[]⟩] : Array Value).size = QF.size := by rw [hQF]; rfl
      have oPA : PA.all (·.oneCell') = true := by rw [hPA]; simp [Value.oneCell']
      have oQF : QF.all (·.oneCell') = true := by rw [hQF]; simp [Value.oneCell']
      rw [← hPA] at hp
      rw [← hQF] at hq3
      have HPA := Lib.hid hPA
      have HQF := Lib.hid hQF
      clear hPA hQF
      have hqA : Holds (wr.drew.setRow (w.heap.size + 1 + 1) PA) (N + 1) 41 QF := (setRow_other _ _ _ _ hN.2.1).trans hq3
      have hpB : Holds (wr.drew.setRow (w.heap.size + 1 + 1 + 1) QF) N 38 PA := (setRow_other _ _ _ _ hN.2.2.1).trans hp
      have z2A : Holds (wr.drew.setRow (w.heap.size + 1 + 1) PA) (w.heap.size + 1 + 1 + 1) 41 #[.string ⟨#[]⟩, .string ⟨#[]⟩, .string ⟨#[]⟩, .string ⟨#[]⟩, .string ⟨#[]⟩, .bool false, .int .i64 0, .int .i64 0, .int .i64 0, .string ⟨#[]⟩, .string ⟨#[]⟩, .string ⟨#[]⟩, .string ⟨#[]⟩, .string ⟨#[]⟩] := (setRow_other _ _ _ _ (by omega)).trans z2
      have z1B : Holds (wr.drew.setRow (w.heap.size + 1 + 1 + 1) QF) (w.heap.size + 1 + 1) 38 #[.string ⟨#[]⟩, .string ⟨#[]⟩, .string ⟨#[]⟩, .string ⟨#[]⟩, .int .i64 0, .bool false, .int .u32 0, .int .u32 0, .int .u32 0, .string ⟨#[]⟩, .string ⟨#[]⟩, .int .i64 0, .int .i64 0, .int .i64 0] := (setRow_other _ _ _ _ (by omega)).trans z1
      have e1A : Holds (wr.drew.setRow (w.heap.size + 1 + 1) PA) (w.heap.size + 1 + 1) 38 PA := setRow_heap _ _ _ _ _ _ z1
      have e2A : Holds ((wr.drew.setRow (w.heap.size + 1 + 1) PA).setRow (w.heap.size + 1 + 1 + 1) QF) (w.heap.size + 1 + 1 + 1) 41 QF := setRow_heap _ _ _ _ _ _ z2A
      have e1AB : Holds ((wr.drew.setRow (w.heap.size + 1 + 1) PA).setRow (w.heap.size + 1 + 1 + 1) QF) (w.heap.size + 1 + 1) 38 PA := (setRow_other _ _ _ _ (by omega)).trans e1A
      have e2B : Holds (wr.drew.setRow (w.heap.size + 1 + 1 + 1) QF) (w.heap.size + 1 + 1 + 1) 41 QF := setRow_heap _ _ _ _ _ _ z2
      have e1B : Holds ((wr.drew.setRow (w.heap.size + 1 + 1 + 1) QF).setRow (w.heap.size + 1 + 1) PA) (w.heap.size + 1 + 1) 38 PA := setRow_heap _ _ _ _ _ _ z1B
      have e2BA : Holds ((wr.drew.setRow (w.heap.size + 1 + 1 + 1) QF).setRow (w.heap.size + 1 + 1) PA) (w.heap.size + 1 + 1 + 1) 41 QF := (setRow_other _ _ _ _ (by omega)).trans e2B
      have bAB := below_setRow (below_setRow bw (show w.heap.size ≤ w.heap.size + 1 + 1 by omega) PA) (show w.heap.size ≤ w.heap.size + 1 + 1 + 1 by omega) QF
      have bBA := below_setRow (below_setRow bw (show w.heap.size ≤ w.heap.size + 1 + 1 + 1 by omega) QF) (show w.heap.size ≤ w.heap.size + 1 + 1 by omega) PA
      clear bw hN e1A e2B
      go_wp2_with fail
      refine wp_region_any (by kernel_rfl) ?_
      change wpAny _ _ _ _ _ _ _ (World.drew _)
      refine wpAny_ready (rs := [0, 1]) (by kernel_rfl) (by simp) ?_
      refine AllReady.cons rfl (fun K hK => ?_) ?_
      · refine step_load_row20 rfl 38 _ rfl N rfl 38 PA (0, 0) _ hp Tryz.underlying38 rfl iPA ?_
        refine hK _ _ ?_
        clear hK K
        refine wpAny_ready (rs := [1, 2]) (by kernel_rfl) (by simp) ?_
        refine AllReady.cons rfl (fun K hK => ?_) ?_
        · refine step_load_row20 rfl 41 _ rfl (N + 1) rfl 41 QF (0, 0) _ hq3 Tryz.underlying41 rfl iQF ?_
          refine hK _ _ ?_
          clear hK K
          refine wpAny_ready (rs := [2]) (by kernel_rfl) (by simp) ?_
          refine AllReady.cons rfl (fun K hK => ?_) ?_
          · refine step_store_row20 rfl 38 _ _ rfl (w.heap.size + 1 + 1) PA rfl rfl 38 _ z1 iPA sPA oPA ?_
            refine hK _ _ ?_
            clear hK K
            refine wpAny_ready (rs := [3]) (by kernel_rfl) (by simp) ?_
            refine AllReady.cons rfl (fun K hK => ?_) ?_
            · refine step_store_row20 rfl 41 _ _ rfl (w.heap.size + 1 + 1 + 1) QF rfl rfl 41 _ z2A iQF sQF oQF ?_
              refine hK _ _ ?_
              clear hK K
              refine wpAny_done (by kernel_rfl) ?_ _
              go_wp2_with fail
              refine bodyPost_ret (results_two_cells (p := 4) (q := 5) rfl _ _ (w.heap.size + 1 + 1) (w.heap.size + 1 + 1 + 1) PA QF _ _ rfl rfl e1AB e2A Tryz.underlying38 rfl iPA Tryz.underlying41 rfl iQF) rfl ⟨by rw [HPA.out, HQF.out], bAB⟩
            exact AllReady.nil
          exact AllReady.nil
        refine AllReady.cons rfl (fun K hK => ?_) ?_
        · refine step_store_row20 rfl 38 _ _ rfl (w.heap.size + 1 + 1) PA rfl rfl 38 _ z1 iPA sPA oPA ?_
          refine hK _ _ ?_
          clear hK K
          refine wpAny_ready (rs := [1]) (by kernel_rfl) (by simp) ?_
          refine AllReady.cons rfl (fun K hK => ?_) ?_
          · refine step_load_row20 rfl 41 _ rfl (N + 1) rfl 41 QF (0, 0) _ hqA Tryz.underlying41 rfl iQF ?_
            refine hK _ _ ?_
            clear hK K
            refine wpAny_ready (rs := [3]) (by kernel_rfl) (by simp) ?_
            refine AllReady.cons rfl (fun K hK => ?_) ?_
            · refine step_store_row20 rfl 41 _ _ rfl (w.heap.size + 1 + 1 + 1) QF rfl rfl 41 _ z2A iQF sQF oQF ?_
              refine hK _ _ ?_
              clear hK K
              refine wpAny_done (by kernel_rfl) ?_ _
              go_wp2_with fail
              refine bodyPost_ret (results_two_cells (p := 4) (q := 5) rfl _ _ (w.heap.size + 1 + 1) (w.heap.size + 1 + 1 + 1) PA QF _ _ rfl rfl e1AB e2A Tryz.underlying38 rfl iPA Tryz.underlying41 rfl iQF) rfl ⟨by rw [HPA.out, HQF.out], bAB⟩
            exact AllReady.nil
          exact AllReady.nil
        exact AllReady.nil
      refine AllReady.cons rfl (fun K hK => ?_) ?_
      · refine step_load_row20 rfl 41 _ rfl (N + 1) rfl 41 QF (0, 0) _ hq3 Tryz.underlying41 rfl iQF ?_
        refine hK _ _ ?_
        clear hK K
        refine wpAny_ready (rs := [0]) (by kernel_rfl) (by simp) ?_
        refine AllReady.cons rfl (fun K hK => ?_) ?_
        · refine step_load_row20 rfl 38 _ rfl N rfl 38 PA (0, 0) _ hp Tryz.underlying38 rfl iPA ?_
          refine hK _ _ ?_
          clear hK K
          refine wpAny_ready (rs := [2]) (by kernel_rfl) (by simp) ?_
          refine AllReady.cons rfl (fun K hK => ?_) ?_
          · refine step_store_row20 rfl 38 _ _ rfl (w.heap.size + 1 + 1) PA rfl rfl 38 _ z1 iPA sPA oPA ?_
            refine hK _ _ ?_
            clear hK K
            refine wpAny_ready (rs := [3]) (by kernel_rfl) (by simp) ?_
            refine AllReady.cons rfl (fun K hK => ?_) ?_
            · refine step_store_row20 rfl 41 _ _ rfl (w.heap.size + 1 + 1 + 1) QF rfl rfl 41 _ z2A iQF sQF oQF ?_
              refine hK _ _ ?_
              clear hK K
              refine wpAny_done (by kernel_rfl) ?_ _
              go_wp2_with fail
              refine bodyPost_ret (results_two_cells (p := 4) (q := 5) rfl _ _ (w.heap.size + 1 + 1) (w.heap.size + 1 + 1 + 1) PA QF _ _ rfl rfl e1AB e2A Tryz.underlying38 rfl iPA Tryz.underlying41 rfl iQF) rfl ⟨by rw [HPA.out, HQF.out], bAB⟩
            exact AllReady.nil
          exact AllReady.nil
        exact AllReady.nil
      exact AllReady.nil
end Go.Proofs.YtobhpclemmhpoaaGreatDoor
