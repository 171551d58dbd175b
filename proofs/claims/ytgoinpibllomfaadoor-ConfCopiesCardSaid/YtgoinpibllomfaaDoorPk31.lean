/- Part 31 of what the statement wants. -/
import Derived.Laws.StructEq
import Derived.BigQuiet
import Derived.LoopTactic
import Derived.Test.YtgoinpibllomfaaDoorPk28
import Derived.Test.YtgoinpibllomfaaDoorPk30
namespace Go.Proofs.YtgoinpibllomfaaDoor
open Go.RowKit

theorem holds_below25 {a b : World} (h : Below a.heap.size a b) {g : Nat} {t : TypeId} {cs : Array Value} (hh : Holds a g t cs) : Holds b g t cs := (h.block _ hh.lt).trans hh
theorem below_drewN25 {B : Nat} {w w' : World} (h : Below B w w') (n : Nat) : Below B w (w'.drewN n) := ⟨h.os, h.tape, h.output, h.size, h.block⟩
theorem sizeU25 (w : World) : (sizeOf 48).run Tryd.prog w = .ok 1 w := by
  have h : (Tryd.prog.info? 48).map (·.size) = some 1 := by kernel_rfl
  cases hq : Tryd.prog.info? 48 with
  | none => simp [hq] at h
  | some i =>
    have : i.size = 1 := by simpa [hq] using h
    simp [sizeOf, typeInfo, hq, this]
theorem threeEq25 (a b c d e f : Int) (w : World) : (Op.equalIn 10000 49 (.agg #[.int .u32 a, .int .u32 b, .int .u32 c]) (.agg #[.int .u32 d, .int .u32 e, .int .u32 f])).run Tryd.prog w = .ok ((a == d) && ((b == e) && (c == f))) w := by
  have e1 : ∀ (x y : Int) w, (Op.equalIn 9999 48 (.int .u32 x) (.int .u32 y)).run Tryd.prog w = .ok (x == y) w := fun x y w => run_equalIn_int w 9998 48 .u32 .u32 x y Tryd.underlying48
  have r3 : List.range' 0 3 1 = [0, 1, 2] := rfl
  have px : ∀ (w : World) (k l m : Int), (part 48 #[.int .u32 k, .int .u32 l, .int .u32 m] (0 * 1)).run Tryd.prog w = .ok (.int .u32 k) w := fun w k l m => by
    simp [part, isAgg, run_underlying Tryd.underlying48]
  have py : ∀ (w : World) (k l m : Int), (part 48 #[.int .u32 k, .int .u32 l, .int .u32 m] (1 * 1)).run Tryd.prog w = .ok (.int .u32 l) w := fun w k l m => by
    simp [part, isAgg, run_underlying Tryd.underlying48]
  have pz : ∀ (w : World) (k l m : Int), (part 48 #[.int .u32 k, .int .u32 l, .int .u32 m] (2 * 1)).run Tryd.prog w = .ok (.int .u32 m) w := fun w k l m => by
    simp [part, isAgg, run_underlying Tryd.underlying48]
  rw [show (10000 : Nat) = 9999 + 1 from rfl]
  unfold Op.equalIn
  simp only [Sem.run_bind, run_underlying Tryd.underlying49, Result.andThen_ok, sizeU25, Std.Legacy.Range.forIn_eq_forIn_range', Std.Legacy.Range.size, Nat.sub_zero, Nat.add_one_sub_one, Nat.div_one, r3, List.forIn_cons, List.forIn_nil, px, e1]
  have py1 := py
  have pz1 := pz
  simp only [Nat.mul_one] at py1 pz1
  cases h : (a == d)
  · simp
  · cases h' : (b == e)
    · simp [py1, e1, h']
    · cases h2 : (c == f)
      · simp [py1, pz1, e1, h', h2]
      · simp [py1, pz1, e1, h', h2]
/-- The same but for where its lists lie. -/
def Alike25 (c c2 : CfV) : Prop := c2.sv = c.sv ∧ c2.so = c.so ∧ c2.co = c.co ∧ c2.ow = c.ow ∧ c2.li = c.li ∧ c2.pe = c.pe ∧ c2.us = c.us ∧ c2.ex = c.ex ∧ c2.gu = c.gu ∧ c2.w0 = c.w0 ∧ c2.w1 = c.w1 ∧ c2.w2 = c.w2
set_option maxHeartbeats 8000000 in
set_option maxRecDepth 100000 in
theorem same25_any {w : World} {c c2 : CfV} {d : CfL} (h : CfAt w c d) (h2 : CfAt w c2 d) (ha : Alike25 c c2) (hl : ∀ k < 8, (d.p k).length ≤ 1000) (hal : d.al.length ≤ 1000) (hgr : d.gr.length ≤ 1000) (hks : d.ks.length ≤ 1000) :
    Calls Tryd.prog 24 #[.agg c.row, .agg c2.row] w fun e w' => e = .returned (.bool true) ∧ Below w.heap.size w w' := by
  obtain ⟨W1, hW1⟩ : ∃ W1, Hid (W1 = ((w.alloc (.cells c.row 51)).alloc (.cells c2.row 51))) := ⟨_, Lib.hid rfl⟩
  have b1 : Below w.heap.size w W1 := by rw [hW1.out]; exact ((Below.refl _ _).alloc (Nat.le_refl _) _).alloc (by simp only [World.size_alloc]; omega) _
  have hX : Holds W1 w.heap.size 51 c.row := by rw [hW1.out]; exact first2_row w c.row 51 _ rfl
  have hZ : Holds W1 (w.heap.size + 1) 51 c2.row := by rw [hW1.out]; exact last2_row w _ 51 _ rfl
  have n1 : c.ng = d.gr.length := grants_len h.gr
  have n2 : c2.ng = d.gr.length := grants_len h2.gr
  have n3 : c.nk = d.ks.length := ids_len h.ks
  have n4 : c2.nk = d.ks.length := ids_len h2.ks
  obtain ⟨a1, a2, a3, a4, a5, a6, a7, a8, a9, a10, a11, a12⟩ := ha
  have r1 : c.row = #[.bool c.sv, .string c.so, .string c.co, .slice c.a0 c.n0 c.c0, .slice c.a1 c.n1 c.c1, .slice c.a2 c.n2 c.c2, .slice c.a3 c.n3 c.c3, .slice c.a4 c.n4 c.c4, .slice c.a5 c.n5 c.c5, .slice c.a6 c.n6 c.c6, .slice c.a7 c.n7 c.c7, .slice c.aa c.na c.ca, .int .i64 c.ow, .slice c.ag d.gr.length c.cg, .int .i64 c.li, .int .i64 c.pe, .string c.us, .slice c.ak d.ks.length c.ck, .bool c.ex, .bool c.gu, .int .u32 (c.w0 : Int), .int .u32 (c.w1 : Int), .int .u32 (c.w2 : Int)] := by unfold CfV.row; rw [n1, n3]
  have r2 : c2.row = #[.bool c.sv, .string c.so, .string c.co, .slice c2.a0 c2.n0 c2.c0, .slice c2.a1 c2.n1 c2.c1, .slice c2.a2 c2.n2 c2.c2, .slice c2.a3 c2.n3 c2.c3, .slice c2.a4 c2.n4 c2.c4, .slice c2.a5 c2.n5 c2.c5, .slice c2.a6 c2.n6 c2.c6, .slice c2.a7 c2.n7 c2.c7, .slice c2.aa c2.na c2.ca, .int .i64 c.ow, .slice c2.ag d.gr.length c2.cg, .int .i64 c.li, .int .i64 c.pe, .string c.us, .slice c2.ak d.ks.length c2.ck, .bool c.ex, .bool c.gu, .int .u32 (c.w0 : Int), .int .u32 (c.w1 : Int), .int .u32 (c.w2 : Int)] := by unfold CfV.row; rw [n2, n4, a1, a2, a3, a4, a5, a6, a7, a8, a9, a10, a11, a12]
  have hX' := hX
  have hZ' := hZ
  rw [r1] at hX'
  rw [r2] at hZ'
  have HA : Hid (∀ W, Below W1.heap.size W1 W → W.cell? ⟨w.heap.size, 0, none⟩ = some (.bool c.sv) ∧ W.cell? ⟨w.heap.size, 1, none⟩ = some (.string c.so) ∧ W.cell? ⟨w.heap.size, 2, none⟩ = some (.string c.co) ∧ W.cell? ⟨w.heap.size, 12, none⟩ = some (.int .i64 c.ow) ∧ W.cell? ⟨w.heap.size, 14, none⟩ = some (.int .i64 c.li) ∧ W.cell? ⟨w.heap.size, 15, none⟩ = some (.int .i64 c.pe) ∧ W.cell? ⟨w.heap.size, 16, none⟩ = some (.string c.us) ∧ W.cell? ⟨w.heap.size, 18, none⟩ = some (.bool c.ex) ∧ W.cell? ⟨w.heap.size, 19, none⟩ = some (.bool c.gu) ∧ W.cell? ⟨w.heap.size, 20, none⟩ = some (.int .u32 (c.w0 : Int)) ∧ W.cell? ⟨w.heap.size, 21, none⟩ = some (.int .u32 (c.w1 : Int)) ∧ W.cell? ⟨w.heap.size, 22, none⟩ = some (.int .u32 (c.w2 : Int)) ∧ W.cell? ⟨w.heap.size + 1, 0, none⟩ = some (.bool c.sv) ∧ W.cell? ⟨w.heap.size + 1, 1, none⟩ = some (.string c.so) ∧ W.cell? ⟨w.heap.size + 1, 2, none⟩ = some (.string c.co) ∧ W.cell? ⟨w.heap.size + 1, 12, none⟩ = some (.int .i64 c.ow) ∧ W.cell? ⟨w.heap.size + 1, 14, none⟩ = some (.int .i64 c.li) ∧ W.cell? ⟨w.heap.size + 1, 15, none⟩ = some (.int .i64 c.pe) ∧ W.cell? ⟨w.heap.size + 1, 16, none⟩ = some (.string c.us) ∧ W.cell? ⟨w.heap.size + 1, 18, none⟩ = some (.bool c.ex) ∧ W.cell? ⟨w.heap.size + 1, 19, none⟩ = some (.bool c.gu) ∧ W.cell? ⟨w.heap.size + 1, 20, none⟩ = some (.int .u32 (c.w0 : Int)) ∧ W.cell? ⟨w.heap.size + 1, 21, none⟩ = some (.int .u32 (c.w1 : Int)) ∧ W.cell? ⟨w.heap.size + 1, 22, none⟩ = some (.int .u32 (c.w2 : Int))) := fun W hW => by
    have h0 := (holds_below25 hW hX')
    have h1 := (holds_below25 hW hZ')
    exact ⟨h0.cell 0, h0.cell 1, h0.cell 2, h0.cell 12, h0.cell 14, h0.cell 15, h0.cell 16, h0.cell 18, h0.cell 19, h0.cell 20, h0.cell 21, h0.cell 22, h1.cell 0, h1.cell 1, h1.cell 2, h1.cell 12, h1.cell 14, h1.cell 15, h1.cell 16, h1.cell 18, h1.cell 19, h1.cell 20, h1.cell 21, h1.cell 22⟩
  have HBc : Hid (∀ W, Below W1.heap.size W1 W → W.cell? ⟨w.heap.size, 3, none⟩ = some (.slice c.a0 c.n0 c.c0) ∧ W.cell? ⟨w.heap.size, 4, none⟩ = some (.slice c.a1 c.n1 c.c1) ∧ W.cell? ⟨w.heap.size, 5, none⟩ = some (.slice c.a2 c.n2 c.c2) ∧ W.cell? ⟨w.heap.size, 6, none⟩ = some (.slice c.a3 c.n3 c.c3) ∧ W.cell? ⟨w.heap.size, 7, none⟩ = some (.slice c.a4 c.n4 c.c4) ∧ W.cell? ⟨w.heap.size, 8, none⟩ = some (.slice c.a5 c.n5 c.c5) ∧ W.cell? ⟨w.heap.size, 9, none⟩ = some (.slice c.a6 c.n6 c.c6) ∧ W.cell? ⟨w.heap.size, 10, none⟩ = some (.slice c.a7 c.n7 c.c7) ∧ W.cell? ⟨w.heap.size, 11, none⟩ = some (.slice c.aa c.na c.ca) ∧ W.cell? ⟨w.heap.size, 13, none⟩ = some (.slice c.ag d.gr.length c.cg) ∧ W.cell? ⟨w.heap.size, 17, none⟩ = some (.slice c.ak d.ks.length c.ck) ∧ W.cell? ⟨w.heap.size + 1, 3, none⟩ = some (.slice c2.a0 c2.n0 c2.c0) ∧ W.cell? ⟨w.heap.size + 1, 4, none⟩ = some (.slice c2.a1 c2.n1 c2.c1) ∧ W.cell? ⟨w.heap.size + 1, 5, none⟩ = some (.slice c2.a2 c2.n2 c2.c2) ∧ W.cell? ⟨w.heap.size + 1, 6, none⟩ = some (.slice c2.a3 c2.n3 c2.c3) ∧ W.cell? ⟨w.heap.size + 1, 7, none⟩ = some (.slice c2.a4 c2.n4 c2.c4) ∧ W.cell? ⟨w.heap.size + 1, 8, none⟩ = some (.slice c2.a5 c2.n5 c2.c5) ∧ W.cell? ⟨w.heap.size + 1, 9, none⟩ = some (.slice c2.a6 c2.n6 c2.c6) ∧ W.cell? ⟨w.heap.size + 1, 10, none⟩ = some (.slice c2.a7 c2.n7 c2.c7) ∧ W.cell? ⟨w.heap.size + 1, 11, none⟩ = some (.slice c2.aa c2.na c2.ca) ∧ W.cell? ⟨w.heap.size + 1, 13, none⟩ = some (.slice c2.ag d.gr.length c2.cg) ∧ W.cell? ⟨w.heap.size + 1, 17, none⟩ = some (.slice c2.ak d.ks.length c2.ck)) := fun W hW => by
    have h0 := (holds_below25 hW hX')
    have h1 := (holds_below25 hW hZ')
    exact ⟨h0.cell 3, h0.cell 4, h0.cell 5, h0.cell 6, h0.cell 7, h0.cell 8, h0.cell 9, h0.cell 10, h0.cell 11, h0.cell 13, h0.cell 17, h1.cell 3, h1.cell 4, h1.cell 5, h1.cell 6, h1.cell 7, h1.cell 8, h1.cell 9, h1.cell 10, h1.cell 11, h1.cell 13, h1.cell 17⟩
  have HP : Hid (∀ W, Below W1.heap.size W1 W → Calls Tryd.prog 38 #[.agg #[.slice c.a0 c.n0 c.c0, .slice c.a1 c.n1 c.c1, .slice c.a2 c.n2 c.c2, .slice c.a3 c.n3 c.c3, .slice c.a4 c.n4 c.c4, .slice c.a5 c.n5 c.c5, .slice c.a6 c.n6 c.c6, .slice c.a7 c.n7 c.c7], .agg #[.slice c2.a0 c2.n0 c2.c0, .slice c2.a1 c2.n1 c2.c1, .slice c2.a2 c2.n2 c2.c2, .slice c2.a3 c2.n3 c2.c3, .slice c2.a4 c2.n4 c2.c4, .slice c2.a5 c2.n5 c2.c5, .slice c2.a6 c2.n6 c2.c6, .slice c2.a7 c2.n7 c2.c7]] W fun e w' => e = .returned (.bool true) ∧ Below W.heap.size W w') := fun W hW => by
    show Calls _ _ _ _ _
    rw [← show agg8 c.u = .agg #[.slice c.a0 c.n0 c.c0, .slice c.a1 c.n1 c.c1, .slice c.a2 c.n2 c.c2, .slice c.a3 c.n3 c.c3, .slice c.a4 c.n4 c.c4, .slice c.a5 c.n5 c.c5, .slice c.a6 c.n6 c.c6, .slice c.a7 c.n7 c.c7] from rfl, ← show agg8 c2.u = .agg #[.slice c2.a0 c2.n0 c2.c0, .slice c2.a1 c2.n1 c2.c1, .slice c2.a2 c2.n2 c2.c2, .slice c2.a3 c2.n3 c2.c3, .slice c2.a4 c2.n4 c2.c4, .slice c2.a5 c2.n5 c2.c5, .slice c2.a6 c2.n6 c2.c6, .slice c2.a7 c2.n7 c2.c7] from rfl]
    exact (same15_any (fun k hk => (((h.below b1).below hW).pf k hk)) (fun k hk => (((h2.below b1).below hW).pf k hk)) (fun k hk => by have := hl k hk; unfold maxLen; omega)).mono fun e w' ⟨z, h1, h2, h3⟩ => ⟨by rw [h1, h2.2 (fun _ _ => rfl)], h3⟩
  have HS4 : Hid (∀ W, Below W1.heap.size W1 W → Calls Tryd.prog 15 #[.slice c.aa c.na c.ca, .slice c2.aa c2.na c2.ca] W fun e w' => e = .returned (.bool true) ∧ Below W.heap.size W w') := fun W hW => (same_any ((h.below b1).below hW).al ((h2.below b1).below hW).al (by rw [List.length_map]; unfold maxLen; omega)).mono fun e w' ⟨h1, h2⟩ => ⟨by rw [h1, decide_eq_true rfl], h2⟩
  have HG : Hid (∀ k x, d.gr[k]? = some x → ∃ b off b' off', c.ag = some ⟨b, off, none⟩ ∧ c2.ag = some ⟨b', off', none⟩ ∧ ∀ W, Below w.heap.size w W → (W.cell? ⟨b, off + k * 2, none⟩ = some (.string (bs x.user)) ∧ W.cell? ⟨b, off + k * 2 + 1, none⟩ = some (.int .i64 x.who)) ∧ (W.cell? ⟨b', off' + k * 2, none⟩ = some (.string (bs x.user)) ∧ W.cell? ⟨b', off' + k * 2 + 1, none⟩ = some (.int .i64 x.who))) := fun k x hk => by
    obtain ⟨ag, cg, e0, hc⟩ := h.gr
    obtain ⟨ag', cg', e0', hc'⟩ := h2.gr
    injection e0 with e1 e2 e3
    injection e0' with e1' e2' e3'
    have hne : d.gr ≠ [] := by intro e; rw [e] at hk; simp at hk
    obtain ⟨b, off, e, hlt, hh⟩ := hc hne
    obtain ⟨b', off', e', hlt', hh'⟩ := hc' hne
    exact ⟨b, off, b', off', e1.trans e, e1'.trans e', fun W hB => ⟨⟨(hB.cell (p := ⟨b, off + k * 2, none⟩) hlt).trans (hh k x hk).1, (hB.cell (p := ⟨b, off + k * 2 + 1, none⟩) hlt).trans (hh k x hk).2⟩, (hB.cell (p := ⟨b', off' + k * 2, none⟩) hlt').trans (hh' k x hk).1, (hB.cell (p := ⟨b', off' + k * 2 + 1, none⟩) hlt').trans (hh' k x hk).2⟩⟩
  have HI : Hid (∀ k x, d.ks[k]? = some x → ∃ b off b' off', c.ak = some ⟨b, off, none⟩ ∧ c2.ak = some ⟨b', off', none⟩ ∧ ∀ W, Below w.heap.size w W → W.cell? ⟨b, off + k, none⟩ = some (.int .i64 x) ∧ W.cell? ⟨b', off' + k, none⟩ = some (.int .i64 x)) := fun k x hk => by
    obtain ⟨ag, cg, e0, hc⟩ := h.ks
    obtain ⟨ag', cg', e0', hc'⟩ := h2.ks
    injection e0 with e1 e2 e3
    injection e0' with e1' e2' e3'
    have hne : d.ks ≠ [] := by intro e; rw [e] at hk; simp at hk
    obtain ⟨b, off, e, hlt, hh⟩ := hc hne
    obtain ⟨b', off', e', hlt', hh'⟩ := hc' hne
    exact ⟨b, off, b', off', e1.trans e, e1'.trans e', fun W hB => ⟨(hB.cell (p := ⟨b, off + k, none⟩) hlt).trans (hh k x hk), (hB.cell (p := ⟨b', off' + k, none⟩) hlt').trans (hh' k x hk)⟩⟩
  have HGg : Hid (∀ j : Nat, j < d.gr.length → ∃ x, d.gr[j]? = some x) := fun j hj => ⟨_, List.getElem?_eq_getElem hj⟩
  have HGk : Hid (∀ j : Nat, j < d.ks.length → ∃ x, d.ks[j]? = some x) := fun j hj => ⟨_, List.getElem?_eq_getElem hj⟩
  have HB1 := Lib.hid b1
  have BR : Hid (Below W1.heap.size W1 W1) := Below.refl _ _
  have q3 := threeEq25 (c.w0 : Int) (c.w1 : Int) (c.w2 : Int) (c.w0 : Int) (c.w1 : Int) (c.w2 : Int)
  have e3 : (((c.w0 : Int) == (c.w0 : Int)) && (((c.w1 : Int) == (c.w1 : Int)) && ((c.w2 : Int) == (c.w2 : Int)))) = true := by simp
  rw [e3] at q3
  have mg : d.gr.length ≤ 1000 := hgr
  have mk : d.ks.length ≤ 1000 := hks
  clear h h2 b1 hX hZ hX' hZ' n1 n2 n3 n4 a1 a2 a3 a4 a5 a6 a7 a8 a9 a10 a11 a12 r1 r2 hl hal hgr hks e3
  generalize d.gr.length = ng at *
  generalize d.ks.length = nk at *
  go_enter Tryd.func24, Tryd.ntmps24
  go_upto_region 1 with fail
  rw [← hW1.out]
  obtain ⟨y0_0, y0_1, y0_2, y0_12, y0_14, y0_15, y0_16, y0_18, y0_19, y0_20, y0_21, y0_22, y1_0, y1_1, y1_2, y1_12, y1_14, y1_15, y1_16, y1_18, y1_19, y1_20, y1_21, y1_22⟩ := HA.out _ BR.out
  go_upto_region 3 with fail
  clear y0_0 y0_1 y0_2 y0_12 y0_14 y0_15 y0_16 y0_18 y0_19 y0_20 y0_21 y0_22 y1_0 y1_1 y1_2 y1_12 y1_14 y1_15 y1_16 y1_18 y1_19 y1_20 y1_21 y1_22 q3
  obtain ⟨z0_3, z0_4, z0_5, z0_6, z0_7, z0_8, z0_9, z0_10, z0_11, z0_13, z0_17, z1_3, z1_4, z1_5, z1_6, z1_7, z1_8, z1_9, z1_10, z1_11, z1_13, z1_17⟩ := HBc.out _ BR.out
  go_upto_region 5 with (first
    | (go_at_call 38; (with_reducible refine (HP.out _ BR.out).mono ?_); rintro e w2 ⟨rfl, b2⟩; have B2 := Lib.hid b2; clear b2 z0_3 z0_4 z0_5 z0_6 z0_7 z0_8 z0_9 z0_10 z0_11 z0_13 z0_17 z1_3 z1_4 z1_5 z1_6 z1_7 z1_8 z1_9 z1_10 z1_11 z1_13 z1_17; obtain ⟨z0_3, z0_4, z0_5, z0_6, z0_7, z0_8, z0_9, z0_10, z0_11, z0_13, z0_17, z1_3, z1_4, z1_5, z1_6, z1_7, z1_8, z1_9, z1_10, z1_11, z1_13, z1_17⟩ := HBc.out _ B2.out)
    | (go_at_call 15; (with_reducible refine (HS4.out _ B2.out).mono ?_); rintro e w3 ⟨rfl, b3⟩; have B3 := Lib.hid (B2.out.trans (b3.mono B2.out.size)); clear b3 z0_3 z0_4 z0_5 z0_6 z0_7 z0_8 z0_9 z0_10 z0_11 z0_13 z0_17 z1_3 z1_4 z1_5 z1_6 z1_7 z1_8 z1_9 z1_10 z1_11 z1_13 z1_17; obtain ⟨z0_3, z0_4, z0_5, z0_6, z0_7, z0_8, z0_9, z0_10, z0_11, z0_13, z0_17, z1_3, z1_4, z1_5, z1_6, z1_7, z1_8, z1_9, z1_10, z1_11, z1_13, z1_17⟩ := HBc.out _ B3.out))
  clear z0_3 z0_4 z0_5 z0_6 z0_7 z0_8 z0_9 z0_10 z0_11 z0_13 z0_17 z1_3 z1_4 z1_5 z1_6 z1_7 z1_8 z1_9 z1_10 z1_11 z1_13 z1_17
  go_wp2_with fail
  go_loopw [5] (fun v wr => ∃ k : Nat, k ≤ ng ∧ v = .int .i64 (k : Int) ∧ Below W1.heap.size W1 wr) (fun v _ => ng - (intOf v).toNat)
  case atStart => exact ⟨0, by omega, rfl, B3.out⟩
  case round =>
    obtain ⟨k, hk, rfl, hbk⟩ := hrel
    obtain ⟨z0_3, z0_4, z0_5, z0_6, z0_7, z0_8, z0_9, z0_10, z0_11, z0_13, z0_17, z1_3, z1_4, z1_5, z1_6, z1_7, z1_8, z1_9, z1_10, z1_11, z1_13, z1_17⟩ := HBc.out _ hbk
    by_cases hlt : k < ng
    · have qk : decide ((k : Int) < (ng : Int)) = true := decide_eq_true (by omega)
      obtain ⟨x, hx⟩ := HGg.out k hlt
      obtain ⟨b, off, b', off', e1, e2, hcell⟩ := HG.out k x hx
      obtain ⟨⟨x1, x2⟩, x3, x4⟩ := hcell _ (HB1.out.trans (hbk.mono HB1.out.size))
      have hlo : (0 : Int) ≤ (k : Int) := by omega
      have hhi : (k : Int) < (ng : Int) := by omega
      rw [e1] at z0_13
      rw [e2] at z1_13
      have HBk := Lib.hid hbk
      clear e1 e2 hcell hx hbk
      generalize bs x.user = U at *
      have qU : (U.toList == U.toList) = true := by simp
      go_wp2_with fail
      go_quiet (fail)
      have hbd := below_drewN25 HBk.out nq
      go_wp2_with fail
      go_roundw
      case rel => exact ⟨k + 1, by omega, by go_num, hbd⟩
      case measure => simp [intOf]; omega
    · have qk : decide ((k : Int) < (ng : Int)) = false := decide_eq_false (by omega)
      have B4 := Lib.hid hbk
      clear hbk
      go_wp2_with fail
      clear z0_3 z0_4 z0_5 z0_6 z0_7 z0_8 z0_9 z0_10 z0_11 z0_13 z0_17 z1_3 z1_4 z1_5 z1_6 z1_7 z1_8 z1_9 z1_10 z1_11 z1_13 z1_17
      go_loopw [6] (fun v wr => ∃ j : Nat, j ≤ nk ∧ v = .int .i64 (j : Int) ∧ Below W1.heap.size W1 wr) (fun v _ => nk - (intOf v).toNat)
      case atStart => exact ⟨0, by omega, rfl, B4.out⟩
      case round =>
        obtain ⟨j, hj, rfl, hbk⟩ := hrel
        obtain ⟨z0_3, z0_4, z0_5, z0_6, z0_7, z0_8, z0_9, z0_10, z0_11, z0_13, z0_17, z1_3, z1_4, z1_5, z1_6, z1_7, z1_8, z1_9, z1_10, z1_11, z1_13, z1_17⟩ := HBc.out _ hbk
        by_cases hlt : j < nk
        · have qk2 : decide ((j : Int) < (nk : Int)) = true := decide_eq_true (by omega)
          obtain ⟨x, hx⟩ := HGk.out j hlt
          obtain ⟨b, off, b', off', e1, e2, hcell⟩ := HI.out j x hx
          obtain ⟨x1, x3⟩ := hcell _ (HB1.out.trans (hbk.mono HB1.out.size))
          have hlo : (0 : Int) ≤ (j : Int) := by omega
          have hhi : (j : Int) < (nk : Int) := by omega
          rw [e1] at z0_17
          rw [e2] at z1_17
          have HBk := Lib.hid hbk
          clear e1 e2 hcell hx hbk
          go_wp2_with fail
          go_quiet (fail)
          have hbd := below_drewN25 HBk.out nq
          go_wp2_with fail
          go_roundw
          case rel => exact ⟨j + 1, by omega, by go_num, hbd⟩
          case measure => simp [intOf]; omega
        · have qk2 : decide ((j : Int) < (nk : Int)) = false := decide_eq_false (by omega)
          have B5 := Lib.hid hbk
          clear hbk
          go_wp2_with fail
          go_ret
          exact ⟨rfl, HB1.out.trans (B5.out.mono HB1.out.size)⟩
end Go.Proofs.YtgoinpibllomfaaDoor
