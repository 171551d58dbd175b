/- Part 29 of what the statement wants. -/
import Derived.Deep.RegionHeld3
import Derived.Deep.CutRange
import Derived.BigQuiet
import Derived.Test.YtobhpclemmhpoaaGreatDoorPk26
import Derived.Test.YtobhpclemmhpoaaGreatDoorPk27
import Derived.Test.YtobhpclemmhpoaaGreatDoorPk28
namespace Go.Proofs.YtobhpclemmhpoaaGreatDoor
open Go.RowKit

theorem moves_row20 (w : World) (g : Nat) (cs : Array Value) : Moves (fun i => i = g) w (w.setRow g cs) :=
  ⟨rfl, rfl, rfl, by simp, fun k _ hk => setRow_other w g k cs hk⟩
theorem ta_row20 {B A n : Nat} {w0 W : World} {P : List (Int × List UInt8)} (h : Ta B w0 A P n W) {b : Nat} {t : TypeId} {cs : Array Value} (hh : Holds W b t cs) (h1 : t ≠ 66) (h2 : t ≠ 90) (hb : B ≤ b) (R : Array Value) : Ta B w0 A P n (W.setRow b R) := by
  obtain ⟨⟨L, F, ha, h3⟩, h4⟩ := h
  have hn := arena_ne ha hh h1 h2
  have m := moves_row20 W b R
  have := ha.lt A ha.self
  exact ⟨⟨L, F, ha.moves m (fun k hk e => hn (e ▸ hk)), h3⟩, h4.trans (m.below (by omega) (fun i e => by rw [e]; exact hb))⟩
/-- What stands behind the parts: both boxes. -/
def TCut (W0 : World) (A : Nat) (v0 v1 v2 v3 gp gg : List UInt8) (asks : Bool) (a0 a1 a2 : Nat) (y z : Value) (W : World) : Prop :=
  ∃ (p0 p1 p2 p3 : Int) (P0 P1 P2 P3 : List UInt8) (b c : Nat), y = .pointer (some ⟨b, 0, none⟩) ∧ z = .pointer (some ⟨c, 0, none⟩) ∧ Ta W0.heap.size W0 A [(p0, P0), (p1, P1), (p2, P2), (p3, P3)] 15 W ∧ Holds W b 38 #[.string (bs v0), .string (bs v1), .string (bs v2), .string (bs v3), .int .i64 p0, .bool asks, .int .u32 (a0 : Int), .int .u32 (a1 : Int), .int .u32 (a2 : Int), .string (bs gp), .string (bs gg), .int .i64 p1, .int .i64 p2, .int .i64 p3] ∧ Holds W c 41 #[.string (bs v0), .string (bs v1), .string (bs v2), .string (bs v3), .string (bs P0), .bool asks, .int .i64 (a0 : Int), .int .i64 (a1 : Int), .int .i64 (a2 : Int), .string (bs gp), .string (bs gg), .string (bs P1), .string (bs P2), .string (bs P3)]
theorem TCut.mk {W0 W : World} {A n : Nat} {v0 v1 v2 v3 gp gg : List UInt8} {asks : Bool} {a0 a1 a2 : Nat} {L : List (Int × List UInt8)} {p0 p1 p2 p3 : Int} {P0 P1 P2 P3 : List UInt8} {b c : Nat} (h : Ta W0.heap.size W0 A L n W) (hn : n ≤ 15) (m0 : (p0, P0) ∈ L ∨ (p0, P0) = (-1, [])) (m1 : (p1, P1) ∈ L ∨ (p1, P1) = (-1, [])) (m2 : (p2, P2) ∈ L ∨ (p2, P2) = (-1, [])) (m3 : (p3, P3) ∈ L ∨ (p3, P3) = (-1, []))
    (hp : Holds W b 38 #[.string (bs v0), .string (bs v1), .string (bs v2), .string (bs v3), .int .i64 p0, .bool asks, .int .u32 (a0 : Int), .int .u32 (a1 : Int), .int .u32 (a2 : Int), .string (bs gp), .string (bs gg), .int .i64 p1, .int .i64 p2, .int .i64 p3]) (hq : Holds W c 41 #[.string (bs v0), .string (bs v1), .string (bs v2), .string (bs v3), .string (bs P0), .bool asks, .int .i64 (a0 : Int), .int .i64 (a1 : Int), .int .i64 (a2 : Int), .string (bs gp), .string (bs gg), .string (bs P1), .string (bs P2), .string (bs P3)]) : TCut W0 A v0 v1 v2 v3 gp gg asks a0 a1 a2 (.pointer (some ⟨b, 0, none⟩)) (.pointer (some ⟨c, 0, none⟩)) W :=
  ⟨p0, p1, p2, p3, P0, P1, P2, P3, b, c, rfl, rfl, ((((h.cons m3).cons (m2.imp_left (.tail _))).cons (m1.imp_left fun h => .tail _ (.tail _ h))).cons (m0.imp_left fun h => .tail _ (.tail _ (.tail _ h)))).mono hn (fun p hp => by
    simp only [List.mem_cons, List.not_mem_nil, or_false] at hp
    rcases hp with rfl | rfl | rfl | rfl
    · exact .head _
    · exact .tail _ (.head _)
    · exact .tail _ (.tail _ (.head _))
    · exact .tail _ (.tail _ (.tail _ (.head _)))), hp, hq⟩
set_option maxHeartbeats 16000000 in
set_option maxRecDepth 100000 in
theorem TransHashes_small {w : World} {v : Value} {l : List MakeR} (hM : MakesAt w v l) (hl : l.length ≤ 15) (hs : ∀ x ∈ l, x.s.length ≤ 200) (v0 v1 v2 v3 gp gg : List UInt8) (hv : v0.length ≤ 300 ∧ v1.length ≤ 300 ∧ v2.length ≤ 300 ∧ v3.length ≤ 300) (hp : gp.length ≤ 300) (hg : gg.length ≤ 300) (x0 x1 x2 x3 : Int) (asks : Bool) (a0 a1 a2 : Nat) (h0 : a0 < 4294967296) (h1 : a1 < 4294967296) (h2 : a2 < 4294967296) :
    Calls Tryz.prog 3 #[v, .agg #[.string (bs v0), .string (bs v1), .string (bs v2), .string (bs v3), .int .i64 x0, .int .i64 x1, .int .i64 x2, .int .i64 x3, .bool asks, .int .u32 (a0 : Int), .int .u32 (a1 : Int), .int .u32 (a2 : Int), .string (bs gp), .string (bs gg)]] w fun e w' => e = .returned (.bool true) ∧ Below w.heap.size w w' := by
  have hfew : fewP l 15 = true := decide_eq_true ⟨by omega, hs⟩
  have b0 : Below w.heap.size w (w.alloc (.cells #[.string (bs v0), .string (bs v1), .string (bs v2), .string (bs v3), .int .i64 x0, .int .i64 x1, .int .i64 x2, .int .i64 x3, .bool asks, .int .u32 (a0 : Int), .int .u32 (a1 : Int), .int .u32 (a2 : Int), .string (bs gp), .string (bs gg)] 30)) := (Below.refl _ _).alloc (Nat.le_refl _) _
  have hX : Holds (w.alloc (.cells #[.string (bs v0), .string (bs v1), .string (bs v2), .string (bs v3), .int .i64 x0, .int .i64 x1, .int .i64 x2, .int .i64 x3, .bool asks, .int .u32 (a0 : Int), .int .u32 (a1 : Int), .int .u32 (a2 : Int), .string (bs gp), .string (bs gg)] 30)) w.heap.size 30 #[.string (bs v0), .string (bs v1), .string (bs v2), .string (bs v3), .int .i64 x0, .int .i64 x1, .int .i64 x2, .int .i64 x3, .bool asks, .int .u32 (a0 : Int), .int .u32 (a1 : Int), .int .u32 (a2 : Int), .string (bs gp), .string (bs gg)] := Holds.new w _ _
  obtain ⟨W0, hW0⟩ : ∃ W0, Hid (W0 = (w.alloc (.cells #[.string (bs v0), .string (bs v1), .string (bs v2), .string (bs v3), .int .i64 x0, .int .i64 x1, .int .i64 x2, .int .i64 x3, .bool asks, .int .u32 (a0 : Int), .int .u32 (a1 : Int), .int .u32 (a2 : Int), .string (bs gp), .string (bs gg)] 30))) := ⟨_, Lib.hid rfl⟩
  rw [← hW0.out] at b0 hX
  have hM0 := makes_below20 hM b0
  have HFw := few_any hM0 15 (fun x hx => by have := hs x hx; omega) (by omega)
  rw [hfew] at HFw
  have HFw := Lib.hid HFw
  have hf : few20B (bs v0) (bs v1) (bs v2) (bs v3) (bs gp) (bs gg) = true := decide_eq_true (by simp only [bs_size]; omega)
  have hF2 := fun W => few20_any (bs v0) (bs v1) (bs v2) (bs v3) (bs gp) (bs gg) x0 x1 x2 x3 (a0 : Int) (a1 : Int) (a2 : Int) asks W
  rw [hf] at hF2
  have HF2 := Lib.hid hF2
  have HN : Hid (∀ W, Below W0.heap.size W0 W → Calls Tryz.prog 8 #[] W fun e w' => ∃ A, e = .returned (.pointer (some ⟨A, 0, none⟩)) ∧ Ta W0.heap.size W0 A [] 0 w') := fun W hb => (taNew W).mono fun e w' ⟨A, h1, h2⟩ => ⟨A, h1, ta_down20 hb h2⟩
  have HMk : Hid (∀ (A : Nat) (W : World), Ta W0.heap.size W0 A [] 0 W → Calls Tryz.prog 10 #[.pointer (some ⟨A, 0, none⟩), v] W fun e w' => ∃ (ids : List Int) (texts : List (List UInt8)) (ai : Option Addr) (ci : Nat) (at' : Option Addr) (ct : Nat), e = .returned (.agg #[.slice ai l.length ci, .slice at' l.length ct]) ∧
      (ids.length = l.length ∧ texts.length = l.length) ∧ IdsAt w' (.slice ai l.length ci) ids ∧ TextsAt w' (.slice at' l.length ct) (texts.map bs) ∧ Ta W0.heap.size W0 A (ids.zip texts) l.length w' ∧ Kept W w') := fun A W h => taMakesK20 hM0 (Below.refl _ _) (Nat.le_refl _) h (by omega) (fun x hx => by have := hs x hx; omega)
  have HPt : Hid (∀ (W : World) (ids : List Int) (texts : List (List UInt8)) (ai : Option Addr) (ci : Nat) (at' : Option Addr) (ct : Nat), (ids.length = l.length ∧ texts.length = l.length) → IdsAt W (.slice ai l.length ci) ids → TextsAt W (.slice at' l.length ct) (texts.map bs) → ∃ (p0 p1 p2 p3 : Int) (P0 P1 P2 P3 : List UInt8), ((p0, P0) ∈ ids.zip texts ∨ (p0, P0) = (-1, [])) ∧ ((p1, P1) ∈ ids.zip texts ∨ (p1, P1) = (-1, [])) ∧ ((p2, P2) ∈ ids.zip texts ∨ (p2, P2) = (-1, [])) ∧ ((p3, P3) ∈ ids.zip texts ∨ (p3, P3) = (-1, [])) ∧
      Calls Tryz.prog 9 #[.agg #[.string (bs v0), .string (bs v1), .string (bs v2), .string (bs v3), .int .i64 x0, .int .i64 x1, .int .i64 x2, .int .i64 x3, .bool asks, .int .u32 (a0 : Int), .int .u32 (a1 : Int), .int .u32 (a2 : Int), .string (bs gp), .string (bs gg)], .agg #[.slice ai l.length ci, .slice at' l.length ct]] W fun e w' => e = .returned (.tuple #[.agg #[.string (bs v0), .string (bs v1), .string (bs v2), .string (bs v3), .int .i64 p0, .bool asks, .int .u32 (a0 : Int), .int .u32 (a1 : Int), .int .u32 (a2 : Int), .string (bs gp), .string (bs gg), .int .i64 p1, .int .i64 p2, .int .i64 p3], .agg #[.string (bs v0), .string (bs v1), .string (bs v2), .string (bs v3), .string (bs P0), .bool asks, .int .i64 (a0 : Int), .int .i64 (a1 : Int), .int .i64 (a2 : Int), .string (bs gp), .string (bs gg), .string (bs P1), .string (bs P2), .string (bs P3)]]) ∧ Below W.heap.size W w') := fun W ids texts ai ci at' ct hln hI hT => by
    have hln' : ids.length = texts.length := by omega
    exact ⟨_, _, _, _, _, _, _, _, pick_in hln' x0, pick_in hln' x1, pick_in hln' x2, pick_in hln' x3, rawParts_any hI hT hln (by omega) (bs v0) (bs v1) (bs v2) (bs v3) (bs gp) (bs gg) x0 x1 x2 x3 asks a0 a1 a2 h0 h1 h2 rfl rfl rfl rfl⟩
  obtain ⟨ao0, cap0, rfl, _⟩ := id hM0
  have HC : Hid (∀ W, Below W0.heap.size W0 W → W.cell? ⟨w.heap.size, 0, none⟩ = some (.string (bs v0)) ∧ W.cell? ⟨w.heap.size, 1, none⟩ = some (.string (bs v1)) ∧ W.cell? ⟨w.heap.size, 2, none⟩ = some (.string (bs v2)) ∧ W.cell? ⟨w.heap.size, 3, none⟩ = some (.string (bs v3)) ∧ W.cell? ⟨w.heap.size, 4, none⟩ = some (.int .i64 x0) ∧ W.cell? ⟨w.heap.size, 5, none⟩ = some (.int .i64 x1) ∧ W.cell? ⟨w.heap.size, 6, none⟩ = some (.int .i64 x2) ∧ W.cell? ⟨w.heap.size, 7, none⟩ = some (.int .i64 x3) ∧ W.cell? ⟨w.heap.size, 8, none⟩ = some (.bool asks) ∧ W.cell? ⟨w.heap.size, 9, none⟩ = some (.int .u32 (a0 : Int)) ∧ W.cell? ⟨w.heap.size, 10, none⟩ = some (.int .u32 (a1 : Int)) ∧ W.cell? ⟨w.heap.size, 11, none⟩ = some (.int .u32 (a2 : Int)) ∧ W.cell? ⟨w.heap.size, 12, none⟩ = some (.string (bs gp)) ∧ W.cell? ⟨w.heap.size, 13, none⟩ = some (.string (bs gg))) := fun W hb => by
    have h := (Kept.ofBelow hb).hold _ _ _ (by decide) (by decide) hX
    exact ⟨h.cell 0, h.cell 1, h.cell 2, h.cell 3, h.cell 4, h.cell 5, h.cell 6, h.cell 7, h.cell 8, h.cell 9, h.cell 10, h.cell 11, h.cell 12, h.cell 13⟩
  obtain ⟨y0, y1, y2, y3, y4, y5, y6, y7, y8, y9, y10, y11, y12, y13⟩ := HC.out W0 (Below.refl _ _)
  have HB0 := Lib.hid b0
  have HL : Hid (∀ (p0 p1 p2 p3 : Int) (P0 P1 P2 P3 : List UInt8) (A : Nat) (W : World), Ta W0.heap.size W0 A [(p0, P0), (p1, P1), (p2, P2), (p3, P3)] 15 W → Calls Tryz.prog 12 #[.pointer (some ⟨A, 0, none⟩), .agg #[.string (bs v0), .string (bs v1), .string (bs v2), .string (bs v3), .int .i64 p0, .bool asks, .int .u32 (a0 : Int), .int .u32 (a1 : Int), .int .u32 (a2 : Int), .string (bs gp), .string (bs gg), .int .i64 p1, .int .i64 p2, .int .i64 p3]] W (TaPost W0.heap.size W0 A [(p0, P0), (p1, P1), (p2, P2), (p3, P3)] 25 W (refListL (listL20 [v0, v1, v2, v3] P0 asks (askL a0 a1 a2 gp gg) P1 P2 P3)))) := fun p0 p1 p2 p3 P0 P1 P2 P3 A W h => xList_any h (by omega) v0 v1 v2 v3 (by omega) asks p0 p1 p2 p3 a0 a1 a2 h0 h1 h2 gp gg (by omega) (by omega) (.head _) (.tail _ (.head _)) (.tail _ (.tail _ (.head _))) (.tail _ (.tail _ (.tail _ (.head _))))
  have HH : Hid (∀ (p0 p1 p2 p3 i : Int) (P0 P1 P2 P3 T : List UInt8) (A : Nat) (W : World), Ta W0.heap.size W0 A [(i, T), (p0, P0), (p1, P1), (p2, P2), (p3, P3)] 25 W → Calls Tryz.prog 14 #[.pointer (some ⟨A, 0, none⟩), .agg #[.string (bs v0), .string (bs v1), .string (bs v2), .string (bs v3), .int .i64 p0, .bool asks, .int .u32 (a0 : Int), .int .u32 (a1 : Int), .int .u32 (a2 : Int), .string (bs gp), .string (bs gg), .int .i64 p1, .int .i64 p2, .int .i64 p3]] W (TaPost W0.heap.size W0 A [(i, T), (p0, P0), (p1, P1), (p2, P2), (p3, P3)] 36 W (refHashL (refListL (listL20 [v0, v1, v2, v3] P0 asks (askL a0 a1 a2 gp gg) P1 P2 P3))))) := fun p0 p1 p2 p3 i P0 P1 P2 P3 T A W h => xHash_any h (by omega) v0 v1 v2 v3 (by omega) asks p0 p1 p2 p3 a0 a1 a2 h0 h1 h2 gp gg (by omega) (by omega) (.tail _ (.head _)) (.tail _ (.tail _ (.head _))) (.tail _ (.tail _ (.tail _ (.head _)))) (.tail _ (.tail _ (.tail _ (.tail _ (.head _)))))
  have HRL : Hid (∀ (P0 P1 P2 P3 : List UInt8), (P0.length ≤ 131072 ∧ P1.length ≤ 131072 ∧ P2.length ≤ 131072 ∧ P3.length ≤ 131072) → (∀ W, Calls Tryz.prog 13 #[.agg #[.string (bs v0), .string (bs v1), .string (bs v2), .string (bs v3), .string (bs P0), .bool asks, .int .i64 (a0 : Int), .int .i64 (a1 : Int), .int .i64 (a2 : Int), .string (bs gp), .string (bs gg), .string (bs P1), .string (bs P2), .string (bs P3)]] W fun e w' => e = .returned (.string (bs (refListL (listL20 [v0, v1, v2, v3] P0 asks (askL a0 a1 a2 gp gg) P1 P2 P3)))) ∧ Below W.heap.size W w') ∧ ∀ W, Calls Tryz.prog 15 #[.agg #[.string (bs v0), .string (bs v1), .string (bs v2), .string (bs v3), .string (bs P0), .bool asks, .int .i64 (a0 : Int), .int .i64 (a1 : Int), .int .i64 (a2 : Int), .string (bs gp), .string (bs gg), .string (bs P1), .string (bs P2), .string (bs P3)]] W fun e w' => e = .returned (.string (bs (refHashL (refListL (listL20 [v0, v1, v2, v3] P0 asks (askL a0 a1 a2 gp gg) P1 P2 P3))))) ∧ Below W.heap.size W w') := fun P0 P1 P2 P3 ht => ⟨fun W => by
    cases asks
    · exact r20List_false v0 v1 v2 v3 P0 P1 P2 P3 gp gg (by omega) ht (by omega) (by omega) a0 a1 a2 h0 h1 h2 W
    · exact r20List_true v0 v1 v2 v3 P0 P1 P2 P3 gp gg (by omega) ht (by omega) (by omega) a0 a1 a2 h0 h1 h2 W, fun W => r20Hash_any asks v0 v1 v2 v3 P0 P1 P2 P3 gp gg (by omega) ht (by omega) (by omega) a0 a1 a2 h0 h1 h2 W⟩
  clear hM hM0 hs hfew b0 hF2 hX hf hv hp hg h0 h1 h2
  go_enter Tryz.func3, Tryz.ntmps3
  go_upto_region 4 with (first
    | (go_at_call 5; rw [← hW0.out]; (with_reducible refine HFw.out.mono ?_); rintro e w' ⟨rfl, hw⟩; have hw := hw.symm; subst hw)
    | (go_at_call 6; (with_reducible refine (HF2.out _).mono ?_); rintro e w3 ⟨rfl, b3⟩)
    | (go_at_call 8; (with_reducible refine (HN.out _ b3).mono ?_); rintro e w1 ⟨A, rfl, t1⟩))
  clear y0 y1 y2 y3 y4 y5 y6 y7 y8 y9 y10 y11 y12 y13 HFw HF2 HN b3
  go_cut [6, 7] from 18 to 25 (fun y z wc => TCut W0 A v0 v1 v2 v3 gp gg asks a0 a1 a2 y z wc)
  case first =>
     clear HL HH HRL HB0 hW0
     have tt0 := t1.drew
     clear t1
     refine wp_region_held_drew (S := fun W => W.cell? ⟨w.heap.size, 0, none⟩ = some (.string (bs v0)) ∧ W.cell? ⟨w.heap.size, 1, none⟩ = some (.string (bs v1)) ∧ W.cell? ⟨w.heap.size, 2, none⟩ = some (.string (bs v2)) ∧ W.cell? ⟨w.heap.size, 3, none⟩ = some (.string (bs v3)) ∧ W.cell? ⟨w.heap.size, 4, none⟩ = some (.int .i64 x0) ∧ W.cell? ⟨w.heap.size, 5, none⟩ = some (.int .i64 x1) ∧ W.cell? ⟨w.heap.size, 6, none⟩ = some (.int .i64 x2) ∧ W.cell? ⟨w.heap.size, 7, none⟩ = some (.int .i64 x3) ∧ W.cell? ⟨w.heap.size, 8, none⟩ = some (.bool asks) ∧ W.cell? ⟨w.heap.size, 9, none⟩ = some (.int .u32 (a0 : Int)) ∧ W.cell? ⟨w.heap.size, 10, none⟩ = some (.int .u32 (a1 : Int)) ∧ W.cell? ⟨w.heap.size, 11, none⟩ = some (.int .u32 (a2 : Int)) ∧ W.cell? ⟨w.heap.size, 12, none⟩ = some (.string (bs gp)) ∧ W.cell? ⟨w.heap.size, 13, none⟩ = some (.string (bs gg))) (by kernel_rfl) ?_ (fun hHeld => ?_)
     · exact HC.out _ tt0.bel
     generalize World.drew w1 = V0 at *
     refine wpAnyH_take (i := 0) (oi := { dst := some 19, op := Op.load 30 (Operand.tmp 3), type := 30, pos := "law.go:64", after := #[], guard := none }) (v := ?_) rfl (by kernel_rfl) (by kernel_rfl) (by kernel_rfl) (fun _ _ _ h => h) (Or.inl ⟨by rfl, ?_⟩) (by assumption) ?_
     rotate_left 1
     · (intro w hSw; (try dsimp only at hSw); go_simp; (try with_reducible rfl))
     try simp only [Act.put, List.setIfInBounds_toArray, List.set_cons_zero, List.set_cons_succ]
     refine wpAnyH_take (i := 1) (oi := { dst := some 20, op := Op.move (Operand.tmp 5), type := 34, pos := "law.go:64", after := #[], guard := none }) (v := ?_) rfl (by kernel_rfl) (by kernel_rfl) (by kernel_rfl) (fun _ _ _ h => h) (Or.inl ⟨by rfl, ?_⟩) (by assumption) ?_
     rotate_left 1
     · (intro w hSw; (try dsimp only at hSw); go_simp; (try with_reducible rfl))
     try simp only [Act.put, List.setIfInBounds_toArray, List.set_cons_zero, List.set_cons_succ]
     refine wpAnyH_take (i := 2) (oi := { dst := some 21, op := Op.move (Operand.tmp 0), type := 22, pos := "law.go:64", after := #[], guard := none }) (v := ?_) rfl (by kernel_rfl) (by kernel_rfl) (by kernel_rfl) (fun _ _ _ h => h) (Or.inl ⟨by rfl, ?_⟩) (by assumption) ?_
     rotate_left 1
     · (intro w hSw; (try dsimp only at hSw); go_simp; (try with_reducible rfl))
     try simp only [Act.put, List.setIfInBounds_toArray, List.set_cons_zero, List.set_cons_succ]
     refine wpAnyH_ready (rs := [3, 8, 9]) (by kernel_rfl) (by simp) ?_
     refine AllReadyH.cons (o := { dst := some 22, op := Op.call { callee := Callee.value (Operand.func 10), args := #[Operand.tmp 20, Operand.tmp 21], argTypes := #[34, 22] }, type := 47, pos := "law.go:64", after := #[{ on := 1, ground := Ground.data }, { on := 2, ground := Ground.data }], guard := none }) rfl (fun K hK => ?_) ?_
     · go_simp
       go_at_call 10
       with_reducible refine (HMk.out _ _ tt0).mono ?_
       rintro e V1 ⟨ids, texts, ai, ci, at', ct, rfl, hln, hI1, hT1, tt1, kp⟩
       go_wp2_with fail
       refine hK.out _ _ ?_ (fun hHeld => ?_)
       · exact HC.out _ tt1.bel
       clear hK K
       try simp only [Act.put, List.setIfInBounds_toArray, List.set_cons_zero, List.set_cons_succ]
       clear kp tt0
       refine wpAnyH_ready (rs := [4, 8, 9]) (by kernel_rfl) (by simp) ?_
       refine AllReadyH.cons (o := { dst := some 23, op := Op.call { callee := Callee.value (Operand.func 9), args := #[Operand.tmp 19, Operand.tmp 22], argTypes := #[30, 47] }, type := 42, pos := "law.go:64", after := #[{ on := 0, ground := Ground.data }, { on := 3, ground := Ground.data }, { on := 3, ground := Ground.chain }], guard := none }) rfl (fun K hK => ?_) ?_
       · obtain ⟨p0, p1, p2, p3, P0, P1, P2, P3, hm0, hm1, hm2, hm3, hCp⟩ := HPt.out _ _ _ _ _ _ _ hln hI1 hT1
         have HCp := Lib.hid hCp
         clear hCp
         go_simp
         go_at_call 9
         with_reducible refine HCp.out.mono ?_
         rintro e V2 ⟨rfl, bb⟩
         have tt2 := tt1.below bb
         clear bb HCp tt1 hI1 hT1
         go_wp2_with fail
         refine hK.out _ _ ?_ (fun hHeld => ?_)
         · exact HC.out _ tt2.bel
         clear hK K
         try simp only [Act.put, List.setIfInBounds_toArray, List.set_cons_zero, List.set_cons_succ]
         refine wpAnyH_take (i := 5) (oi := { dst := some 18, op := Op.move (Operand.tmp 23), type := 42, pos := "law.go:64", after := #[{ on := 4, ground := Ground.data }], guard := none }) (v := ?_) rfl (by kernel_rfl) (by kernel_rfl) (by kernel_rfl) (fun _ _ _ h => h) (Or.inl ⟨by rfl, ?_⟩) (by assumption) ?_
         rotate_left 1
         · (intro w hSw; (try dsimp only at hSw); go_simp; (try with_reducible rfl))
         try simp only [Act.put, List.setIfInBounds_toArray, List.set_cons_zero, List.set_cons_succ]
         refine wpAnyH_take (i := 6) (oi := { dst := some 24, op := Op.extract (Operand.tmp 18) 0, type := 38, pos := "law.go:64", after := #[{ on := 5, ground := Ground.data }], guard := none }) (v := ?_) rfl (by kernel_rfl) (by kernel_rfl) (by kernel_rfl) (fun _ _ _ h => h) (Or.inl ⟨by rfl, ?_⟩) (by assumption) ?_
         rotate_left 1
         · (intro w hSw; (try dsimp only at hSw); go_simp; (try with_reducible rfl))
         try simp only [Act.put, List.setIfInBounds_toArray, List.set_cons_zero, List.set_cons_succ]
         refine wpAnyH_take (i := 7) (oi := { dst := some 25, op := Op.extract (Operand.tmp 18) 1, type := 41, pos := "law.go:64", after := #[{ on := 5, ground := Ground.data }, { on := 10, ground := Ground.gcOnly Departure.lateStores }], guard := none }) (v := ?_) rfl (by kernel_rfl) (by kernel_rfl) (by kernel_rfl) (fun _ _ _ h => h) (Or.inl ⟨by rfl, ?_⟩) (by assumption) ?_
         rotate_left 1
         · (intro w hSw; (try dsimp only at hSw); go_simp; (try with_reducible rfl))
         try simp only [Act.put, List.setIfInBounds_toArray, List.set_cons_zero, List.set_cons_succ]
         refine wpAnyH_ready (rs := [8, 9]) (by kernel_rfl) (by simp) ?_
         refine AllReadyH.cons (o := { dst := some 6, op := Op.alloc 38, type := 0, pos := "law.go:64", after := #[], guard := none }) rfl (fun K hK => ?_) ?_
         · go_simp
           have bb : Below V2.heap.size V2 (V2.alloc (.cells #[.string ⟨#[]⟩, .string ⟨#[]⟩, .string ⟨#[]⟩, .string ⟨#[]⟩, .int .i64 0, .bool false, .int .u32 0, .int .u32 0, .int .u32 0, .string ⟨#[]⟩, .string ⟨#[]⟩, .int .i64 0, .int .i64 0, .int .i64 0] 38)) := (Below.refl _ _).alloc (Nat.le_refl _) _
           have tt3 := tt2.below bb
           have hBb : W0.heap.size ≤ V2.heap.size := Nat.le_of_lt tt2.lt
           have zp3 := Holds.new V2 38 #[.string ⟨#[]⟩, .string ⟨#[]⟩, .string ⟨#[]⟩, .string ⟨#[]⟩, .int .i64 0, .bool false, .int .u32 0, .int .u32 0, .int .u32 0, .string ⟨#[]⟩, .string ⟨#[]⟩, .int .i64 0, .int .i64 0, .int .i64 0]
           clear bb tt2
           refine hK.out _ _ ?_ (fun hHeld => ?_)
           · exact HC.out _ tt3.bel
           clear hK K
           try simp only [Act.put, List.setIfInBounds_toArray, List.set_cons_zero, List.set_cons_succ]
           generalize V2.alloc (.cells #[.string ⟨#[]⟩, .string ⟨#[]⟩, .string ⟨#[]⟩, .string ⟨#[]⟩, .int .i64 0, .bool false, .int .u32 0, .int .u32 0, .int .u32 0, .string ⟨#[]⟩, .string ⟨#[]⟩, .int .i64 0, .int .i64 0, .int .i64 0] 38) = V3 at *
           generalize V2.heap.size = b at *
           refine wpAnyH_ready (rs := [9]) (by kernel_rfl) (by simp) ?_
           refine AllReadyH.cons (o := { dst := some 7, op := Op.alloc 41, type := 0, pos := "law.go:64", after := #[], guard := none }) rfl (fun K hK => ?_) ?_
           · go_simp
             have bb : Below V3.heap.size V3 (V3.alloc (.cells #[.string ⟨#[]⟩, .string ⟨#[]⟩, .string ⟨#[]⟩, .string ⟨#[]⟩, .string ⟨#[]⟩, .bool false, .int .i64 0, .int .i64 0, .int .i64 0, .string ⟨#[]⟩, .string ⟨#[]⟩, .string ⟨#[]⟩, .string ⟨#[]⟩, .string ⟨#[]⟩] 41)) := (Below.refl _ _).alloc (Nat.le_refl _) _
             have tt4 := tt3.below bb
             have hBc : W0.heap.size ≤ V3.heap.size := Nat.le_of_lt tt3.lt
             have hne : V3.heap.size ≠ b := fun e => by have := zp3.lt; omega
             have zp4 := (Kept.ofBelow bb).hold _ _ _ (by decide) (by decide) zp3
             have zq4 := Holds.new V3 41 #[.string ⟨#[]⟩, .string ⟨#[]⟩, .string ⟨#[]⟩, .string ⟨#[]⟩, .string ⟨#[]⟩, .bool false, .int .i64 0, .int .i64 0, .int .i64 0, .string ⟨#[]⟩, .string ⟨#[]⟩, .string ⟨#[]⟩, .string ⟨#[]⟩, .string ⟨#[]⟩]
             clear bb tt3 zp3
             refine hK.out _ _ ?_ (fun hHeld => ?_)
             · exact HC.out _ tt4.bel
             clear hK K
             try simp only [Act.put, List.setIfInBounds_toArray, List.set_cons_zero, List.set_cons_succ]
             generalize V3.alloc (.cells #[.string ⟨#[]⟩, .string ⟨#[]⟩, .string ⟨#[]⟩, .string ⟨#[]⟩, .string ⟨#[]⟩, .bool false, .int .i64 0, .int .i64 0, .int .i64 0, .string ⟨#[]⟩, .string ⟨#[]⟩, .string ⟨#[]⟩, .string ⟨#[]⟩, .string ⟨#[]⟩] 41) = V4 at *
             generalize V3.heap.size = c at *
             refine wpAnyH_ready (rs := [10]) (by kernel_rfl) (by simp) ?_
             refine AllReadyH.cons (o := { dst := none, op := Op.store 38 (Operand.tmp 6) (Operand.tmp 24), type := 0, pos := "law.go:64", after := #[{ on := 8, ground := Ground.data }, { on := 6, ground := Ground.data }, { on := 4, ground := Ground.chain }, { on := 0, ground := Ground.phase }, { on := 1, ground := Ground.phase }, { on := 2, ground := Ground.phase }, { on := 3, ground := Ground.phase }, { on := 4, ground := Ground.phase }, { on := 5, ground := Ground.phase }, { on := 6, ground := Ground.phase }, { on := 7, ground := Ground.textOnly Departure.lateStores }, { on := 8, ground := Ground.phase }, { on := 9, ground := Ground.phase }], guard := none }) rfl (fun K hK => ?_) ?_
             · refine step_store_row20 rfl 38 _ _ rfl b #[.string (bs v0), .string (bs v1), .string (bs v2), .string (bs v3), .int .i64 p0, .bool asks, .int .u32 (a0 : Int), .int .u32 (a1 : Int), .int .u32 (a2 : Int), .string (bs gp), .string (bs gg), .int .i64 p1, .int .i64 p2, .int .i64 p3] rfl rfl 38 #[.string ⟨#[]⟩, .string ⟨#[]⟩, .string ⟨#[]⟩, .string ⟨#[]⟩, .int .i64 0, .bool false, .int .u32 0, .int .u32 0, .int .u32 0, .string ⟨#[]⟩, .string ⟨#[]⟩, .int .i64 0, .int .i64 0, .int .i64 0] zp4 (by exact sizeXPT) (by rfl) (by simp [Value.oneCell']) ?_
               have tt5 := ta_row20 tt4 zp4 (by decide) (by decide) hBb #[.string (bs v0), .string (bs v1), .string (bs v2), .string (bs v3), .int .i64 p0, .bool asks, .int .u32 (a0 : Int), .int .u32 (a1 : Int), .int .u32 (a2 : Int), .string (bs gp), .string (bs gg), .int .i64 p1, .int .i64 p2, .int .i64 p3]
               have zp5 : Holds (V4.setRow b #[.string (bs v0), .string (bs v1), .string (bs v2), .string (bs v3), .int .i64 p0, .bool asks, .int .u32 (a0 : Int), .int .u32 (a1 : Int), .int .u32 (a2 : Int), .string (bs gp), .string (bs gg), .int .i64 p1, .int .i64 p2, .int .i64 p3]) b 38 #[.string (bs v0), .string (bs v1), .string (bs v2), .string (bs v3), .int .i64 p0, .bool asks, .int .u32 (a0 : Int), .int .u32 (a1 : Int), .int .u32 (a2 : Int), .string (bs gp), .string (bs gg), .int .i64 p1, .int .i64 p2, .int .i64 p3] := setRow_heap _ _ _ _ _ _ zp4
               have zq5 := zq4.moves (moves_row20 V4 b #[.string (bs v0), .string (bs v1), .string (bs v2), .string (bs v3), .int .i64 p0, .bool asks, .int .u32 (a0 : Int), .int .u32 (a1 : Int), .int .u32 (a2 : Int), .string (bs gp), .string (bs gg), .int .i64 p1, .int .i64 p2, .int .i64 p3]) (fun e => hne e)
               clear tt4 zp4 zq4
               refine hK.out _ _ ?_ (fun hHeld => ?_)
               · exact HC.out _ tt5.bel
               clear hK K
               try simp only [Act.put, List.setIfInBounds_toArray, List.set_cons_zero, List.set_cons_succ]
               generalize V4.setRow b #[.string (bs v0), .string (bs v1), .string (bs v2), .string (bs v3), .int .i64 p0, .bool asks, .int .u32 (a0 : Int), .int .u32 (a1 : Int), .int .u32 (a2 : Int), .string (bs gp), .string (bs gg), .int .i64 p1, .int .i64 p2, .int .i64 p3] = V5 at *
               refine wpAnyH_ready (rs := [11]) (by kernel_rfl) (by simp) ?_
               refine AllReadyH.cons (o := { dst := none, op := Op.store 41 (Operand.tmp 7) (Operand.tmp 25), type := 0, pos := "law.go:64", after := #[{ on := 9, ground := Ground.data }, { on := 7, ground := Ground.data }, { on := 10, ground := Ground.chain }, { on := 0, ground := Ground.phase }, { on := 1, ground := Ground.phase }, { on := 2, ground := Ground.phase }, { on := 3, ground := Ground.phase }, { on := 4, ground := Ground.phase }, { on := 5, ground := Ground.phase }, { on := 6, ground := Ground.phase }, { on := 7, ground := Ground.phase }, { on := 8, ground := Ground.phase }, { on := 9, ground := Ground.phase }, { on := 10, ground := Ground.phase }], guard := none }) rfl (fun K hK => ?_) ?_
               · refine step_store_row20 rfl 41 _ _ rfl c #[.string (bs v0), .string (bs v1), .string (bs v2), .string (bs v3), .string (bs P0), .bool asks, .int .i64 (a0 : Int), .int .i64 (a1 : Int), .int .i64 (a2 : Int), .string (bs gp), .string (bs gg), .string (bs P1), .string (bs P2), .string (bs P3)] rfl rfl 41 #[.string ⟨#[]⟩, .string ⟨#[]⟩, .string ⟨#[]⟩, .string ⟨#[]⟩, .string ⟨#[]⟩, .bool false, .int .i64 0, .int .i64 0, .int .i64 0, .string ⟨#[]⟩, .string ⟨#[]⟩, .string ⟨#[]⟩, .string ⟨#[]⟩, .string ⟨#[]⟩] zq5 (by exact sizeQPT) (by rfl) (by simp [Value.oneCell']) ?_
                 have tt6 := ta_row20 tt5 zq5 (by decide) (by decide) hBc #[.string (bs v0), .string (bs v1), .string (bs v2), .string (bs v3), .string (bs P0), .bool asks, .int .i64 (a0 : Int), .int .i64 (a1 : Int), .int .i64 (a2 : Int), .string (bs gp), .string (bs gg), .string (bs P1), .string (bs P2), .string (bs P3)]
                 have zq6 : Holds (V5.setRow c #[.string (bs v0), .string (bs v1), .string (bs v2), .string (bs v3), .string (bs P0), .bool asks, .int .i64 (a0 : Int), .int .i64 (a1 : Int), .int .i64 (a2 : Int), .string (bs gp), .string (bs gg), .string (bs P1), .string (bs P2), .string (bs P3)]) c 41 #[.string (bs v0), .string (bs v1), .string (bs v2), .string (bs v3), .string (bs P0), .bool asks, .int .i64 (a0 : Int), .int .i64 (a1 : Int), .int .i64 (a2 : Int), .string (bs gp), .string (bs gg), .string (bs P1), .string (bs P2), .string (bs P3)] := setRow_heap _ _ _ _ _ _ zq5
                 have zp6 := zp5.moves (moves_row20 V5 c #[.string (bs v0), .string (bs v1), .string (bs v2), .string (bs v3), .string (bs P0), .bool asks, .int .i64 (a0 : Int), .int .i64 (a1 : Int), .int .i64 (a2 : Int), .string (bs gp), .string (bs gg), .string (bs P1), .string (bs P2), .string (bs P3)]) (fun e => hne e.symm)
                 clear tt5 zq5 zp5
                 refine hK.out _ _ ?_ (fun hHeld => ?_)
                 · exact HC.out _ tt6.bel
                 clear hK K
                 try simp only [Act.put, List.setIfInBounds_toArray, List.set_cons_zero, List.set_cons_succ]
                 generalize V5.setRow c #[.string (bs v0), .string (bs v1), .string (bs v2), .string (bs v3), .string (bs P0), .bool asks, .int .i64 (a0 : Int), .int .i64 (a1 : Int), .int .i64 (a2 : Int), .string (bs gp), .string (bs gg), .string (bs P1), .string (bs P2), .string (bs P3)] = V6 at *
                 refine wpAnyH_done (by kernel_rfl) ?_ _
                 go_wp2_with fail
                 go_meet
                 case rel => exact TCut.mk tt6 hl hm0 hm1 hm2 hm3 zp6 zq6
               exact AllReadyH.nil
             exact AllReadyH.nil
           exact AllReadyH.nil
         refine AllReadyH.cons (o := { dst := some 7, op := Op.alloc 41, type := 0, pos := "law.go:64", after := #[], guard := none }) rfl (fun K hK => ?_) ?_
         · go_simp
           have bb : Below V2.heap.size V2 (V2.alloc (.cells #[.string ⟨#[]⟩, .string ⟨#[]⟩, .string ⟨#[]⟩, .string ⟨#[]⟩, .string ⟨#[]⟩, .bool false, .int .i64 0, .int .i64 0, .int .i64 0, .string ⟨#[]⟩, .string ⟨#[]⟩, .string ⟨#[]⟩, .string ⟨#[]⟩, .string ⟨#[]⟩] 41)) := (Below.refl _ _).alloc (Nat.le_refl _) _
           have tt7 := tt2.below bb
           have hBc : W0.heap.size ≤ V2.heap.size := Nat.le_of_lt tt2.lt
           have zq7 := Holds.new V2 41 #[.string ⟨#[]⟩, .string ⟨#[]⟩, .string ⟨#[]⟩, .string ⟨#[]⟩, .string ⟨#[]⟩, .bool false, .int .i64 0, .int .i64 0, .int .i64 0, .string ⟨#[]⟩, .string ⟨#[]⟩, .string ⟨#[]⟩, .string ⟨#[]⟩, .string ⟨#[]⟩]
           clear bb tt2
           refine hK.out _ _ ?_ (fun hHeld => ?_)
           · exact HC.out _ tt7.bel
           clear hK K
           try simp only [Act.put, List.setIfInBounds_toArray, List.set_cons_zero, List.set_cons_succ]
           generalize V2.alloc (.cells #[.string ⟨#[]⟩, .string ⟨#[]⟩, .string ⟨#[]⟩, .string ⟨#[]⟩, .string ⟨#[]⟩, .bool false, .int .i64 0, .int .i64 0, .int .i64 0, .string ⟨#[]⟩, .string ⟨#[]⟩, .string ⟨#[]⟩, .string ⟨#[]⟩, .string ⟨#[]⟩] 41) = V7 at *
           generalize V2.heap.size = c at *
           refine wpAnyH_ready (rs := [8]) (by kernel_rfl) (by simp) ?_
           refine AllReadyH.cons (o := { dst := some 6, op := Op.alloc 38, type := 0, pos := "law.go:64", after := #[], guard := none }) rfl (fun K hK => ?_) ?_
           · go_simp
             have bb : Below V7.heap.size V7 (V7.alloc (.cells #[.string ⟨#[]⟩, .string ⟨#[]⟩, .string ⟨#[]⟩, .string ⟨#[]⟩, .int .i64 0, .bool false, .int .u32 0, .int .u32 0, .int .u32 0, .string ⟨#[]⟩, .string ⟨#[]⟩, .int .i64 0, .int .i64 0, .int .i64 0] 38)) := (Below.refl _ _).alloc (Nat.le_refl _) _
             have tt8 := tt7.below bb
             have hBb : W0.heap.size ≤ V7.heap.size := Nat.le_of_lt tt7.lt
             have hne : V7.heap.size ≠ c := fun e => by have := zq7.lt; omega
             have zq8 := (Kept.ofBelow bb).hold _ _ _ (by decide) (by decide) zq7
             have zp8 := Holds.new V7 38 #[.string ⟨#[]⟩, .string ⟨#[]⟩, .string ⟨#[]⟩, .string ⟨#[]⟩, .int .i64 0, .bool false, .int .u32 0, .int .u32 0, .int .u32 0, .string ⟨#[]⟩, .string ⟨#[]⟩, .int .i64 0, .int .i64 0, .int .i64 0]
             clear bb tt7 zq7
             refine hK.out _ _ ?_ (fun hHeld => ?_)
             · exact HC.out _ tt8.bel
             clear hK K
             try simp only [Act.put, List.setIfInBounds_toArray, List.set_cons_zero, List.set_cons_succ]
             generalize V7.alloc (.cells #[.string ⟨#[]⟩, .string ⟨#[]⟩, .string ⟨#[]⟩, .string ⟨#[]⟩, .int .i64 0, .bool false, .int .u32 0, .int .u32 0, .int .u32 0, .string ⟨#[]⟩, .string ⟨#[]⟩, .int .i64 0, .int .i64 0, .int .i64 0] 38) = V8 at *
             generalize V7.heap.size = b at *
             refine wpAnyH_ready (rs := [10]) (by kernel_rfl) (by simp) ?_
             refine AllReadyH.cons (o := { dst := none, op := Op.store 38 (Operand.tmp 6) (Operand.tmp 24), type := 0, pos := "law.go:64", after := #[{ on := 8, ground := Ground.data }, { on := 6, ground := Ground.data }, { on := 4, ground := Ground.chain }, { on := 0, ground := Ground.phase }, { on := 1, ground := Ground.phase }, { on := 2, ground := Ground.phase }, { on := 3, ground := Ground.phase }, { on := 4, ground := Ground.phase }, { on := 5, ground := Ground.phase }, { on := 6, ground := Ground.phase }, { on := 7, ground := Ground.textOnly Departure.lateStores }, { on := 8, ground := Ground.phase }, { on := 9, ground := Ground.phase }], guard := none }) rfl (fun K hK => ?_) ?_
             · refine step_store_row20 rfl 38 _ _ rfl b #[.string (bs v0), .string (bs v1), .string (bs v2), .string (bs v3), .int .i64 p0, .bool asks, .int .u32 (a0 : Int), .int .u32 (a1 : Int), .int .u32 (a2 : Int), .string (bs gp), .string (bs gg), .int .i64 p1, .int .i64 p2, .int .i64 p3] rfl rfl 38 #[.string ⟨#[]⟩, .string ⟨#[]⟩, .string ⟨#[]⟩, .string ⟨#[]⟩, .int .i64 0, .bool false, .int .u32 0, .int .u32 0, .int .u32 0, .string ⟨#[]⟩, .string ⟨#[]⟩, .int .i64 0, .int .i64 0, .int .i64 0] zp8 (by exact sizeXPT) (by rfl) (by simp [Value.oneCell']) ?_
               have tt9 := ta_row20 tt8 zp8 (by decide) (by decide) hBb #[.string (bs v0), .string (bs v1), .string (bs v2), .string (bs v3), .int .i64 p0, .bool asks, .int .u32 (a0 : Int), .int .u32 (a1 : Int), .int .u32 (a2 : Int), .string (bs gp), .string (bs gg), .int .i64 p1, .int .i64 p2, .int .i64 p3]
               have zp9 : Holds (V8.setRow b #[.string (bs v0), .string (bs v1), .string (bs v2), .string (bs v3), .int .i64 p0, .bool asks, .int .u32 (a0 : Int), .int .u32 (a1 : Int), .int .u32 (a2 : Int), .string (bs gp), .string (bs gg), .int .i64 p1, .int .i64 p2, .int .i64 p3]) b 38 #[.string (bs v0), .string (bs v1), .string (bs v2), .string (bs v3), .int .i64 p0, .bool asks, .int .u32 (a0 : Int), .int .u32 (a1 : Int), .int .u32 (a2 : Int), .string (bs gp), .string (bs gg), .int .i64 p1, .int .i64 p2, .int .i64 p3] := setRow_heap _ _ _ _ _ _ zp8
               have zq9 := zq8.moves (moves_row20 V8 b #[.string (bs v0), .string (bs v1), .string (bs v2), .string (bs v3), .int .i64 p0, .bool asks, .int .u32 (a0 : Int), .int .u32 (a1 : Int), .int .u32 (a2 : Int), .string (bs gp), .string (bs gg), .int .i64 p1, .int .i64 p2, .int .i64 p3]) (fun e => hne e.symm)
               clear tt8 zp8 zq8
               refine hK.out _ _ ?_ (fun hHeld => ?_)
               · exact HC.out _ tt9.bel
               clear hK K
               try simp only [Act.put, List.setIfInBounds_toArray, List.set_cons_zero, List.set_cons_succ]
               generalize V8.setRow b #[.string (bs v0), .string (bs v1), .string (bs v2), .string (bs v3), .int .i64 p0, .bool asks, .int .u32 (a0 : Int), .int .u32 (a1 : Int), .int .u32 (a2 : Int), .string (bs gp), .string (bs gg), .int .i64 p1, .int .i64 p2, .int .i64 p3] = V9 at *
               refine wpAnyH_ready (rs := [11]) (by kernel_rfl) (by simp) ?_
               refine AllReadyH.cons (o := { dst := none, op := Op.store 41 (Operand.tmp 7) (Operand.tmp 25), type := 0, pos := "law.go:64", after := #[{ on := 9, ground := Ground.data }, { on := 7, ground := Ground.data }, { on := 10, ground := Ground.chain }, { on := 0, ground := Ground.phase }, { on := 1, ground := Ground.phase }, { on := 2, ground := Ground.phase }, { on := 3, ground := Ground.phase }, { on := 4, ground := Ground.phase }, { on := 5, ground := Ground.phase }, { on := 6, ground := Ground.phase }, { on := 7, ground := Ground.phase }, { on := 8, ground := Ground.phase }, { on := 9, ground := Ground.phase }, { on := 10, ground := Ground.phase }], guard := none }) rfl (fun K hK => ?_) ?_
               · refine step_store_row20 rfl 41 _ _ rfl c #[.string (bs v0), .string (bs v1), .string (bs v2), .string (bs v3), .string (bs P0), .bool asks, .int .i64 (a0 : Int), .int .i64 (a1 : Int), .int .i64 (a2 : Int), .string (bs gp), .string (bs gg), .string (bs P1), .string (bs P2), .string (bs P3)] rfl rfl 41 #[.string ⟨#[]⟩, .string ⟨#[]⟩, .string ⟨#[]⟩, .string ⟨#[]⟩, .string ⟨#[]⟩, .bool false, .int .i64 0, .int .i64 0, .int .i64 0, .string ⟨#[]⟩, .string ⟨#[]⟩, .string ⟨#[]⟩, .string ⟨#[]⟩, .string ⟨#[]⟩] zq9 (by exact sizeQPT) (by rfl) (by simp [Value.oneCell']) ?_
                 have tt10 := ta_row20 tt9 zq9 (by decide) (by decide) hBc #[.string (bs v0), .string (bs v1), .string (bs v2), .string (bs v3), .string (bs P0), .bool asks, .int .i64 (a0 : Int), .int .i64 (a1 : Int), .int .i64 (a2 : Int), .string (bs gp), .string (bs gg), .string (bs P1), .string (bs P2), .string (bs P3)]
                 have zq10 : Holds (V9.setRow c #[.string (bs v0), .string (bs v1), .string (bs v2), .string (bs v3), .string (bs P0), .bool asks, .int .i64 (a0 : Int), .int .i64 (a1 : Int), .int .i64 (a2 : Int), .string (bs gp), .string (bs gg), .string (bs P1), .string (bs P2), .string (bs P3)]) c 41 #[.string (bs v0), .string (bs v1), .string (bs v2), .string (bs v3), .string (bs P0), .bool asks, .int .i64 (a0 : Int), .int .i64 (a1 : Int), .int .i64 (a2 : Int), .string (bs gp), .string (bs gg), .string (bs P1), .string (bs P2), .string (bs P3)] := setRow_heap _ _ _ _ _ _ zq9
                 have zp10 := zp9.moves (moves_row20 V9 c #[.string (bs v0), .string (bs v1), .string (bs v2), .string (bs v3), .string (bs P0), .bool asks, .int .i64 (a0 : Int), .int .i64 (a1 : Int), .int .i64 (a2 : Int), .string (bs gp), .string (bs gg), .string (bs P1), .string (bs P2), .string (bs P3)]) (fun e => hne e)
                 clear tt9 zq9 zp9
                 refine hK.out _ _ ?_ (fun hHeld => ?_)
                 · exact HC.out _ tt10.bel
                 clear hK K
                 try simp only [Act.put, List.setIfInBounds_toArray, List.set_cons_zero, List.set_cons_succ]
                 generalize V9.setRow c #[.string (bs v0), .string (bs v1), .string (bs v2), .string (bs v3), .string (bs P0), .bool asks, .int .i64 (a0 : Int), .int .i64 (a1 : Int), .int .i64 (a2 : Int), .string (bs gp), .string (bs gg), .string (bs P1), .string (bs P2), .string (bs P3)] = V10 at *
                 refine wpAnyH_done (by kernel_rfl) ?_ _
                 go_wp2_with fail
                 go_meet
                 case rel => exact TCut.mk tt10 hl hm0 hm1 hm2 hm3 zp10 zq10
               exact AllReadyH.nil
             exact AllReadyH.nil
           exact AllReadyH.nil
         exact AllReadyH.nil
       refine AllReadyH.cons (o := { dst := some 6, op := Op.alloc 38, type := 0, pos := "law.go:64", after := #[], guard := none }) rfl (fun K hK => ?_) ?_
       · go_simp
         have bb : Below V1.heap.size V1 (V1.alloc (.cells #[.string ⟨#[]⟩, .string ⟨#[]⟩, .string ⟨#[]⟩, .string ⟨#[]⟩, .int .i64 0, .bool false, .int .u32 0, .int .u32 0, .int .u32 0, .string ⟨#[]⟩, .string ⟨#[]⟩, .int .i64 0, .int .i64 0, .int .i64 0] 38)) := (Below.refl _ _).alloc (Nat.le_refl _) _
         have tt11 := tt1.below bb
         have hBb : W0.heap.size ≤ V1.heap.size := Nat.le_of_lt tt1.lt
         have hI11 := hI1.below bb
         have hT11 := hT1.below bb
         have zp11 := Holds.new V1 38 #[.string ⟨#[]⟩, .string ⟨#[]⟩, .string ⟨#[]⟩, .string ⟨#[]⟩, .int .i64 0, .bool false, .int .u32 0, .int .u32 0, .int .u32 0, .string ⟨#[]⟩, .string ⟨#[]⟩, .int .i64 0, .int .i64 0, .int .i64 0]
         clear bb tt1 hI1 hT1
         refine hK.out _ _ ?_ (fun hHeld => ?_)
         · exact HC.out _ tt11.bel
         clear hK K
         try simp only [Act.put, List.setIfInBounds_toArray, List.set_cons_zero, List.set_cons_succ]
         generalize V1.alloc (.cells #[.string ⟨#[]⟩, .string ⟨#[]⟩, .string ⟨#[]⟩, .string ⟨#[]⟩, .int .i64 0, .bool false, .int .u32 0, .int .u32 0, .int .u32 0, .string ⟨#[]⟩, .string ⟨#[]⟩, .int .i64 0, .int .i64 0, .int .i64 0] 38) = V11 at *
         generalize V1.heap.size = b at *
         refine wpAnyH_ready (rs := [4, 9]) (by kernel_rfl) (by simp) ?_
         refine AllReadyH.cons (o := { dst := some 23, op := Op.call { callee := Callee.value (Operand.func 9), args := #[Operand.tmp 19, Operand.tmp 22], argTypes := #[30, 47] }, type := 42, pos := "law.go:64", after := #[{ on := 0, ground := Ground.data }, { on := 3, ground := Ground.data }, { on := 3, ground := Ground.chain }], guard := none }) rfl (fun K hK => ?_) ?_
         · obtain ⟨p0, p1, p2, p3, P0, P1, P2, P3, hm0, hm1, hm2, hm3, hCp⟩ := HPt.out _ _ _ _ _ _ _ hln hI11 hT11
           have HCp := Lib.hid hCp
           clear hCp
           go_simp
           go_at_call 9
           with_reducible refine HCp.out.mono ?_
           rintro e V12 ⟨rfl, bb⟩
           have tt12 := tt11.below bb
           have zp12 := (Kept.ofBelow bb).hold _ _ _ (by decide) (by decide) zp11
           clear bb HCp tt11 hI11 hT11 zp11
           go_wp2_with fail
           refine hK.out _ _ ?_ (fun hHeld => ?_)
           · exact HC.out _ tt12.bel
           clear hK K
           try simp only [Act.put, List.setIfInBounds_toArray, List.set_cons_zero, List.set_cons_succ]
           refine wpAnyH_take (i := 5) (oi := { dst := some 18, op := Op.move (Operand.tmp 23), type := 42, pos := "law.go:64", after := #[{ on := 4, ground := Ground.data }], guard := none }) (v := ?_) rfl (by kernel_rfl) (by kernel_rfl) (by kernel_rfl) (fun _ _ _ h => h) (Or.inl ⟨by rfl, ?_⟩) (by assumption) ?_
           rotate_left 1
           · (intro w hSw; (try dsimp only at hSw); go_simp; (try with_reducible rfl))
           try simp only [Act.put, List.setIfInBounds_toArray, List.set_cons_zero, List.set_cons_succ]
           refine wpAnyH_take (i := 6) (oi := { dst := some 24, op := Op.extract (Operand.tmp 18) 0, type := 38, pos := "law.go:64", after := #[{ on := 5, ground := Ground.data }], guard := none }) (v := ?_) rfl (by kernel_rfl) (by kernel_rfl) (by kernel_rfl) (fun _ _ _ h => h) (Or.inl ⟨by rfl, ?_⟩) (by assumption) ?_
           rotate_left 1
           · (intro w hSw; (try dsimp only at hSw); go_simp; (try with_reducible rfl))
           try simp only [Act.put, List.setIfInBounds_toArray, List.set_cons_zero, List.set_cons_succ]
           refine wpAnyH_take (i := 7) (oi := { dst := some 25, op := Op.extract (Operand.tmp 18) 1, type := 41, pos := "law.go:64", after := #[{ on := 5, ground := Ground.data }, { on := 10, ground := Ground.gcOnly Departure.lateStores }], guard := none }) (v := ?_) rfl (by kernel_rfl) (by kernel_rfl) (by kernel_rfl) (fun _ _ _ h => h) (Or.inl ⟨by rfl, ?_⟩) (by assumption) ?_
           rotate_left 1
           · (intro w hSw; (try dsimp only at hSw); go_simp; (try with_reducible rfl))
           try simp only [Act.put, List.setIfInBounds_toArray, List.set_cons_zero, List.set_cons_succ]
           refine wpAnyH_ready (rs := [9]) (by kernel_rfl) (by simp) ?_
           refine AllReadyH.cons (o := { dst := some 7, op := Op.alloc 41, type := 0, pos := "law.go:64", after := #[], guard := none }) rfl (fun K hK => ?_) ?_
           · go_simp
             have bb : Below V12.heap.size V12 (V12.alloc (.cells #[.string ⟨#[]⟩, .string ⟨#[]⟩, .string ⟨#[]⟩, .string ⟨#[]⟩, .string ⟨#[]⟩, .bool false, .int .i64 0, .int .i64 0, .int .i64 0, .string ⟨#[]⟩, .string ⟨#[]⟩, .string ⟨#[]⟩, .string ⟨#[]⟩, .string ⟨#[]⟩] 41)) := (Below.refl _ _).alloc (Nat.le_refl _) _
             have tt13 := tt12.below bb
             have hBc : W0.heap.size ≤ V12.heap.size := Nat.le_of_lt tt12.lt
             have hne : V12.heap.size ≠ b := fun e => by have := zp12.lt; omega
             have zp13 := (Kept.ofBelow bb).hold _ _ _ (by decide) (by decide) zp12
             have zq13 := Holds.new V12 41 #[.string ⟨#[]⟩, .string ⟨#[]⟩, .string ⟨#[]⟩, .string ⟨#[]⟩, .string ⟨#[]⟩, .bool false, .int .i64 0, .int .i64 0, .int .i64 0, .string ⟨#[]⟩, .string ⟨#[]⟩, .string ⟨#[]⟩, .string ⟨#[]⟩, .string ⟨#[]⟩]
             clear bb tt12 zp12
             refine hK.out _ _ ?_ (fun hHeld => ?_)
             · exact HC.out _ tt13.bel
             clear hK K
             try simp only [Act.put, List.setIfInBounds_toArray, List.set_cons_zero, List.set_cons_succ]
             generalize V12.alloc (.cells #[.string ⟨#[]⟩, .string ⟨#[]⟩, .string ⟨#[]⟩, .string ⟨#[]⟩, .string ⟨#[]⟩, .bool false, .int .i64 0, .int .i64 0, .int .i64 0, .string ⟨#[]⟩, .string ⟨#[]⟩, .string ⟨#[]⟩, .string ⟨#[]⟩, .string ⟨#[]⟩] 41) = V13 at *
             generalize V12.heap.size = c at *
             refine wpAnyH_ready (rs := [10]) (by kernel_rfl) (by simp) ?_
             refine AllReadyH.cons (o := { dst := none, op := Op.store 38 (Operand.tmp 6) (Operand.tmp 24), type := 0, pos := "law.go:64", after := #[{ on := 8, ground := Ground.data }, { on := 6, ground := Ground.data }, { on := 4, ground := Ground.chain }, { on := 0, ground := Ground.phase }, { on := 1, ground := Ground.phase }, { on := 2, ground := Ground.phase }, { on := 3, ground := Ground.phase }, { on := 4, ground := Ground.phase }, { on := 5, ground := Ground.phase }, { on := 6, ground := Ground.phase }, { on := 7, ground := Ground.textOnly Departure.lateStores }, { on := 8, ground := Ground.phase }, { on := 9, ground := Ground.phase }], guard := none }) rfl (fun K hK => ?_) ?_
             · refine step_store_row20 rfl 38 _ _ rfl b #[.string (bs v0), .string (bs v1), .string (bs v2), .string (bs v3), .int .i64 p0, .bool asks, .int .u32 (a0 : Int), .int .u32 (a1 : Int), .int .u32 (a2 : Int), .string (bs gp), .string (bs gg), .int .i64 p1, .int .i64 p2, .int .i64 p3] rfl rfl 38 #[.string ⟨#[]⟩, .string ⟨#[]⟩, .string ⟨#[]⟩, .string ⟨#[]⟩, .int .i64 0, .bool false, .int .u32 0, .int .u32 0, .int .u32 0, .string ⟨#[]⟩, .string ⟨#[]⟩, .int .i64 0, .int .i64 0, .int .i64 0] zp13 (by exact sizeXPT) (by rfl) (by simp [Value.oneCell']) ?_
               have tt14 := ta_row20 tt13 zp13 (by decide) (by decide) hBb #[.string (bs v0), .string (bs v1), .string (bs v2), .string (bs v3), .int .i64 p0, .bool asks, .int .u32 (a0 : Int), .int .u32 (a1 : Int), .int .u32 (a2 : Int), .string (bs gp), .string (bs gg), .int .i64 p1, .int .i64 p2, .int .i64 p3]
               have zp14 : Holds (V13.setRow b #[.string (bs v0), .string (bs v1), .string (bs v2), .string (bs v3), .int .i64 p0, .bool asks, .int .u32 (a0 : Int), .int .u32 (a1 : Int), .int .u32 (a2 : Int), .string (bs gp), .string (bs gg), .int .i64 p1, .int .i64 p2, .int .i64 p3]) b 38 #[.string (bs v0), .string (bs v1), .string (bs v2), .string (bs v3), .int .i64 p0, .bool asks, .int .u32 (a0 : Int), .int .u32 (a1 : Int), .int .u32 (a2 : Int), .string (bs gp), .string (bs gg), .int .i64 p1, .int .i64 p2, .int .i64 p3] := setRow_heap _ _ _ _ _ _ zp13
               have zq14 := zq13.moves (moves_row20 V13 b #[.string (bs v0), .string (bs v1), .string (bs v2), .string (bs v3), .int .i64 p0, .bool asks, .int .u32 (a0 : Int), .int .u32 (a1 : Int), .int .u32 (a2 : Int), .string (bs gp), .string (bs gg), .int .i64 p1, .int .i64 p2, .int .i64 p3]) (fun e => hne e)
               clear tt13 zp13 zq13
               refine hK.out _ _ ?_ (fun hHeld => ?_)
               · exact HC.out _ tt14.bel
               clear hK K
               try simp only [Act.put, List.setIfInBounds_toArray, List.set_cons_zero, List.set_cons_succ]
               generalize V13.setRow b #[.string (bs v0), .string (bs v1), .string (bs v2), .string (bs v3), .int .i64 p0, .bool asks, .int .u32 (a0 : Int), .int .u32 (a1 : Int), .int .u32 (a2 : Int), .string (bs gp), .string (bs gg), .int .i64 p1, .int .i64 p2, .int .i64 p3] = V14 at *
               refine wpAnyH_ready (rs := [11]) (by kernel_rfl) (by simp) ?_
               refine AllReadyH.cons (o := { dst := none, op := Op.store 41 (Operand.tmp 7) (Operand.tmp 25), type := 0, pos := "law.go:64", after := #[{ on := 9, ground := Ground.data }, { on := 7, ground := Ground.data }, { on := 10, ground := Ground.chain }, { on := 0, ground := Ground.phase }, { on := 1, ground := Ground.phase }, { on := 2, ground := Ground.phase }, { on := 3, ground := Ground.phase }, { on := 4, ground := Ground.phase }, { on := 5, ground := Ground.phase }, { on := 6, ground := Ground.phase }, { on := 7, ground := Ground.phase }, { on := 8, ground := Ground.phase }, { on := 9, ground := Ground.phase }, { on := 10, ground := Ground.phase }], guard := none }) rfl (fun K hK => ?_) ?_
               · refine step_store_row20 rfl 41 _ _ rfl c #[.string (bs v0), .string (bs v1), .string (bs v2), .string (bs v3), .string (bs P0), .bool asks, .int .i64 (a0 : Int), .int .i64 (a1 : Int), .int .i64 (a2 : Int), .string (bs gp), .string (bs gg), .string (bs P1), .string (bs P2), .string (bs P3)] rfl rfl 41 #[.string ⟨#[]⟩, .string ⟨#[]⟩, .string ⟨#[]⟩, .string ⟨#[]⟩, .string ⟨#[]⟩, .bool false, .int .i64 0, .int .i64 0, .int .i64 0, .string ⟨#[]⟩, .string ⟨#[]⟩, .string ⟨#[]⟩, .string ⟨#[]⟩, .string ⟨#[]⟩] zq14 (by exact sizeQPT) (by rfl) (by simp [Value.oneCell']) ?_
                 have tt15 := ta_row20 tt14 zq14 (by decide) (by decide) hBc #[.string (bs v0), .string (bs v1), .string (bs v2), .string (bs v3), .string (bs P0), .bool asks, .int .i64 (a0 : Int), .int .i64 (a1 : Int), .int .i64 (a2 : Int), .string (bs gp), .string (bs gg), .string (bs P1), .string (bs P2), .string (bs P3)]
                 have zq15 : Holds (V14.setRow c #[.string (bs v0), .string (bs v1), .string (bs v2), .string (bs v3), .string (bs P0), .bool asks, .int .i64 (a0 : Int), .int .i64 (a1 : Int), .int .i64 (a2 : Int), .string (bs gp), .string (bs gg), .string (bs P1), .string (bs P2), .string (bs P3)]) c 41 #[.string (bs v0), .string (bs v1), .string (bs v2), .string (bs v3), .string (bs P0), .bool asks, .int .i64 (a0 : Int), .int .i64 (a1 : Int), .int .i64 (a2 : Int), .string (bs gp), .string (bs gg), .string (bs P1), .string (bs P2), .string (bs P3)] := setRow_heap _ _ _ _ _ _ zq14
                 have zp15 := zp14.moves (moves_row20 V14 c #[.string (bs v0), .string (bs v1), .string (bs v2), .string (bs v3), .string (bs P0), .bool asks, .int .i64 (a0 : Int), .int .i64 (a1 : Int), .int .i64 (a2 : Int), .string (bs gp), .string (bs gg), .string (bs P1), .string (bs P2), .string (bs P3)]) (fun e => hne e.symm)
                 clear tt14 zq14 zp14
                 refine hK.out _ _ ?_ (fun hHeld => ?_)
                 · exact HC.out _ tt15.bel
                 clear hK K
                 try simp only [Act.put, List.setIfInBounds_toArray, List.set_cons_zero, List.set_cons_succ]
                 generalize V14.setRow c #[.string (bs v0), .string (bs v1), .string (bs v2), .string (bs v3), .string (bs P0), .bool asks, .int .i64 (a0 : Int), .int .i64 (a1 : Int), .int .i64 (a2 : Int), .string (bs gp), .string (bs gg), .string (bs P1), .string (bs P2), .string (bs P3)] = V15 at *
                 refine wpAnyH_done (by kernel_rfl) ?_ _
                 go_wp2_with fail
                 go_meet
                 case rel => exact TCut.mk tt15 hl hm0 hm1 hm2 hm3 zp15 zq15
               exact AllReadyH.nil
             exact AllReadyH.nil
           exact AllReadyH.nil
         refine AllReadyH.cons (o := { dst := some 7, op := Op.alloc 41, type := 0, pos := "law.go:64", after := #[], guard := none }) rfl (fun K hK => ?_) ?_
         · go_simp
           have bb : Below V11.heap.size V11 (V11.alloc (.cells #[.string ⟨#[]⟩, .string ⟨#[]⟩, .string ⟨#[]⟩, .string ⟨#[]⟩, .string ⟨#[]⟩, .bool false, .int .i64 0, .int .i64 0, .int .i64 0, .string ⟨#[]⟩, .string ⟨#[]⟩, .string ⟨#[]⟩, .string ⟨#[]⟩, .string ⟨#[]⟩] 41)) := (Below.refl _ _).alloc (Nat.le_refl _) _
           have tt16 := tt11.below bb
           have hBc : W0.heap.size ≤ V11.heap.size := Nat.le_of_lt tt11.lt
           have hne : V11.heap.size ≠ b := fun e => by have := zp11.lt; omega
           have zp16 := (Kept.ofBelow bb).hold _ _ _ (by decide) (by decide) zp11
           have hI16 := hI11.below bb
           have hT16 := hT11.below bb
           have zq16 := Holds.new V11 41 #[.string ⟨#[]⟩, .string ⟨#[]⟩, .string ⟨#[]⟩, .string ⟨#[]⟩, .string ⟨#[]⟩, .bool false, .int .i64 0, .int .i64 0, .int .i64 0, .string ⟨#[]⟩, .string ⟨#[]⟩, .string ⟨#[]⟩, .string ⟨#[]⟩, .string ⟨#[]⟩]
           clear bb tt11 zp11 hI11 hT11
           refine hK.out _ _ ?_ (fun hHeld => ?_)
           · exact HC.out _ tt16.bel
           clear hK K
           try simp only [Act.put, List.setIfInBounds_toArray, List.set_cons_zero, List.set_cons_succ]
           generalize V11.alloc (.cells #[.string ⟨#[]⟩, .string ⟨#[]⟩, .string ⟨#[]⟩, .string ⟨#[]⟩, .string ⟨#[]⟩, .bool false, .int .i64 0, .int .i64 0, .int .i64 0, .string ⟨#[]⟩, .string ⟨#[]⟩, .string ⟨#[]⟩, .string ⟨#[]⟩, .string ⟨#[]⟩] 41) = V16 at *
           generalize V11.heap.size = c at *
           refine wpAnyH_ready (rs := [4]) (by kernel_rfl) (by simp) ?_
           refine AllReadyH.cons (o := { dst := some 23, op := Op.call { callee := Callee.value (Operand.func 9), args := #[Operand.tmp 19, Operand.tmp 22], argTypes := #[30, 47] }, type := 42, pos := "law.go:64", after := #[{ on := 0, ground := Ground.data }, { on := 3, ground := Ground.data }, { on := 3, ground := Ground.chain }], guard := none }) rfl (fun K hK => ?_) ?_
           · obtain ⟨p0, p1, p2, p3, P0, P1, P2, P3, hm0, hm1, hm2, hm3, hCp⟩ := HPt.out _ _ _ _ _ _ _ hln hI16 hT16
             have HCp := Lib.hid hCp
             clear hCp
             go_simp
             go_at_call 9
             with_reducible refine HCp.out.mono ?_
             rintro e V17 ⟨rfl, bb⟩
             have tt17 := tt16.below bb
             have zp17 := (Kept.ofBelow bb).hold _ _ _ (by decide) (by decide) zp16
             have zq17 := (Kept.ofBelow bb).hold _ _ _ (by decide) (by decide) zq16
             clear bb HCp tt16 hI16 hT16 zp16 zq16
             go_wp2_with fail
             refine hK.out _ _ ?_ (fun hHeld => ?_)
             · exact HC.out _ tt17.bel
             clear hK K
             try simp only [Act.put, List.setIfInBounds_toArray, List.set_cons_zero, List.set_cons_succ]
             refine wpAnyH_take (i := 5) (oi := { dst := some 18, op := Op.move (Operand.tmp 23), type := 42, pos := "law.go:64", after := #[{ on := 4, ground := Ground.data }], guard := none }) (v := ?_) rfl (by kernel_rfl) (by kernel_rfl) (by kernel_rfl) (fun _ _ _ h => h) (Or.inl ⟨by rfl, ?_⟩) (by assumption) ?_
             rotate_left 1
             · (intro w hSw; (try dsimp only at hSw); go_simp; (try with_reducible rfl))
             try simp only [Act.put, List.setIfInBounds_toArray, List.set_cons_zero, List.set_cons_succ]
             refine wpAnyH_take (i := 6) (oi := { dst := some 24, op := Op.extract (Operand.tmp 18) 0, type := 38, pos := "law.go:64", after := #[{ on := 5, ground := Ground.data }], guard := none }) (v := ?_) rfl (by kernel_rfl) (by kernel_rfl) (by kernel_rfl) (fun _ _ _ h => h) (Or.inl ⟨by rfl, ?_⟩) (by assumption) ?_
             rotate_left 1
             · (intro w hSw; (try dsimp only at hSw); go_simp; (try with_reducible rfl))
             try simp only [Act.put, List.setIfInBounds_toArray, List.set_cons_zero, List.set_cons_succ]
             refine wpAnyH_take (i := 7) (oi := { dst := some 25, op := Op.extract (Operand.tmp 18) 1, type := 41, pos := "law.go:64", after := #[{ on := 5, ground := Ground.data }, { on := 10, ground := Ground.gcOnly Departure.lateStores }], guard := none }) (v := ?_) rfl (by kernel_rfl) (by kernel_rfl) (by kernel_rfl) (fun _ _ _ h => h) (Or.inl ⟨by rfl, ?_⟩) (by assumption) ?_
             rotate_left 1
             · (intro w hSw; (try dsimp only at hSw); go_simp; (try with_reducible rfl))
             try simp only [Act.put, List.setIfInBounds_toArray, List.set_cons_zero, List.set_cons_succ]
             refine wpAnyH_ready (rs := [10]) (by kernel_rfl) (by simp) ?_
             refine AllReadyH.cons (o := { dst := none, op := Op.store 38 (Operand.tmp 6) (Operand.tmp 24), type := 0, pos := "law.go:64", after := #[{ on := 8, ground := Ground.data }, { on := 6, ground := Ground.data }, { on := 4, ground := Ground.chain }, { on := 0, ground := Ground.phase }, { on := 1, ground := Ground.phase }, { on := 2, ground := Ground.phase }, { on := 3, ground := Ground.phase }, { on := 4, ground := Ground.phase }, { on := 5, ground := Ground.phase }, { on := 6, ground := Ground.phase }, { on := 7, ground := Ground.textOnly Departure.lateStores }, { on := 8, ground := Ground.phase }, { on := 9, ground := Ground.phase }], guard := none }) rfl (fun K hK => ?_) ?_
             · refine step_store_row20 rfl 38 _ _ rfl b #[.string (bs v0), .string (bs v1), .string (bs v2), .string (bs v3), .int .i64 p0, .bool asks, .int .u32 (a0 : Int), .int .u32 (a1 : Int), .int .u32 (a2 : Int), .string (bs gp), .string (bs gg), .int .i64 p1, .int .i64 p2, .int .i64 p3] rfl rfl 38 #[.string ⟨#[]⟩, .string ⟨#[]⟩, .string ⟨#[]⟩, .string ⟨#[]⟩, .int .i64 0, .bool false, .int .u32 0, .int .u32 0, .int .u32 0, .string ⟨#[]⟩, .string ⟨#[]⟩, .int .i64 0, .int .i64 0, .int .i64 0] zp17 (by exact sizeXPT) (by rfl) (by simp [Value.oneCell']) ?_
               have tt18 := ta_row20 tt17 zp17 (by decide) (by decide) hBb #[.string (bs v0), .string (bs v1), .string (bs v2), .string (bs v3), .int .i64 p0, .bool asks, .int .u32 (a0 : Int), .int .u32 (a1 : Int), .int .u32 (a2 : Int), .string (bs gp), .string (bs gg), .int .i64 p1, .int .i64 p2, .int .i64 p3]
               have zp18 : Holds (V17.setRow b #[.string (bs v0), .string (bs v1), .string (bs v2), .string (bs v3), .int .i64 p0, .bool asks, .int .u32 (a0 : Int), .int .u32 (a1 : Int), .int .u32 (a2 : Int), .string (bs gp), .string (bs gg), .int .i64 p1, .int .i64 p2, .int .i64 p3]) b 38 #[.string (bs v0), .string (bs v1), .string (bs v2), .string (bs v3), .int .i64 p0, .bool asks, .int .u32 (a0 : Int), .int .u32 (a1 : Int), .int .u32 (a2 : Int), .string (bs gp), .string (bs gg), .int .i64 p1, .int .i64 p2, .int .i64 p3] := setRow_heap _ _ _ _ _ _ zp17
               have zq18 := zq17.moves (moves_row20 V17 b #[.string (bs v0), .string (bs v1), .string (bs v2), .string (bs v3), .int .i64 p0, .bool asks, .int .u32 (a0 : Int), .int .u32 (a1 : Int), .int .u32 (a2 : Int), .string (bs gp), .string (bs gg), .int .i64 p1, .int .i64 p2, .int .i64 p3]) (fun e => hne e)
               clear tt17 zp17 zq17
               refine hK.out _ _ ?_ (fun hHeld => ?_)
               · exact HC.out _ tt18.bel
               clear hK K
               try simp only [Act.put, List.setIfInBounds_toArray, List.set_cons_zero, List.set_cons_succ]
               generalize V17.setRow b #[.string (bs v0), .string (bs v1), .string (bs v2), .string (bs v3), .int .i64 p0, .bool asks, .int .u32 (a0 : Int), .int .u32 (a1 : Int), .int .u32 (a2 : Int), .string (bs gp), .string (bs gg), .int .i64 p1, .int .i64 p2, .int .i64 p3] = V18 at *
               refine wpAnyH_ready (rs := [11]) (by kernel_rfl) (by simp) ?_
               refine AllReadyH.cons (o := { dst := none, op := Op.store 41 (Operand.tmp 7) (Operand.tmp 25), type := 0, pos := "law.go:64", after := #[{ on := 9, ground := Ground.data }, { on := 7, ground := Ground.data }, { on := 10, ground := Ground.chain }, { on := 0, ground := Ground.phase }, { on := 1, ground := Ground.phase }, { on := 2, ground := Ground.phase }, { on := 3, ground := Ground.phase }, { on := 4, ground := Ground.phase }, { on := 5, ground := Ground.phase }, { on := 6, ground := Ground.phase }, { on := 7, ground := Ground.phase }, { on := 8, ground := Ground.phase }, { on := 9, ground := Ground.phase }, { on := 10, ground := Ground.phase }], guard := none }) rfl (fun K hK => ?_) ?_
               · refine step_store_row20 rfl 41 _ _ rfl c #[.string (bs v0), .string (bs v1), .string (bs v2), .string (bs v3), .string (bs P0), .bool asks, .int .i64 (a0 : Int), .int .i64 (a1 : Int), .int .i64 (a2 : Int), .string (bs gp), .string (bs gg), .string (bs P1), .string (bs P2), .string (bs P3)] rfl rfl 41 #[.string ⟨#[]⟩, .string ⟨#[]⟩, .string ⟨#[]⟩, .string ⟨#[]⟩, .string ⟨#[]⟩, .bool false, .int .i64 0, .int .i64 0, .int .i64 0, .string ⟨#[]⟩, .string ⟨#[]⟩, .string ⟨#[]⟩, .string ⟨#[]⟩, .string ⟨#[]⟩] zq18 (by exact sizeQPT) (by rfl) (by simp [Value.oneCell']) ?_
                 have tt19 := ta_row20 tt18 zq18 (by decide) (by decide) hBc #[.string (bs v0), .string (bs v1), .string (bs v2), .string (bs v3), .string (bs P0), .bool asks, .int .i64 (a0 : Int), .int .i64 (a1 : Int), .int .i64 (a2 : Int), .string (bs gp), .string (bs gg), .string (bs P1), .string (bs P2), .string (bs P3)]
                 have zq19 : Holds (V18.setRow c #[.string (bs v0), .string (bs v1), .string (bs v2), .string (bs v3), .string (bs P0), .bool asks, .int .i64 (a0 : Int), .int .i64 (a1 : Int), .int .i64 (a2 : Int), .string (bs gp), .string (bs gg), .string (bs P1), .string (bs P2), .string (bs P3)]) c 41 #[.string (bs v0), .string (bs v1), .string (bs v2), .string (bs v3), .string (bs P0), .bool asks, .int .i64 (a0 : Int), .int .i64 (a1 : Int), .int .i64 (a2 : Int), .string (bs gp), .string (bs gg), .string (bs P1), .string (bs P2), .string (bs P3)] := setRow_heap _ _ _ _ _ _ zq18
                 have zp19 := zp18.moves (moves_row20 V18 c #[.string (bs v0), .string (bs v1), .string (bs v2), .string (bs v3), .string (bs P0), .bool asks, .int .i64 (a0 : Int), .int .i64 (a1 : Int), .int .i64 (a2 : Int), .string (bs gp), .string (bs gg), .string (bs P1), .string (bs P2), .string (bs P3)]) (fun e => hne e.symm)
                 clear tt18 zq18 zp18
                 refine hK.out _ _ ?_ (fun hHeld => ?_)
                 · exact HC.out _ tt19.bel
                 clear hK K
                 try simp only [Act.put, List.setIfInBounds_toArray, List.set_cons_zero, List.set_cons_succ]
                 generalize V18.setRow c #[.string (bs v0), .string (bs v1), .string (bs v2), .string (bs v3), .string (bs P0), .bool asks, .int .i64 (a0 : Int), .int .i64 (a1 : Int), .int .i64 (a2 : Int), .string (bs gp), .string (bs gg), .string (bs P1), .string (bs P2), .string (bs P3)] = V19 at *
                 refine wpAnyH_done (by kernel_rfl) ?_ _
                 go_wp2_with fail
                 go_meet
                 case rel => exact TCut.mk tt19 hl hm0 hm1 hm2 hm3 zp19 zq19
               exact AllReadyH.nil
             exact AllReadyH.nil
           exact AllReadyH.nil
         exact AllReadyH.nil
       refine AllReadyH.cons (o := { dst := some 7, op := Op.alloc 41, type := 0, pos := "law.go:64", after := #[], guard := none }) rfl (fun K hK => ?_) ?_
       · go_simp
         have bb : Below V1.heap.size V1 (V1.alloc (.cells #[.string ⟨#[]⟩, .string ⟨#[]⟩, .string ⟨#[]⟩, .string ⟨#[]⟩, .string ⟨#[]⟩, .bool false, .int .i64 0, .int .i64 0, .int .i64 0, .string ⟨#[]⟩, .string ⟨#[]⟩, .string ⟨#[]⟩, .string ⟨#[]⟩, .string ⟨#[]⟩] 41)) := (Below.refl _ _).alloc (Nat.le_refl _) _
         have tt20 := tt1.below bb
         have hBc : W0.heap.size ≤ V1.heap.size := Nat.le_of_lt tt1.lt
         have hI20 := hI1.below bb
         have hT20 := hT1.below bb
         have zq20 := Holds.new V1 41 #[.string ⟨#[]⟩, .string ⟨#[]⟩, .string ⟨#[]⟩, .string ⟨#[]⟩, .string ⟨#[]⟩, .bool false, .int .i64 0, .int .i64 0, .int .i64 0, .string ⟨#[]⟩, .string ⟨#[]⟩, .string ⟨#[]⟩, .string ⟨#[]⟩, .string ⟨#[]⟩]
         clear bb tt1 hI1 hT1
         refine hK.out _ _ ?_ (fun hHeld => ?_)
         · exact HC.out _ tt20.bel
         clear hK K
         try simp only [Act.put, List.setIfInBounds_toArray, List.set_cons_zero, List.set_cons_succ]
         generalize V1.alloc (.cells #[.string ⟨#[]⟩, .string ⟨#[]⟩, .string ⟨#[]⟩, .string ⟨#[]⟩, .string ⟨#[]⟩, .bool false, .int .i64 0, .int .i64 0, .int .i64 0, .string ⟨#[]⟩, .string ⟨#[]⟩, .string ⟨#[]⟩, .string ⟨#[]⟩, .string ⟨#[]⟩] 41) = V20 at *
         generalize V1.heap.size = c at *
         refine wpAnyH_ready (rs := [4, 8]) (by kernel_rfl) (by simp) ?_
         refine AllReadyH.cons (o := { dst := some 23, op := Op.call { callee := Callee.value (Operand.func 9), args := #[Operand.tmp 19, Operand.tmp 22], argTypes := #[30, 47] }, type := 42, pos := "law.go:64", after := #[{ on := 0, ground := Ground.data }, { on := 3, ground := Ground.data }, { on := 3, ground := Ground.chain }], guard := none }) rfl (fun K hK => ?_) ?_
         · obtain ⟨p0, p1, p2, p3, P0, P1, P2, P3, hm0, hm1, hm2, hm3, hCp⟩ := HPt.out _ _ _ _ _ _ _ hln hI20 hT20
           have HCp := Lib.hid hCp
           clear hCp
           go_simp
           go_at_call 9
           with_reducible refine HCp.out.mono ?_
           rintro e V21 ⟨rfl, bb⟩
           have tt21 := tt20.below bb
           have zq21 := (Kept.ofBelow bb).hold _ _ _ (by decide) (by decide) zq20
           clear bb HCp tt20 hI20 hT20 zq20
           go_wp2_with fail
           refine hK.out _ _ ?_ (fun hHeld => ?_)
           · exact HC.out _ tt21.bel
           clear hK K
           try simp only [Act.put, List.setIfInBounds_toArray, List.set_cons_zero, List.set_cons_succ]
           refine wpAnyH_take (i := 5) (oi := { dst := some 18, op := Op.move (Operand.tmp 23), type := 42, pos := "law.go:64", after := #[{ on := 4, ground := Ground.data }], guard := none }) (v := ?_) rfl (by kernel_rfl) (by kernel_rfl) (by kernel_rfl) (fun _ _ _ h => h) (Or.inl ⟨by rfl, ?_⟩) (by assumption) ?_
           rotate_left 1
           · (intro w hSw; (try dsimp only at hSw); go_simp; (try with_reducible rfl))
           try simp only [Act.put, List.setIfInBounds_toArray, List.set_cons_zero, List.set_cons_succ]
           refine wpAnyH_take (i := 6) (oi := { dst := some 24, op := Op.extract (Operand.tmp 18) 0, type := 38, pos := "law.go:64", after := #[{ on := 5, ground := Ground.data }], guard := none }) (v := ?_) rfl (by kernel_rfl) (by kernel_rfl) (by kernel_rfl) (fun _ _ _ h => h) (Or.inl ⟨by rfl, ?_⟩) (by assumption) ?_
           rotate_left 1
           · (intro w hSw; (try dsimp only at hSw); go_simp; (try with_reducible rfl))
           try simp only [Act.put, List.setIfInBounds_toArray, List.set_cons_zero, List.set_cons_succ]
           refine wpAnyH_take (i := 7) (oi := { dst := some 25, op := Op.extract (Operand.tmp 18) 1, type := 41, pos := "law.go:64", after := #[{ on := 5, ground := Ground.data }, { on := 10, ground := Ground.gcOnly Departure.lateStores }], guard := none }) (v := ?_) rfl (by kernel_rfl) (by kernel_rfl) (by kernel_rfl) (fun _ _ _ h => h) (Or.inl ⟨by rfl, ?_⟩) (by assumption) ?_
           rotate_left 1
           · (intro w hSw; (try dsimp only at hSw); go_simp; (try with_reducible rfl))
           try simp only [Act.put, List.setIfInBounds_toArray, List.set_cons_zero, List.set_cons_succ]
           refine wpAnyH_ready (rs := [8]) (by kernel_rfl) (by simp) ?_
           refine AllReadyH.cons (o := { dst := some 6, op := Op.alloc 38, type := 0, pos := "law.go:64", after := #[], guard := none }) rfl (fun K hK => ?_) ?_
           · go_simp
             have bb : Below V21.heap.size V21 (V21.alloc (.cells #[.string ⟨#[]⟩, .string ⟨#[]⟩, .string ⟨#[]⟩, .string ⟨#[]⟩, .int .i64 0, .bool false, .int .u32 0, .int .u32 0, .int .u32 0, .string ⟨#[]⟩, .string ⟨#[]⟩, .int .i64 0, .int .i64 0, .int .i64 0] 38)) := (Below.refl _ _).alloc (Nat.le_refl _) _
             have tt22 := tt21.below bb
             have hBb : W0.heap.size ≤ V21.heap.size := Nat.le_of_lt tt21.lt
             have hne : V21.heap.size ≠ c := fun e => by have := zq21.lt; omega
             have zq22 := (Kept.ofBelow bb).hold _ _ _ (by decide) (by decide) zq21
             have zp22 := Holds.new V21 38 #[.string ⟨#[]⟩, .string ⟨#[]⟩, .string ⟨#[]⟩, .string ⟨#[]⟩, .int .i64 0, .bool false, .int .u32 0, .int .u32 0, .int .u32 0, .string ⟨#[]⟩, .string ⟨#[]⟩, .int .i64 0, .int .i64 0, .int .i64 0]
             clear bb tt21 zq21
             refine hK.out _ _ ?_ (fun hHeld => ?_)
             · exact HC.out _ tt22.bel
             clear hK K
             try simp only [Act.put, List.setIfInBounds_toArray, List.set_cons_zero, List.set_cons_succ]
             generalize V21.alloc (.cells #[.string ⟨#[]⟩, .string ⟨#[]⟩, .string ⟨#[]⟩, .string ⟨#[]⟩, .int .i64 0, .bool false, .int .u32 0, .int .u32 0, .int .u32 0, .string ⟨#[]⟩, .string ⟨#[]⟩, .int .i64 0, .int .i64 0, .int .i64 0] 38) = V22 at *
             generalize V21.heap.size = b at *
             refine wpAnyH_ready (rs := [10]) (by kernel_rfl) (by simp) ?_
             refine AllReadyH.cons (o := { dst := none, op := Op.store 38 (Operand.tmp 6) (Operand.tmp 24), type := 0, pos := "law.go:64", after := #[{ on := 8, ground := Ground.data }, { on := 6, ground := Ground.data }, { on := 4, ground := Ground.chain }, { on := 0, ground := Ground.phase }, { on := 1, ground := Ground.phase }, { on := 2, ground := Ground.phase }, { on := 3, ground := Ground.phase }, { on := 4, ground := Ground.phase }, { on := 5, ground := Ground.phase }, { on := 6, ground := Ground.phase }, { on := 7, ground := Ground.textOnly Departure.lateStores }, { on := 8, ground := Ground.phase }, { on := 9, ground := Ground.phase }], guard := none }) rfl (fun K hK => ?_) ?_
             · refine step_store_row20 rfl 38 _ _ rfl b #[.string (bs v0), .string (bs v1), .string (bs v2), .string (bs v3), .int .i64 p0, .bool asks, .int .u32 (a0 : Int), .int .u32 (a1 : Int), .int .u32 (a2 : Int), .string (bs gp), .string (bs gg), .int .i64 p1, .int .i64 p2, .int .i64 p3] rfl rfl 38 #[.string ⟨#[]⟩, .string ⟨#[]⟩, .string ⟨#[]⟩, .string ⟨#[]⟩, .int .i64 0, .bool false, .int .u32 0, .int .u32 0, .int .u32 0, .string ⟨#[]⟩, .string ⟨#[]⟩, .int .i64 0, .int .i64 0, .int .i64 0] zp22 (by exact sizeXPT) (by rfl) (by simp [Value.oneCell']) ?_
               have tt23 := ta_row20 tt22 zp22 (by decide) (by decide) hBb #[.string (bs v0), .string (bs v1), .string (bs v2), .string (bs v3), .int .i64 p0, .bool asks, .int .u32 (a0 : Int), .int .u32 (a1 : Int), .int .u32 (a2 : Int), .string (bs gp), .string (bs gg), .int .i64 p1, .int .i64 p2, .int .i64 p3]
               have zp23 : Holds (V22.setRow b #[.string (bs v0), .string (bs v1), .string (bs v2), .string (bs v3), .int .i64 p0, .bool asks, .int .u32 (a0 : Int), .int .u32 (a1 : Int), .int .u32 (a2 : Int), .string (bs gp), .string (bs gg), .int .i64 p1, .int .i64 p2, .int .i64 p3]) b 38 #[.string (bs v0), .string (bs v1), .string (bs v2), .string (bs v3), .int .i64 p0, .bool asks, .int .u32 (a0 : Int), .int .u32 (a1 : Int), .int .u32 (a2 : Int), .string (bs gp), .string (bs gg), .int .i64 p1, .int .i64 p2, .int .i64 p3] := setRow_heap _ _ _ _ _ _ zp22
               have zq23 := zq22.moves (moves_row20 V22 b #[.string (bs v0), .string (bs v1), .string (bs v2), .string (bs v3), .int .i64 p0, .bool asks, .int .u32 (a0 : Int), .int .u32 (a1 : Int), .int .u32 (a2 : Int), .string (bs gp), .string (bs gg), .int .i64 p1, .int .i64 p2, .int .i64 p3]) (fun e => hne e.symm)
               clear tt22 zp22 zq22
               refine hK.out _ _ ?_ (fun hHeld => ?_)
               · exact HC.out _ tt23.bel
               clear hK K
               try simp only [Act.put, List.setIfInBounds_toArray, List.set_cons_zero, List.set_cons_succ]
               generalize V22.setRow b #[.string (bs v0), .string (bs v1), .string (bs v2), .string (bs v3), .int .i64 p0, .bool asks, .int .u32 (a0 : Int), .int .u32 (a1 : Int), .int .u32 (a2 : Int), .string (bs gp), .string (bs gg), .int .i64 p1, .int .i64 p2, .int .i64 p3] = V23 at *
               refine wpAnyH_ready (rs := [11]) (by kernel_rfl) (by simp) ?_
               refine AllReadyH.cons (o := { dst := none, op := Op.store 41 (Operand.tmp 7) (Operand.tmp 25), type := 0, pos := "law.go:64", after := #[{ on := 9, ground := Ground.data }, { on := 7, ground := Ground.data }, { on := 10, ground := Ground.chain }, { on := 0, ground := Ground.phase }, { on := 1, ground := Ground.phase }, { on := 2, ground := Ground.phase }, { on := 3, ground := Ground.phase }, { on := 4, ground := Ground.phase }, { on := 5, ground := Ground.phase }, { on := 6, ground := Ground.phase }, { on := 7, ground := Ground.phase }, { on := 8, ground := Ground.phase }, { on := 9, ground := Ground.phase }, { on := 10, ground := Ground.phase }], guard := none }) rfl (fun K hK => ?_) ?_
               · refine step_store_row20 rfl 41 _ _ rfl c #[.string (bs v0), .string (bs v1), .string (bs v2), .string (bs v3), .string (bs P0), .bool asks, .int .i64 (a0 : Int), .int .i64 (a1 : Int), .int .i64 (a2 : Int), .string (bs gp), .string (bs gg), .string (bs P1), .string (bs P2), .string (bs P3)] rfl rfl 41 #[.string ⟨#[]⟩, .string ⟨#[]⟩, .string ⟨#[]⟩, .string ⟨#[]⟩, .string ⟨#[]⟩, .bool false, .int .i64 0, .int .i64 0, .int .i64 0, .string ⟨#[]⟩, .string ⟨#[]⟩, .string ⟨#[]⟩, .string ⟨#[]⟩, .string ⟨#[]⟩] zq23 (by exact sizeQPT) (by rfl) (by simp [Value.oneCell']) ?_
                 have tt24 := ta_row20 tt23 zq23 (by decide) (by decide) hBc #[.string (bs v0), .string (bs v1), .string (bs v2), .string (bs v3), .string (bs P0), .bool asks, .int .i64 (a0 : Int), .int .i64 (a1 : Int), .int .i64 (a2 : Int), .string (bs gp), .string (bs gg), .string (bs P1), .string (bs P2), .string (bs P3)]
                 have zq24 : Holds (V23.setRow c #[.string (bs v0), .string (bs v1), .string (bs v2), .string (bs v3), .string (bs P0), .bool asks, .int .i64 (a0 : Int), .int .i64 (a1 : Int), .int .i64 (a2 : Int), .string (bs gp), .string (bs gg), .string (bs P1), .string (bs P2), .string (bs P3)]) c 41 #[.string (bs v0), .string (bs v1), .string (bs v2), .string (bs v3), .string (bs P0), .bool asks, .int .i64 (a0 : Int), .int .i64 (a1 : Int), .int .i64 (a2 : Int), .string (bs gp), .string (bs gg), .string (bs P1), .string (bs P2), .string (bs P3)] := setRow_heap _ _ _ _ _ _ zq23
                 have zp24 := zp23.moves (moves_row20 V23 c #[.string (bs v0), .string (bs v1), .string (bs v2), .string (bs v3), .string (bs P0), .bool asks, .int .i64 (a0 : Int), .int .i64 (a1 : Int), .int .i64 (a2 : Int), .string (bs gp), .string (bs gg), .string (bs P1), .string (bs P2), .string (bs P3)]) (fun e => hne e)
                 clear tt23 zq23 zp23
                 refine hK.out _ _ ?_ (fun hHeld => ?_)
                 · exact HC.out _ tt24.bel
                 clear hK K
                 try simp only [Act.put, List.setIfInBounds_toArray, List.set_cons_zero, List.set_cons_succ]
                 generalize V23.setRow c #[.string (bs v0), .string (bs v1), .string (bs v2), .string (bs v3), .string (bs P0), .bool asks, .int .i64 (a0 : Int), .int .i64 (a1 : Int), .int .i64 (a2 : Int), .string (bs gp), .string (bs gg), .string (bs P1), .string (bs P2), .string (bs P3)] = V24 at *
                 refine wpAnyH_done (by kernel_rfl) ?_ _
                 go_wp2_with fail
                 go_meet
                 case rel => exact TCut.mk tt24 hl hm0 hm1 hm2 hm3 zp24 zq24
               exact AllReadyH.nil
             exact AllReadyH.nil
           exact AllReadyH.nil
         refine AllReadyH.cons (o := { dst := some 6, op := Op.alloc 38, type := 0, pos := "law.go:64", after := #[], guard := none }) rfl (fun K hK => ?_) ?_
         · go_simp
           have bb : Below V20.heap.size V20 (V20.alloc (.cells #[.string ⟨#[]⟩, .string ⟨#[]⟩, .string ⟨#[]⟩, .string ⟨#[]⟩, .int .i64 0, .bool false, .int .u32 0, .int .u32 0, .int .u32 0, .string ⟨#[]⟩, .string ⟨#[]⟩, .int .i64 0, .int .i64 0, .int .i64 0] 38)) := (Below.refl _ _).alloc (Nat.le_refl _) _
           have tt25 := tt20.below bb
           have hBb : W0.heap.size ≤ V20.heap.size := Nat.le_of_lt tt20.lt
           have hne : V20.heap.size ≠ c := fun e => by have := zq20.lt; omega
           have zq25 := (Kept.ofBelow bb).hold _ _ _ (by decide) (by decide) zq20
           have hI25 := hI20.below bb
           have hT25 := hT20.below bb
           have zp25 := Holds.new V20 38 #[.string ⟨#[]⟩, .string ⟨#[]⟩, .string ⟨#[]⟩, .string ⟨#[]⟩, .int .i64 0, .bool false, .int .u32 0, .int .u32 0, .int .u32 0, .string ⟨#[]⟩, .string ⟨#[]⟩, .int .i64 0, .int .i64 0, .int .i64 0]
           clear bb tt20 zq20 hI20 hT20
           refine hK.out _ _ ?_ (fun hHeld => ?_)
           · exact HC.out _ tt25.bel
           clear hK K
           try simp only [Act.put, List.setIfInBounds_toArray, List.set_cons_zero, List.set_cons_succ]
           generalize V20.alloc (.cells #[.string ⟨#[]⟩, .string ⟨#[]⟩, .string ⟨#[]⟩, .string ⟨#[]⟩, .int .i64 0, .bool false, .int .u32 0, .int .u32 0, .int .u32 0, .string ⟨#[]⟩, .string ⟨#[]⟩, .int .i64 0, .int .i64 0, .int .i64 0] 38) = V25 at *
           generalize V20.heap.size = b at *
           refine wpAnyH_ready (rs := [4]) (by kernel_rfl) (by simp) ?_
           refine AllReadyH.cons (o := { dst := some 23, op := Op.call { callee := Callee.value (Operand.func 9), args := #[Operand.tmp 19, Operand.tmp 22], argTypes := #[30, 47] }, type := 42, pos := "law.go:64", after := #[{ on := 0, ground := Ground.data }, { on := 3, ground := Ground.data }, { on := 3, ground := Ground.chain }], guard := none }) rfl (fun K hK => ?_) ?_
           · obtain ⟨p0, p1, p2, p3, P0, P1, P2, P3, hm0, hm1, hm2, hm3, hCp⟩ := HPt.out _ _ _ _ _ _ _ hln hI25 hT25
             have HCp := Lib.hid hCp
             clear hCp
             go_simp
             go_at_call 9
             with_reducible refine HCp.out.mono ?_
             rintro e V26 ⟨rfl, bb⟩
             have tt26 := tt25.below bb
             have zp26 := (Kept.ofBelow bb).hold _ _ _ (by decide) (by decide) zp25
             have zq26 := (Kept.ofBelow bb).hold _ _ _ (by decide) (by decide) zq25
             clear bb HCp tt25 hI25 hT25 zp25 zq25
             go_wp2_with fail
             refine hK.out _ _ ?_ (fun hHeld => ?_)
             · exact HC.out _ tt26.bel
             clear hK K
             try simp only [Act.put, List.setIfInBounds_toArray, List.set_cons_zero, List.set_cons_succ]
             refine wpAnyH_take (i := 5) (oi := { dst := some 18, op := Op.move (Operand.tmp 23), type := 42, pos := "law.go:64", after := #[{ on := 4, ground := Ground.data }], guard := none }) (v := ?_) rfl (by kernel_rfl) (by kernel_rfl) (by kernel_rfl) (fun _ _ _ h => h) (Or.inl ⟨by rfl, ?_⟩) (by assumption) ?_
             rotate_left 1
             · (intro w hSw; (try dsimp only at hSw); go_simp; (try with_reducible rfl))
             try simp only [Act.put, List.setIfInBounds_toArray, List.set_cons_zero, List.set_cons_succ]
             refine wpAnyH_take (i := 6) (oi := { dst := some 24, op := Op.extract (Operand.tmp 18) 0, type := 38, pos := "law.go:64", after := #[{ on := 5, ground := Ground.data }], guard := none }) (v := ?_) rfl (by kernel_rfl) (by kernel_rfl) (by kernel_rfl) (fun _ _ _ h => h) (Or.inl ⟨by rfl, ?_⟩) (by assumption) ?_
             rotate_left 1
             · (intro w hSw; (try dsimp only at hSw); go_simp; (try with_reducible rfl))
             try simp only [Act.put, List.setIfInBounds_toArray, List.set_cons_zero, List.set_cons_succ]
             refine wpAnyH_take (i := 7) (oi := { dst := some 25, op := Op.extract (Operand.tmp 18) 1, type := 41, pos := "law.go:64", after := #[{ on := 5, ground := Ground.data }, { on := 10, ground := Ground.gcOnly Departure.lateStores }], guard := none }) (v := ?_) rfl (by kernel_rfl) (by kernel_rfl) (by kernel_rfl) (fun _ _ _ h => h) (Or.inl ⟨by rfl, ?_⟩) (by assumption) ?_
             rotate_left 1
             · (intro w hSw; (try dsimp only at hSw); go_simp; (try with_reducible rfl))
             try simp only [Act.put, List.setIfInBounds_toArray, List.set_cons_zero, List.set_cons_succ]
             refine wpAnyH_ready (rs := [10]) (by kernel_rfl) (by simp) ?_
             refine AllReadyH.cons (o := { dst := none, op := Op.store 38 (Operand.tmp 6) (Operand.tmp 24), type := 0, pos := "law.go:64", after := #[{ on := 8, ground := Ground.data }, { on := 6, ground := Ground.data }, { on := 4, ground := Ground.chain }, { on := 0, ground := Ground.phase }, { on := 1, ground := Ground.phase }, { on := 2, ground := Ground.phase }, { on := 3, ground := Ground.phase }, { on := 4, ground := Ground.phase }, { on := 5, ground := Ground.phase }, { on := 6, ground := Ground.phase }, { on := 7, ground := Ground.textOnly Departure.lateStores }, { on := 8, ground := Ground.phase }, { on := 9, ground := Ground.phase }], guard := none }) rfl (fun K hK => ?_) ?_
             · refine step_store_row20 rfl 38 _ _ rfl b #[.string (bs v0), .string (bs v1), .string (bs v2), .string (bs v3), .int .i64 p0, .bool asks, .int .u32 (a0 : Int), .int .u32 (a1 : Int), .int .u32 (a2 : Int), .string (bs gp), .string (bs gg), .int .i64 p1, .int .i64 p2, .int .i64 p3] rfl rfl 38 #[.string ⟨#[]⟩, .string ⟨#[]⟩, .string ⟨#[]⟩, .string ⟨#[]⟩, .int .i64 0, .bool false, .int .u32 0, .int .u32 0, .int .u32 0, .string ⟨#[]⟩, .string ⟨#[]⟩, .int .i64 0, .int .i64 0, .int .i64 0] zp26 (by exact sizeXPT) (by rfl) (by simp [Value.oneCell']) ?_
               have tt27 := ta_row20 tt26 zp26 (by decide) (by decide) hBb #[.string (bs v0), .string (bs v1), .string (bs v2), .string (bs v3), .int .i64 p0, .bool asks, .int .u32 (a0 : Int), .int .u32 (a1 : Int), .int .u32 (a2 : Int), .string (bs gp), .string (bs gg), .int .i64 p1, .int .i64 p2, .int .i64 p3]
               have zp27 : Holds (V26.setRow b #[.string (bs v0), .string (bs v1), .string (bs v2), .string (bs v3), .int .i64 p0, .bool asks, .int .u32 (a0 : Int), .int .u32 (a1 : Int), .int .u32 (a2 : Int), .string (bs gp), .string (bs gg), .int .i64 p1, .int .i64 p2, .int .i64 p3]) b 38 #[.string (bs v0), .string (bs v1), .string (bs v2), .string (bs v3), .int .i64 p0, .bool asks, .int .u32 (a0 : Int), .int .u32 (a1 : Int), .int .u32 (a2 : Int), .string (bs gp), .string (bs gg), .int .i64 p1, .int .i64 p2, .int .i64 p3] := setRow_heap _ _ _ _ _ _ zp26
               have zq27 := zq26.moves (moves_row20 V26 b #[.string (bs v0), .string (bs v1), .string (bs v2), .string (bs v3), .int .i64 p0, .bool asks, .int .u32 (a0 : Int), .int .u32 (a1 : Int), .int .u32 (a2 : Int), .string (bs gp), .string (bs gg), .int .i64 p1, .int .i64 p2, .int .i64 p3]) (fun e => hne e.symm)
               clear tt26 zp26 zq26
               refine hK.out _ _ ?_ (fun hHeld => ?_)
               · exact HC.out _ tt27.bel
               clear hK K
               try simp only [Act.put, List.setIfInBounds_toArray, List.set_cons_zero, List.set_cons_succ]
               generalize V26.setRow b #[.string (bs v0), .string (bs v1), .string (bs v2), .string (bs v3), .int .i64 p0, .bool asks, .int .u32 (a0 : Int), .int .u32 (a1 : Int), .int .u32 (a2 : Int), .string (bs gp), .string (bs gg), .int .i64 p1, .int .i64 p2, .int .i64 p3] = V27 at *
               refine wpAnyH_ready (rs := [11]) (by kernel_rfl) (by simp) ?_
               refine AllReadyH.cons (o := { dst := none, op := Op.store 41 (Operand.tmp 7) (Operand.tmp 25), type := 0, pos := "law.go:64", after := #[{ on := 9, ground := Ground.data }, { on := 7, ground := Ground.data }, { on := 10, ground := Ground.chain }, { on := 0, ground := Ground.phase }, { on := 1, ground := Ground.phase }, { on := 2, ground := Ground.phase }, { on := 3, ground := Ground.phase }, { on := 4, ground := Ground.phase }, { on := 5, ground := Ground.phase }, { on := 6, ground := Ground.phase }, { on := 7, ground := Ground.phase }, { on := 8, ground := Ground.phase }, { on := 9, ground := Ground.phase }, { on := 10, ground := Ground.phase }], guard := none }) rfl (fun K hK => ?_) ?_
               · refine step_store_row20 rfl 41 _ _ rfl c #[.string (bs v0), .string (bs v1), .string (bs v2), .string (bs v3), .string (bs P0), .bool asks, .int .i64 (a0 : Int), .int .i64 (a1 : Int), .int .i64 (a2 : Int), .string (bs gp), .string (bs gg), .string (bs P1), .string (bs P2), .string (bs P3)] rfl rfl 41 #[.string ⟨#[]⟩, .string ⟨#[]⟩, .string ⟨#[]⟩, .string ⟨#[]⟩, .string ⟨#[]⟩, .bool false, .int .i64 0, .int .i64 0, .int .i64 0, .string ⟨#[]⟩, .string ⟨#[]⟩, .string ⟨#[]⟩, .string ⟨#[]⟩, .string ⟨#[]⟩] zq27 (by exact sizeQPT) (by rfl) (by simp [Value.oneCell']) ?_
                 have tt28 := ta_row20 tt27 zq27 (by decide) (by decide) hBc #[.string (bs v0), .string (bs v1), .string (bs v2), .string (bs v3), .string (bs P0), .bool asks, .int .i64 (a0 : Int), .int .i64 (a1 : Int), .int .i64 (a2 : Int), .string (bs gp), .string (bs gg), .string (bs P1), .string (bs P2), .string (bs P3)]
                 have zq28 : Holds (V27.setRow c #[.string (bs v0), .string (bs v1), .string (bs v2), .string (bs v3), .string (bs P0), .bool asks, .int .i64 (a0 : Int), .int .i64 (a1 : Int), .int .i64 (a2 : Int), .string (bs gp), .string (bs gg), .string (bs P1), .string (bs P2), .string (bs P3)]) c 41 #[.string (bs v0), .string (bs v1), .string (bs v2), .string (bs v3), .string (bs P0), .bool asks, .int .i64 (a0 : Int), .int .i64 (a1 : Int), .int .i64 (a2 : Int), .string (bs gp), .string (bs gg), .string (bs P1), .string (bs P2), .string (bs P3)] := setRow_heap _ _ _ _ _ _ zq27
                 have zp28 := zp27.moves (moves_row20 V27 c #[.string (bs v0), .string (bs v1), .string (bs v2), .string (bs v3), .string (bs P0), .bool asks, .int .i64 (a0 : Int), .int .i64 (a1 : Int), .int .i64 (a2 : Int), .string (bs gp), .string (bs gg), .string (bs P1), .string (bs P2), .string (bs P3)]) (fun e => hne e)
                 clear tt27 zq27 zp27
                 refine hK.out _ _ ?_ (fun hHeld => ?_)
                 · exact HC.out _ tt28.bel
                 clear hK K
                 try simp only [Act.put, List.setIfInBounds_toArray, List.set_cons_zero, List.set_cons_succ]
                 generalize V27.setRow c #[.string (bs v0), .string (bs v1), .string (bs v2), .string (bs v3), .string (bs P0), .bool asks, .int .i64 (a0 : Int), .int .i64 (a1 : Int), .int .i64 (a2 : Int), .string (bs gp), .string (bs gg), .string (bs P1), .string (bs P2), .string (bs P3)] = V28 at *
                 refine wpAnyH_done (by kernel_rfl) ?_ _
                 go_wp2_with fail
                 go_meet
                 case rel => exact TCut.mk tt28 hl hm0 hm1 hm2 hm3 zp28 zq28
               exact AllReadyH.nil
             exact AllReadyH.nil
           exact AllReadyH.nil
         exact AllReadyH.nil
       exact AllReadyH.nil
     refine AllReadyH.cons (o := { dst := some 6, op := Op.alloc 38, type := 0, pos := "law.go:64", after := #[], guard := none }) rfl (fun K hK => ?_) ?_
     · go_simp
       have bb : Below V0.heap.size V0 (V0.alloc (.cells #[.string ⟨#[]⟩, .string ⟨#[]⟩, .string ⟨#[]⟩, .string ⟨#[]⟩, .int .i64 0, .bool false, .int .u32 0, .int .u32 0, .int .u32 0, .string ⟨#[]⟩, .string ⟨#[]⟩, .int .i64 0, .int .i64 0, .int .i64 0] 38)) := (Below.refl _ _).alloc (Nat.le_refl _) _
       have tt29 := tt0.below bb
       have hBb : W0.heap.size ≤ V0.heap.size := Nat.le_of_lt tt0.lt
       have zp29 := Holds.new V0 38 #[.string ⟨#[]⟩, .string ⟨#[]⟩, .string ⟨#[]⟩, .string ⟨#[]⟩, .int .i64 0, .bool false, .int .u32 0, .int .u32 0, .int .u32 0, .string ⟨#[]⟩, .string ⟨#[]⟩, .int .i64 0, .int .i64 0, .int .i64 0]
       clear bb tt0
       refine hK.out _ _ ?_ (fun hHeld => ?_)
       · exact HC.out _ tt29.bel
       clear hK K
       try simp only [Act.put, List.setIfInBounds_toArray, List.set_cons_zero, List.set_cons_succ]
       generalize V0.alloc (.cells #[.string ⟨#[]⟩, .string ⟨#[]⟩, .string ⟨#[]⟩, .string ⟨#[]⟩, .int .i64 0, .bool false, .int .u32 0, .int .u32 0, .int .u32 0, .string ⟨#[]⟩, .string ⟨#[]⟩, .int .i64 0, .int .i64 0, .int .i64 0] 38) = V29 at *
       generalize V0.heap.size = b at *
       refine wpAnyH_ready (rs := [3, 9]) (by kernel_rfl) (by simp) ?_
       refine AllReadyH.cons (o := { dst := some 22, op := Op.call { callee := Callee.value (Operand.func 10), args := #[Operand.tmp 20, Operand.tmp 21], argTypes := #[34, 22] }, type := 47, pos := "law.go:64", after := #[{ on := 1, ground := Ground.data }, { on := 2, ground := Ground.data }], guard := none }) rfl (fun K hK => ?_) ?_
       · go_simp
         go_at_call 10
         with_reducible refine (HMk.out _ _ tt29).mono ?_
         rintro e V30 ⟨ids, texts, ai, ci, at', ct, rfl, hln, hI30, hT30, tt30, kp⟩
         have zp30 := kp.hold _ _ _ (by decide) (by decide) zp29
         go_wp2_with fail
         refine hK.out _ _ ?_ (fun hHeld => ?_)
         · exact HC.out _ tt30.bel
         clear hK K
         try simp only [Act.put, List.setIfInBounds_toArray, List.set_cons_zero, List.set_cons_succ]
         clear kp tt29 zp29
         refine wpAnyH_ready (rs := [4, 9]) (by kernel_rfl) (by simp) ?_
         refine AllReadyH.cons (o := { dst := some 23, op := Op.call { callee := Callee.value (Operand.func 9), args := #[Operand.tmp 19, Operand.tmp 22], argTypes := #[30, 47] }, type := 42, pos := "law.go:64", after := #[{ on := 0, ground := Ground.data }, { on := 3, ground := Ground.data }, { on := 3, ground := Ground.chain }], guard := none }) rfl (fun K hK => ?_) ?_
         · obtain ⟨p0, p1, p2, p3, P0, P1, P2, P3, hm0, hm1, hm2, hm3, hCp⟩ := HPt.out _ _ _ _ _ _ _ hln hI30 hT30
           have HCp := Lib.hid hCp
           clear hCp
           go_simp
           go_at_call 9
           with_reducible refine HCp.out.mono ?_
           rintro e V31 ⟨rfl, bb⟩
           have tt31 := tt30.below bb
           have zp31 := (Kept.ofBelow bb).hold _ _ _ (by decide) (by decide) zp30
           clear bb HCp tt30 hI30 hT30 zp30
           go_wp2_with fail
           refine hK.out _ _ ?_ (fun hHeld => ?_)
           · exact HC.out _ tt31.bel
           clear hK K
           try simp only [Act.put, List.setIfInBounds_toArray, List.set_cons_zero, List.set_cons_succ]
           refine wpAnyH_take (i := 5) (oi := { dst := some 18, op := Op.move (Operand.tmp 23), type := 42, pos := "law.go:64", after := #[{ on := 4, ground := Ground.data }], guard := none }) (v := ?_) rfl (by kernel_rfl) (by kernel_rfl) (by kernel_rfl) (fun _ _ _ h => h) (Or.inl ⟨by rfl, ?_⟩) (by assumption) ?_
           rotate_left 1
           · (intro w hSw; (try dsimp only at hSw); go_simp; (try with_reducible rfl))
           try simp only [Act.put, List.setIfInBounds_toArray, List.set_cons_zero, List.set_cons_succ]
           refine wpAnyH_take (i := 6) (oi := { dst := some 24, op := Op.extract (Operand.tmp 18) 0, type := 38, pos := "law.go:64", after := #[{ on := 5, ground := Ground.data }], guard := none }) (v := ?_) rfl (by kernel_rfl) (by kernel_rfl) (by kernel_rfl) (fun _ _ _ h => h) (Or.inl ⟨by rfl, ?_⟩) (by assumption) ?_
           rotate_left 1
           · (intro w hSw; (try dsimp only at hSw); go_simp; (try with_reducible rfl))
           try simp only [Act.put, List.setIfInBounds_toArray, List.set_cons_zero, List.set_cons_succ]
           refine wpAnyH_take (i := 7) (oi := { dst := some 25, op := Op.extract (Operand.tmp 18) 1, type := 41, pos := "law.go:64", after := #[{ on := 5, ground := Ground.data }, { on := 10, ground := Ground.gcOnly Departure.lateStores }], guard := none }) (v := ?_) rfl (by kernel_rfl) (by kernel_rfl) (by kernel_rfl) (fun _ _ _ h => h) (Or.inl ⟨by rfl, ?_⟩) (by assumption) ?_
           rotate_left 1
           · (intro w hSw; (try dsimp only at hSw); go_simp; (try with_reducible rfl))
           try simp only [Act.put, List.setIfInBounds_toArray, List.set_cons_zero, List.set_cons_succ]
           refine wpAnyH_ready (rs := [9]) (by kernel_rfl) (by simp) ?_
           refine AllReadyH.cons (o := { dst := some 7, op := Op.alloc 41, type := 0, pos := "law.go:64", after := #[], guard := none }) rfl (fun K hK => ?_) ?_
           · go_simp
             have bb : Below V31.heap.size V31 (V31.alloc (.cells #[.string ⟨#[]⟩, .string ⟨#[]⟩, .string ⟨#[]⟩, .string ⟨#[]⟩, .string ⟨#[]⟩, .bool false, .int .i64 0, .int .i64 0, .int .i64 0, .string ⟨#[]⟩, .string ⟨#[]⟩, .string ⟨#[]⟩, .string ⟨#[]⟩, .string ⟨#[]⟩] 41)) := (Below.refl _ _).alloc (Nat.le_refl _) _
             have tt32 := tt31.below bb
             have hBc : W0.heap.size ≤ V31.heap.size := Nat.le_of_lt tt31.lt
             have hne : V31.heap.size ≠ b := fun e => by have := zp31.lt; omega
             have zp32 := (Kept.ofBelow bb).hold _ _ _ (by decide) (by decide) zp31
             have zq32 := Holds.new V31 41 #[.string ⟨#[]⟩, .string ⟨#[]⟩, .string ⟨#[]⟩, .string ⟨#[]⟩, .string ⟨#[]⟩, .bool false, .int .i64 0, .int .i64 0, .int .i64 0, .string ⟨#[]⟩, .string ⟨#[]⟩, .string ⟨#[]⟩, .string ⟨#[]⟩, .string ⟨#[]⟩]
             clear bb tt31 zp31
             refine hK.out _ _ ?_ (fun hHeld => ?_)
             · exact HC.out _ tt32.bel
             clear hK K
             try simp only [Act.put, List.setIfInBounds_toArray, List.set_cons_zero, List.set_cons_succ]
             generalize V31.alloc (.cells #[.string ⟨#[]⟩, .string ⟨#[]⟩, .string ⟨#[]⟩, .string ⟨#[]⟩, .string ⟨#[]⟩, .bool false, .int .i64 0, .int .i64 0, .int .i64 0, .string ⟨#[]⟩, .string ⟨#[]⟩, .string ⟨#[]⟩, .string ⟨#[]⟩, .string ⟨#[]⟩] 41) = V32 at *
             generalize V31.heap.size = c at *
             refine wpAnyH_ready (rs := [10]) (by kernel_rfl) (by simp) ?_
             refine AllReadyH.cons (o := { dst := none, op := Op.store 38 (Operand.tmp 6) (Operand.tmp 24), type := 0, pos := "law.go:64", after := #[{ on := 8, ground := Ground.data }, { on := 6, ground := Ground.data }, { on := 4, ground := Ground.chain }, { on := 0, ground := Ground.phase }, { on := 1, ground := Ground.phase }, { on := 2, ground := Ground.phase }, { on := 3, ground := Ground.phase }, { on := 4, ground := Ground.phase }, { on := 5, ground := Ground.phase }, { on := 6, ground := Ground.phase }, { on := 7, ground := Ground.textOnly Departure.lateStores }, { on := 8, ground := Ground.phase }, { on := 9, ground := Ground.phase }], guard := none }) rfl (fun K hK => ?_) ?_
             · refine step_store_row20 rfl 38 _ _ rfl b #[.string (bs v0), .string (bs v1), .string (bs v2), .string (bs v3), .int .i64 p0, .bool asks, .int .u32 (a0 : Int), .int .u32 (a1 : Int), .int .u32 (a2 : Int), .string (bs gp), .string (bs gg), .int .i64 p1, .int .i64 p2, .int .i64 p3] rfl rfl 38 #[.string ⟨#[]⟩, .string ⟨#[]⟩, .string ⟨#[]⟩, .string ⟨#[]⟩, .int .i64 0, .bool false, .int .u32 0, .int .u32 0, .int .u32 0, .string ⟨#[]⟩, .string ⟨#[]⟩, .int .i64 0, .int .i64 0, .int .i64 0] zp32 (by exact sizeXPT) (by rfl) (by simp [Value.oneCell']) ?_
               have tt33 := ta_row20 tt32 zp32 (by decide) (by decide) hBb #[.string (bs v0), .string (bs v1), .string (bs v2), .string (bs v3), .int .i64 p0, .bool asks, .int .u32 (a0 : Int), .int .u32 (a1 : Int), .int .u32 (a2 : Int), .string (bs gp), .string (bs gg), .int .i64 p1, .int .i64 p2, .int .i64 p3]
               have zp33 : Holds (V32.setRow b #[.string (bs v0), .string (bs v1), .string (bs v2), .string (bs v3), .int .i64 p0, .bool asks, .int .u32 (a0 : Int), .int .u32 (a1 : Int), .int .u32 (a2 : Int), .string (bs gp), .string (bs gg), .int .i64 p1, .int .i64 p2, .int .i64 p3]) b 38 #[.string (bs v0), .string (bs v1), .string (bs v2), .string (bs v3), .int .i64 p0, .bool asks, .int .u32 (a0 : Int), .int .u32 (a1 : Int), .int .u32 (a2 : Int), .string (bs gp), .string (bs gg), .int .i64 p1, .int .i64 p2, .int .i64 p3] := setRow_heap _ _ _ _ _ _ zp32
               have zq33 := zq32.moves (moves_row20 V32 b #[.string (bs v0), .string (bs v1), .string (bs v2), .string (bs v3), .int .i64 p0, .bool asks, .int .u32 (a0 : Int), .int .u32 (a1 : Int), .int .u32 (a2 : Int), .string (bs gp), .string (bs gg), .int .i64 p1, .int .i64 p2, .int .i64 p3]) (fun e => hne e)
               clear tt32 zp32 zq32
               refine hK.out _ _ ?_ (fun hHeld => ?_)
               · exact HC.out _ tt33.bel
               clear hK K
               try simp only [Act.put, List.setIfInBounds_toArray, List.set_cons_zero, List.set_cons_succ]
               generalize V32.setRow b #[.string (bs v0), .string (bs v1), .string (bs v2), .string (bs v3), .int .i64 p0, .bool asks, .int .u32 (a0 : Int), .int .u32 (a1 : Int), .int .u32 (a2 : Int), .string (bs gp), .string (bs gg), .int .i64 p1, .int .i64 p2, .int .i64 p3] = V33 at *
               refine wpAnyH_ready (rs := [11]) (by kernel_rfl) (by simp) ?_
               refine AllReadyH.cons (o := { dst := none, op := Op.store 41 (Operand.tmp 7) (Operand.tmp 25), type := 0, pos := "law.go:64", after := #[{ on := 9, ground := Ground.data }, { on := 7, ground := Ground.data }, { on := 10, ground := Ground.chain }, { on := 0, ground := Ground.phase }, { on := 1, ground := Ground.phase }, { on := 2, ground := Ground.phase }, { on := 3, ground := Ground.phase }, { on := 4, ground := Ground.phase }, { on := 5, ground := Ground.phase }, { on := 6, ground := Ground.phase }, { on := 7, ground := Ground.phase }, { on := 8, ground := Ground.phase }, { on := 9, ground := Ground.phase }, { on := 10, ground := Ground.phase }], guard := none }) rfl (fun K hK => ?_) ?_
               · refine step_store_row20 rfl 41 _ _ rfl c #[.string (bs v0), .string (bs v1), .string (bs v2), .string (bs v3), .string (bs P0), .bool asks, .int .i64 (a0 : Int), .int .i64 (a1 : Int), .int .i64 (a2 : Int), .string (bs gp), .string (bs gg), .string (bs P1), .string (bs P2), .string (bs P3)] rfl rfl 41 #[.string ⟨#[]⟩, .string ⟨#[]⟩, .string ⟨#[]⟩, .string ⟨#[]⟩, .string ⟨#[]⟩, .bool false, .int .i64 0, .int .i64 0, .int .i64 0, .string ⟨#[]⟩, .string ⟨#[]⟩, .string ⟨#[]⟩, .string ⟨#[]⟩, .string ⟨#[]⟩] zq33 (by exact sizeQPT) (by rfl) (by simp [Value.oneCell']) ?_
                 have tt34 := ta_row20 tt33 zq33 (by decide) (by decide) hBc #[.string (bs v0), .string (bs v1), .string (bs v2), .string (bs v3), .string (bs P0), .bool asks, .int .i64 (a0 : Int), .int .i64 (a1 : Int), .int .i64 (a2 : Int), .string (bs gp), .string (bs gg), .string (bs P1), .string (bs P2), .string (bs P3)]
                 have zq34 : Holds (V33.setRow c #[.string (bs v0), .string (bs v1), .string (bs v2), .string (bs v3), .string (bs P0), .bool asks, .int .i64 (a0 : Int), .int .i64 (a1 : Int), .int .i64 (a2 : Int), .string (bs gp), .string (bs gg), .string (bs P1), .string (bs P2), .string (bs P3)]) c 41 #[.string (bs v0), .string (bs v1), .string (bs v2), .string (bs v3), .string (bs P0), .bool asks, .int .i64 (a0 : Int), .int .i64 (a1 : Int), .int .i64 (a2 : Int), .string (bs gp), .string (bs gg), .string (bs P1), .string (bs P2), .string (bs P3)] := setRow_heap _ _ _ _ _ _ zq33
                 have zp34 := zp33.moves (moves_row20 V33 c #[.string (bs v0), .string (bs v1), .string (bs v2), .string (bs v3), .string (bs P0), .bool asks, .int .i64 (a0 : Int), .int .i64 (a1 : Int), .int .i64 (a2 : Int), .string (bs gp), .string (bs gg), .string (bs P1), .string (bs P2), .string (bs P3)]) (fun e => hne e.symm)
                 clear tt33 zq33 zp33
                 refine hK.out _ _ ?_ (fun hHeld => ?_)
                 · exact HC.out _ tt34.bel
                 clear hK K
                 try simp only [Act.put, List.setIfInBounds_toArray, List.set_cons_zero, List.set_cons_succ]
                 generalize V33.setRow c #[.string (bs v0), .string (bs v1), .string (bs v2), .string (bs v3), .string (bs P0), .bool asks, .int .i64 (a0 : Int), .int .i64 (a1 : Int), .int .i64 (a2 : Int), .string (bs gp), .string (bs gg), .string (bs P1), .string (bs P2), .string (bs P3)] = V34 at *
                 refine wpAnyH_done (by kernel_rfl) ?_ _
                 go_wp2_with fail
                 go_meet
                 case rel => exact TCut.mk tt34 hl hm0 hm1 hm2 hm3 zp34 zq34
               exact AllReadyH.nil
             exact AllReadyH.nil
           exact AllReadyH.nil
         refine AllReadyH.cons (o := { dst := some 7, op := Op.alloc 41, type := 0, pos := "law.go:64", after := #[], guard := none }) rfl (fun K hK => ?_) ?_
         · go_simp
           have bb : Below V30.heap.size V30 (V30.alloc (.cells #[.string ⟨#[]⟩, .string ⟨#[]⟩, .string ⟨#[]⟩, .string ⟨#[]⟩, .string ⟨#[]⟩, .bool false, .int .i64 0, .int .i64 0, .int .i64 0, .string ⟨#[]⟩, .string ⟨#[]⟩, .string ⟨#[]⟩, .string ⟨#[]⟩, .string ⟨#[]⟩] 41)) := (Below.refl _ _).alloc (Nat.le_refl _) _
           have tt35 := tt30.below bb
           have hBc : W0.heap.size ≤ V30.heap.size := Nat.le_of_lt tt30.lt
           have hne : V30.heap.size ≠ b := fun e => by have := zp30.lt; omega
           have zp35 := (Kept.ofBelow bb).hold _ _ _ (by decide) (by decide) zp30
           have hI35 := hI30.below bb
           have hT35 := hT30.below bb
           have zq35 := Holds.new V30 41 #[.string ⟨#[]⟩, .string ⟨#[]⟩, .string ⟨#[]⟩, .string ⟨#[]⟩, .string ⟨#[]⟩, .bool false, .int .i64 0, .int .i64 0, .int .i64 0, .string ⟨#[]⟩, .string ⟨#[]⟩, .string ⟨#[]⟩, .string ⟨#[]⟩, .string ⟨#[]⟩]
           clear bb tt30 zp30 hI30 hT30
           refine hK.out _ _ ?_ (fun hHeld => ?_)
           · exact HC.out _ tt35.bel
           clear hK K
           try simp only [Act.put, List.setIfInBounds_toArray, List.set_cons_zero, List.set_cons_succ]
           generalize V30.alloc (.cells #[.string ⟨#[]⟩, .string ⟨#[]⟩, .string ⟨#[]⟩, .string ⟨#[]⟩, .string ⟨#[]⟩, .bool false, .int .i64 0, .int .i64 0, .int .i64 0, .string ⟨#[]⟩, .string ⟨#[]⟩, .string ⟨#[]⟩, .string ⟨#[]⟩, .string ⟨#[]⟩] 41) = V35 at *
           generalize V30.heap.size = c at *
           refine wpAnyH_ready (rs := [4]) (by kernel_rfl) (by simp) ?_
           refine AllReadyH.cons (o := { dst := some 23, op := Op.call { callee := Callee.value (Operand.func 9), args := #[Operand.tmp 19, Operand.tmp 22], argTypes := #[30, 47] }, type := 42, pos := "law.go:64", after := #[{ on := 0, ground := Ground.data }, { on := 3, ground := Ground.data }, { on := 3, ground := Ground.chain }], guard := none }) rfl (fun K hK => ?_) ?_
           · obtain ⟨p0, p1, p2, p3, P0, P1, P2, P3, hm0, hm1, hm2, hm3, hCp⟩ := HPt.out _ _ _ _ _ _ _ hln hI35 hT35
             have HCp := Lib.hid hCp
             clear hCp
             go_simp
             go_at_call 9
             with_reducible refine HCp.out.mono ?_
             rintro e V36 ⟨rfl, bb⟩
             have tt36 := tt35.below bb
             have zp36 := (Kept.ofBelow bb).hold _ _ _ (by decide) (by decide) zp35
             have zq36 := (Kept.ofBelow bb).hold _ _ _ (by decide) (by decide) zq35
             clear bb HCp tt35 hI35 hT35 zp35 zq35
             go_wp2_with fail
             refine hK.out _ _ ?_ (fun hHeld => ?_)
             · exact HC.out _ tt36.bel
             clear hK K
             try simp only [Act.put, List.setIfInBounds_toArray, List.set_cons_zero, List.set_cons_succ]
             refine wpAnyH_take (i := 5) (oi := { dst := some 18, op := Op.move (Operand.tmp 23), type := 42, pos := "law.go:64", after := #[{ on := 4, ground := Ground.data }], guard := none }) (v := ?_) rfl (by kernel_rfl) (by kernel_rfl) (by kernel_rfl) (fun _ _ _ h => h) (Or.inl ⟨by rfl, ?_⟩) (by assumption) ?_
             rotate_left 1
             · (intro w hSw; (try dsimp only at hSw); go_simp; (try with_reducible rfl))
             try simp only [Act.put, List.setIfInBounds_toArray, List.set_cons_zero, List.set_cons_succ]
             refine wpAnyH_take (i := 6) (oi := { dst := some 24, op := Op.extract (Operand.tmp 18) 0, type := 38, pos := "law.go:64", after := #[{ on := 5, ground := Ground.data }], guard := none }) (v := ?_) rfl (by kernel_rfl) (by kernel_rfl) (by kernel_rfl) (fun _ _ _ h => h) (Or.inl ⟨by rfl, ?_⟩) (by assumption) ?_
             rotate_left 1
             · (intro w hSw; (try dsimp only at hSw); go_simp; (try with_reducible rfl))
             try simp only [Act.put, List.setIfInBounds_toArray, List.set_cons_zero, List.set_cons_succ]
             refine wpAnyH_take (i := 7) (oi := { dst := some 25, op := Op.extract (Operand.tmp 18) 1, type := 41, pos := "law.go:64", after := #[{ on := 5, ground := Ground.data }, { on := 10, ground := Ground.gcOnly Departure.lateStores }], guard := none }) (v := ?_) rfl (by kernel_rfl) (by kernel_rfl) (by kernel_rfl) (fun _ _ _ h => h) (Or.inl ⟨by rfl, ?_⟩) (by assumption) ?_
             rotate_left 1
             · (intro w hSw; (try dsimp only at hSw); go_simp; (try with_reducible rfl))
             try simp only [Act.put, List.setIfInBounds_toArray, List.set_cons_zero, List.set_cons_succ]
             refine wpAnyH_ready (rs := [10]) (by kernel_rfl) (by simp) ?_
             refine AllReadyH.cons (o := { dst := none, op := Op.store 38 (Operand.tmp 6) (Operand.tmp 24), type := 0, pos := "law.go:64", after := #[{ on := 8, ground := Ground.data }, { on := 6, ground := Ground.data }, { on := 4, ground := Ground.chain }, { on := 0, ground := Ground.phase }, { on := 1, ground := Ground.phase }, { on := 2, ground := Ground.phase }, { on := 3, ground := Ground.phase }, { on := 4, ground := Ground.phase }, { on := 5, ground := Ground.phase }, { on := 6, ground := Ground.phase }, { on := 7, ground := Ground.textOnly Departure.lateStores }, { on := 8, ground := Ground.phase }, { on := 9, ground := Ground.phase }], guard := none }) rfl (fun K hK => ?_) ?_
             · refine step_store_row20 rfl 38 _ _ rfl b #[.string (bs v0), .string (bs v1), .string (bs v2), .string (bs v3), .int .i64 p0, .bool asks, .int .u32 (a0 : Int), .int .u32 (a1 : Int), .int .u32 (a2 : Int), .string (bs gp), .string (bs gg), .int .i64 p1, .int .i64 p2, .int .i64 p3] rfl rfl 38 #[.string ⟨#[]⟩, .string ⟨#[]⟩, .string ⟨#[]⟩, .string ⟨#[]⟩, .int .i64 0, .bool false, .int .u32 0, .int .u32 0, .int .u32 0, .string ⟨#[]⟩, .string ⟨#[]⟩, .int .i64 0, .int .i64 0, .int .i64 0] zp36 (by exact sizeXPT) (by rfl) (by simp [Value.oneCell']) ?_
               have tt37 := ta_row20 tt36 zp36 (by decide) (by decide) hBb #[.string (bs v0), .string (bs v1), .string (bs v2), .string (bs v3), .int .i64 p0, .bool asks, .int .u32 (a0 : Int), .int .u32 (a1 : Int), .int .u32 (a2 : Int), .string (bs gp), .string (bs gg), .int .i64 p1, .int .i64 p2, .int .i64 p3]
               have zp37 : Holds (V36.setRow b #[.string (bs v0), .string (bs v1), .string (bs v2), .string (bs v3), .int .i64 p0, .bool asks, .int .u32 (a0 : Int), .int .u32 (a1 : Int), .int .u32 (a2 : Int), .string (bs gp), .string (bs gg), .int .i64 p1, .int .i64 p2, .int .i64 p3]) b 38 #[.string (bs v0), .string (bs v1), .string (bs v2), .string (bs v3), .int .i64 p0, .bool asks, .int .u32 (a0 : Int), .int .u32 (a1 : Int), .int .u32 (a2 : Int), .string (bs gp), .string (bs gg), .int .i64 p1, .int .i64 p2, .int .i64 p3] := setRow_heap _ _ _ _ _ _ zp36
               have zq37 := zq36.moves (moves_row20 V36 b #[.string (bs v0), .string (bs v1), .string (bs v2), .string (bs v3), .int .i64 p0, .bool asks, .int .u32 (a0 : Int), .int .u32 (a1 : Int), .int .u32 (a2 : Int), .string (bs gp), .string (bs gg), .int .i64 p1, .int .i64 p2, .int .i64 p3]) (fun e => hne e)
               clear tt36 zp36 zq36
               refine hK.out _ _ ?_ (fun hHeld => ?_)
               · exact HC.out _ tt37.bel
               clear hK K
               try simp only [Act.put, List.setIfInBounds_toArray, List.set_cons_zero, List.set_cons_succ]
               generalize V36.setRow b #[.string (bs v0), .string (bs v1), .string (bs v2), .string (bs v3), .int .i64 p0, .bool asks, .int .u32 (a0 : Int), .int .u32 (a1 : Int), .int .u32 (a2 : Int), .string (bs gp), .string (bs gg), .int .i64 p1, .int .i64 p2, .int .i64 p3] = V37 at *
               refine wpAnyH_ready (rs := [11]) (by kernel_rfl) (by simp) ?_
               refine AllReadyH.cons (o := { dst := none, op := Op.store 41 (Operand.tmp 7) (Operand.tmp 25), type := 0, pos := "law.go:64", after := #[{ on := 9, ground := Ground.data }, { on := 7, ground := Ground.data }, { on := 10, ground := Ground.chain }, { on := 0, ground := Ground.phase }, { on := 1, ground := Ground.phase }, { on := 2, ground := Ground.phase }, { on := 3, ground := Ground.phase }, { on := 4, ground := Ground.phase }, { on := 5, ground := Ground.phase }, { on := 6, ground := Ground.phase }, { on := 7, ground := Ground.phase }, { on := 8, ground := Ground.phase }, { on := 9, ground := Ground.phase }, { on := 10, ground := Ground.phase }], guard := none }) rfl (fun K hK => ?_) ?_
               · refine step_store_row20 rfl 41 _ _ rfl c #[.string (bs v0), .string (bs v1), .string (bs v2), .string (bs v3), .string (bs P0), .bool asks, .int .i64 (a0 : Int), .int .i64 (a1 : Int), .int .i64 (a2 : Int), .string (bs gp), .string (bs gg), .string (bs P1), .string (bs P2), .string (bs P3)] rfl rfl 41 #[.string ⟨#[]⟩, .string ⟨#[]⟩, .string ⟨#[]⟩, .string ⟨#[]⟩, .string ⟨#[]⟩, .bool false, .int .i64 0, .int .i64 0, .int .i64 0, .string ⟨#[]⟩, .string ⟨#[]⟩, .string ⟨#[]⟩, .string ⟨#[]⟩, .string ⟨#[]⟩] zq37 (by exact sizeQPT) (by rfl) (by simp [Value.oneCell']) ?_
                 have tt38 := ta_row20 tt37 zq37 (by decide) (by decide) hBc #[.string (bs v0), .string (bs v1), .string (bs v2), .string (bs v3), .string (bs P0), .bool asks, .int .i64 (a0 : Int), .int .i64 (a1 : Int), .int .i64 (a2 : Int), .string (bs gp), .string (bs gg), .string (bs P1), .string (bs P2), .string (bs P3)]
                 have zq38 : Holds (V37.setRow c #[.string (bs v0), .string (bs v1), .string (bs v2), .string (bs v3), .string (bs P0), .bool asks, .int .i64 (a0 : Int), .int .i64 (a1 : Int), .int .i64 (a2 : Int), .string (bs gp), .string (bs gg), .string (bs P1), .string (bs P2), .string (bs P3)]) c 41 #[.string (bs v0), .string (bs v1), .string (bs v2), .string (bs v3), .string (bs P0), .bool asks, .int .i64 (a0 : Int), .int .i64 (a1 : Int), .int .i64 (a2 : Int), .string (bs gp), .string (bs gg), .string (bs P1), .string (bs P2), .string (bs P3)] := setRow_heap _ _ _ _ _ _ zq37
                 have zp38 := zp37.moves (moves_row20 V37 c #[.string (bs v0), .string (bs v1), .string (bs v2), .string (bs v3), .string (bs P0), .bool asks, .int .i64 (a0 : Int), .int .i64 (a1 : Int), .int .i64 (a2 : Int), .string (bs gp), .string (bs gg), .string (bs P1), .string (bs P2), .string (bs P3)]) (fun e => hne e.symm)
                 clear tt37 zq37 zp37
                 refine hK.out _ _ ?_ (fun hHeld => ?_)
                 · exact HC.out _ tt38.bel
                 clear hK K
                 try simp only [Act.put, List.setIfInBounds_toArray, List.set_cons_zero, List.set_cons_succ]
                 generalize V37.setRow c #[.string (bs v0), .string (bs v1), .string (bs v2), .string (bs v3), .string (bs P0), .bool asks, .int .i64 (a0 : Int), .int .i64 (a1 : Int), .int .i64 (a2 : Int), .string (bs gp), .string (bs gg), .string (bs P1), .string (bs P2), .string (bs P3)] = V38 at *
                 refine wpAnyH_done (by kernel_rfl) ?_ _
                 go_wp2_with fail
                 go_meet
                 case rel => exact TCut.mk tt38 hl hm0 hm1 hm2 hm3 zp38 zq38
               exact AllReadyH.nil
             exact AllReadyH.nil
           exact AllReadyH.nil
         exact AllReadyH.nil
       refine AllReadyH.cons (o := { dst := some 7, op := Op.alloc 41, type := 0, pos := "law.go:64", after := #[], guard := none }) rfl (fun K hK => ?_) ?_
       · go_simp
         have bb : Below V29.heap.size V29 (V29.alloc (.cells #[.string ⟨#[]⟩, .string ⟨#[]⟩, .string ⟨#[]⟩, .string ⟨#[]⟩, .string ⟨#[]⟩, .bool false, .int .i64 0, .int .i64 0, .int .i64 0, .string ⟨#[]⟩, .string ⟨#[]⟩, .string ⟨#[]⟩, .string ⟨#[]⟩, .string ⟨#[]⟩] 41)) := (Below.refl _ _).alloc (Nat.le_refl _) _
         have tt39 := tt29.below bb
         have hBc : W0.heap.size ≤ V29.heap.size := Nat.le_of_lt tt29.lt
         have hne : V29.heap.size ≠ b := fun e => by have := zp29.lt; omega
         have zp39 := (Kept.ofBelow bb).hold _ _ _ (by decide) (by decide) zp29
         have zq39 := Holds.new V29 41 #[.string ⟨#[]⟩, .string ⟨#[]⟩, .string ⟨#[]⟩, .string ⟨#[]⟩, .string ⟨#[]⟩, .bool false, .int .i64 0, .int .i64 0, .int .i64 0, .string ⟨#[]⟩, .string ⟨#[]⟩, .string ⟨#[]⟩, .string ⟨#[]⟩, .string ⟨#[]⟩]
         clear bb tt29 zp29
         refine hK.out _ _ ?_ (fun hHeld => ?_)
         · exact HC.out _ tt39.bel
         clear hK K
         try simp only [Act.put, List.setIfInBounds_toArray, List.set_cons_zero, List.set_cons_succ]
         generalize V29.alloc (.cells #[.string ⟨#[]⟩, .string ⟨#[]⟩, .string ⟨#[]⟩, .string ⟨#[]⟩, .string ⟨#[]⟩, .bool false, .int .i64 0, .int .i64 0, .int .i64 0, .string ⟨#[]⟩, .string ⟨#[]⟩, .string ⟨#[]⟩, .string ⟨#[]⟩, .string ⟨#[]⟩] 41) = V39 at *
         generalize V29.heap.size = c at *
         refine wpAnyH_ready (rs := [3]) (by kernel_rfl) (by simp) ?_
         refine AllReadyH.cons (o := { dst := some 22, op := Op.call { callee := Callee.value (Operand.func 10), args := #[Operand.tmp 20, Operand.tmp 21], argTypes := #[34, 22] }, type := 47, pos := "law.go:64", after := #[{ on := 1, ground := Ground.data }, { on := 2, ground := Ground.data }], guard := none }) rfl (fun K hK => ?_) ?_
         · go_simp
           go_at_call 10
           with_reducible refine (HMk.out _ _ tt39).mono ?_
           rintro e V40 ⟨ids, texts, ai, ci, at', ct, rfl, hln, hI40, hT40, tt40, kp⟩
           have zp40 := kp.hold _ _ _ (by decide) (by decide) zp39
           have zq40 := kp.hold _ _ _ (by decide) (by decide) zq39
           go_wp2_with fail
           refine hK.out _ _ ?_ (fun hHeld => ?_)
           · exact HC.out _ tt40.bel
           clear hK K
           try simp only [Act.put, List.setIfInBounds_toArray, List.set_cons_zero, List.set_cons_succ]
           clear kp tt39 zp39 zq39
           refine wpAnyH_ready (rs := [4]) (by kernel_rfl) (by simp) ?_
           refine AllReadyH.cons (o := { dst := some 23, op := Op.call { callee := Callee.value (Operand.func 9), args := #[Operand.tmp 19, Operand.tmp 22], argTypes := #[30, 47] }, type := 42, pos := "law.go:64", after := #[{ on := 0, ground := Ground.data }, { on := 3, ground := Ground.data }, { on := 3, ground := Ground.chain }], guard := none }) rfl (fun K hK => ?_) ?_
           · obtain ⟨p0, p1, p2, p3, P0, P1, P2, P3, hm0, hm1, hm2, hm3, hCp⟩ := HPt.out _ _ _ _ _ _ _ hln hI40 hT40
             have HCp := Lib.hid hCp
             clear hCp
             go_simp
             go_at_call 9
             with_reducible refine HCp.out.mono ?_
             rintro e V41 ⟨rfl, bb⟩
             have tt41 := tt40.below bb
             have zp41 := (Kept.ofBelow bb).hold _ _ _ (by decide) (by decide) zp40
             have zq41 := (Kept.ofBelow bb).hold _ _ _ (by decide) (by decide) zq40
             clear bb HCp tt40 hI40 hT40 zp40 zq40
             go_wp2_with fail
             refine hK.out _ _ ?_ (fun hHeld => ?_)
             · exact HC.out _ tt41.bel
             clear hK K
             try simp only [Act.put, List.setIfInBounds_toArray, List.set_cons_zero, List.set_cons_succ]
             refine wpAnyH_take (i := 5) (oi := { dst := some 18, op := Op.move (Operand.tmp 23), type := 42, pos := "law.go:64", after := #[{ on := 4, ground := Ground.data }], guard := none }) (v := ?_) rfl (by kernel_rfl) (by kernel_rfl) (by kernel_rfl) (fun _ _ _ h => h) (Or.inl ⟨by rfl, ?_⟩) (by assumption) ?_
             rotate_left 1
             · (intro w hSw; (try dsimp only at hSw); go_simp; (try with_reducible rfl))
             try simp only [Act.put, List.setIfInBounds_toArray, List.set_cons_zero, List.set_cons_succ]
             refine wpAnyH_take (i := 6) (oi := { dst := some 24, op := Op.extract (Operand.tmp 18) 0, type := 38, pos := "law.go:64", after := #[{ on := 5, ground := Ground.data }], guard := none }) (v := ?_) rfl (by kernel_rfl) (by kernel_rfl) (by kernel_rfl) (fun _ _ _ h => h) (Or.inl ⟨by rfl, ?_⟩) (by assumption) ?_
             rotate_left 1
             · (intro w hSw; (try dsimp only at hSw); go_simp; (try with_reducible rfl))
             try simp only [Act.put, List.setIfInBounds_toArray, List.set_cons_zero, List.set_cons_succ]
             refine wpAnyH_take (i := 7) (oi := { dst := some 25, op := Op.extract (Operand.tmp 18) 1, type := 41, pos := "law.go:64", after := #[{ on := 5, ground := Ground.data }, { on := 10, ground := Ground.gcOnly Departure.lateStores }], guard := none }) (v := ?_) rfl (by kernel_rfl) (by kernel_rfl) (by kernel_rfl) (fun _ _ _ h => h) (Or.inl ⟨by rfl, ?_⟩) (by assumption) ?_
             rotate_left 1
             · (intro w hSw; (try dsimp only at hSw); go_simp; (try with_reducible rfl))
             try simp only [Act.put, List.setIfInBounds_toArray, List.set_cons_zero, List.set_cons_succ]
             refine wpAnyH_ready (rs := [10]) (by kernel_rfl) (by simp) ?_
             refine AllReadyH.cons (o := { dst := none, op := Op.store 38 (Operand.tmp 6) (Operand.tmp 24), type := 0, pos := "law.go:64", after := #[{ on := 8, ground := Ground.data }, { on := 6, ground := Ground.data }, { on := 4, ground := Ground.chain }, { on := 0, ground := Ground.phase }, { on := 1, ground := Ground.phase }, { on := 2, ground := Ground.phase }, { on := 3, ground := Ground.phase }, { on := 4, ground := Ground.phase }, { on := 5, ground := Ground.phase }, { on := 6, ground := Ground.phase }, { on := 7, ground := Ground.textOnly Departure.lateStores }, { on := 8, ground := Ground.phase }, { on := 9, ground := Ground.phase }], guard := none }) rfl (fun K hK => ?_) ?_
             · refine step_store_row20 rfl 38 _ _ rfl b #[.string (bs v0), .string (bs v1), .string (bs v2), .string (bs v3), .int .i64 p0, .bool asks, .int .u32 (a0 : Int), .int .u32 (a1 : Int), .int .u32 (a2 : Int), .string (bs gp), .string (bs gg), .int .i64 p1, .int .i64 p2, .int .i64 p3] rfl rfl 38 #[.string ⟨#[]⟩, .string ⟨#[]⟩, .string ⟨#[]⟩, .string ⟨#[]⟩, .int .i64 0, .bool false, .int .u32 0, .int .u32 0, .int .u32 0, .string ⟨#[]⟩, .string ⟨#[]⟩, .int .i64 0, .int .i64 0, .int .i64 0] zp41 (by exact sizeXPT) (by rfl) (by simp [Value.oneCell']) ?_
               have tt42 := ta_row20 tt41 zp41 (by decide) (by decide) hBb #[.string (bs v0), .string (bs v1), .string (bs v2), .string (bs v3), .int .i64 p0, .bool asks, .int .u32 (a0 : Int), .int .u32 (a1 : Int), .int .u32 (a2 : Int), .string (bs gp), .string (bs gg), .int .i64 p1, .int .i64 p2, .int .i64 p3]
               have zp42 : Holds (V41.setRow b #[.string (bs v0), .string (bs v1), .string (bs v2), .string (bs v3), .int .i64 p0, .bool asks, .int .u32 (a0 : Int), .int .u32 (a1 : Int), .int .u32 (a2 : Int), .string (bs gp), .string (bs gg), .int .i64 p1, .int .i64 p2, .int .i64 p3]) b 38 #[.string (bs v0), .string (bs v1), .string (bs v2), .string (bs v3), .int .i64 p0, .bool asks, .int .u32 (a0 : Int), .int .u32 (a1 : Int), .int .u32 (a2 : Int), .string (bs gp), .string (bs gg), .int .i64 p1, .int .i64 p2, .int .i64 p3] := setRow_heap _ _ _ _ _ _ zp41
               have zq42 := zq41.moves (moves_row20 V41 b #[.string (bs v0), .string (bs v1), .string (bs v2), .string (bs v3), .int .i64 p0, .bool asks, .int .u32 (a0 : Int), .int .u32 (a1 : Int), .int .u32 (a2 : Int), .string (bs gp), .string (bs gg), .int .i64 p1, .int .i64 p2, .int .i64 p3]) (fun e => hne e)
               clear tt41 zp41 zq41
               refine hK.out _ _ ?_ (fun hHeld => ?_)
               · exact HC.out _ tt42.bel
               clear hK K
               try simp only [Act.put, List.setIfInBounds_toArray, List.set_cons_zero, List.set_cons_succ]
               generalize V41.setRow b #[.string (bs v0), .string (bs v1), .string (bs v2), .string (bs v3), .int .i64 p0, .bool asks, .int .u32 (a0 : Int), .int .u32 (a1 : Int), .int .u32 (a2 : Int), .string (bs gp), .string (bs gg), .int .i64 p1, .int .i64 p2, .int .i64 p3] = V42 at *
               refine wpAnyH_ready (rs := [11]) (by kernel_rfl) (by simp) ?_
               refine AllReadyH.cons (o := { dst := none, op := Op.store 41 (Operand.tmp 7) (Operand.tmp 25), type := 0, pos := "law.go:64", after := #[{ on := 9, ground := Ground.data }, { on := 7, ground := Ground.data }, { on := 10, ground := Ground.chain }, { on := 0, ground := Ground.phase }, { on := 1, ground := Ground.phase }, { on := 2, ground := Ground.phase }, { on := 3, ground := Ground.phase }, { on := 4, ground := Ground.phase }, { on := 5, ground := Ground.phase }, { on := 6, ground := Ground.phase }, { on := 7, ground := Ground.phase }, { on := 8, ground := Ground.phase }, { on := 9, ground := Ground.phase }, { on := 10, ground := Ground.phase }], guard := none }) rfl (fun K hK => ?_) ?_
               · refine step_store_row20 rfl 41 _ _ rfl c #[.string (bs v0), .string (bs v1), .string (bs v2), .string (bs v3), .string (bs P0), .bool asks, .int .i64 (a0 : Int), .int .i64 (a1 : Int), .int .i64 (a2 : Int), .string (bs gp), .string (bs gg), .string (bs P1), .string (bs P2), .string (bs P3)] rfl rfl 41 #[.string ⟨#[]⟩, .string ⟨#[]⟩, .string ⟨#[]⟩, .string ⟨#[]⟩, .string ⟨#[]⟩, .bool false, .int .i64 0, .int .i64 0, .int .i64 0, .string ⟨#[]⟩, .string ⟨#[]⟩, .string ⟨#[]⟩, .string ⟨#[]⟩, .string ⟨#[]⟩] zq42 (by exact sizeQPT) (by rfl) (by simp [Value.oneCell']) ?_
                 have tt43 := ta_row20 tt42 zq42 (by decide) (by decide) hBc #[.string (bs v0), .string (bs v1), .string (bs v2), .string (bs v3), .string (bs P0), .bool asks, .int .i64 (a0 : Int), .int .i64 (a1 : Int), .int .i64 (a2 : Int), .string (bs gp), .string (bs gg), .string (bs P1), .string (bs P2), .string (bs P3)]
                 have zq43 : Holds (V42.setRow c #[.string (bs v0), .string (bs v1), .string (bs v2), .string (bs v3), .string (bs P0), .bool asks, .int .i64 (a0 : Int), .int .i64 (a1 : Int), .int .i64 (a2 : Int), .string (bs gp), .string (bs gg), .string (bs P1), .string (bs P2), .string (bs P3)]) c 41 #[.string (bs v0), .string (bs v1), .string (bs v2), .string (bs v3), .string (bs P0), .bool asks, .int .i64 (a0 : Int), .int .i64 (a1 : Int), .int .i64 (a2 : Int), .string (bs gp), .string (bs gg), .string (bs P1), .string (bs P2), .string (bs P3)] := setRow_heap _ _ _ _ _ _ zq42
                 have zp43 := zp42.moves (moves_row20 V42 c #[.string (bs v0), .string (bs v1), .string (bs v2), .string (bs v3), .string (bs P0), .bool asks, .int .i64 (a0 : Int), .int .i64 (a1 : Int), .int .i64 (a2 : Int), .string (bs gp), .string (bs gg), .string (bs P1), .string (bs P2), .string (bs P3)]) (fun e => hne e.symm)
                 clear tt42 zq42 zp42
                 refine hK.out _ _ ?_ (fun hHeld => ?_)
                 · exact HC.out _ tt43.bel
                 clear hK K
                 try simp only [Act.put, List.setIfInBounds_toArray, List.set_cons_zero, List.set_cons_succ]
                 generalize V42.setRow c #[.string (bs v0), .string (bs v1), .string (bs v2), .string (bs v3), .string (bs P0), .bool asks, .int .i64 (a0 : Int), .int .i64 (a1 : Int), .int .i64 (a2 : Int), .string (bs gp), .string (bs gg), .string (bs P1), .string (bs P2), .string (bs P3)] = V43 at *
                 refine wpAnyH_done (by kernel_rfl) ?_ _
                 go_wp2_with fail
                 go_meet
                 case rel => exact TCut.mk tt43 hl hm0 hm1 hm2 hm3 zp43 zq43
               exact AllReadyH.nil
             exact AllReadyH.nil
           exact AllReadyH.nil
         exact AllReadyH.nil
       exact AllReadyH.nil
     refine AllReadyH.cons (o := { dst := some 7, op := Op.alloc 41, type := 0, pos := "law.go:64", after := #[], guard := none }) rfl (fun K hK => ?_) ?_
     · go_simp
       have bb : Below V0.heap.size V0 (V0.alloc (.cells #[.string ⟨#[]⟩, .string ⟨#[]⟩, .string ⟨#[]⟩, .string ⟨#[]⟩, .string ⟨#[]⟩, .bool false, .int .i64 0, .int .i64 0, .int .i64 0, .string ⟨#[]⟩, .string ⟨#[]⟩, .string ⟨#[]⟩, .string ⟨#[]⟩, .string ⟨#[]⟩] 41)) := (Below.refl _ _).alloc (Nat.le_refl _) _
       have tt44 := tt0.below bb
       have hBc : W0.heap.size ≤ V0.heap.size := Nat.le_of_lt tt0.lt
       have zq44 := Holds.new V0 41 #[.string ⟨#[]⟩, .string ⟨#[]⟩, .string ⟨#[]⟩, .string ⟨#[]⟩, .string ⟨#[]⟩, .bool false, .int .i64 0, .int .i64 0, .int .i64 0, .string ⟨#[]⟩, .string ⟨#[]⟩, .string ⟨#[]⟩, .string ⟨#[]⟩, .string ⟨#[]⟩]
       clear bb tt0
       refine hK.out _ _ ?_ (fun hHeld => ?_)
       · exact HC.out _ tt44.bel
       clear hK K
       try simp only [Act.put, List.setIfInBounds_toArray, List.set_cons_zero, List.set_cons_succ]
       generalize V0.alloc (.cells #[.string ⟨#[]⟩, .string ⟨#[]⟩, .string ⟨#[]⟩, .string ⟨#[]⟩, .string ⟨#[]⟩, .bool false, .int .i64 0, .int .i64 0, .int .i64 0, .string ⟨#[]⟩, .string ⟨#[]⟩, .string ⟨#[]⟩, .string ⟨#[]⟩, .string ⟨#[]⟩] 41) = V44 at *
       generalize V0.heap.size = c at *
       refine wpAnyH_ready (rs := [3, 8]) (by kernel_rfl) (by simp) ?_
       refine AllReadyH.cons (o := { dst := some 22, op := Op.call { callee := Callee.value (Operand.func 10), args := #[Operand.tmp 20, Operand.tmp 21], argTypes := #[34, 22] }, type := 47, pos := "law.go:64", after := #[{ on := 1, ground := Ground.data }, { on := 2, ground := Ground.data }], guard := none }) rfl (fun K hK => ?_) ?_
       · go_simp
         go_at_call 10
         with_reducible refine (HMk.out _ _ tt44).mono ?_
         rintro e V45 ⟨ids, texts, ai, ci, at', ct, rfl, hln, hI45, hT45, tt45, kp⟩
         have zq45 := kp.hold _ _ _ (by decide) (by decide) zq44
         go_wp2_with fail
         refine hK.out _ _ ?_ (fun hHeld => ?_)
         · exact HC.out _ tt45.bel
         clear hK K
         try simp only [Act.put, List.setIfInBounds_toArray, List.set_cons_zero, List.set_cons_succ]
         clear kp tt44 zq44
         refine wpAnyH_ready (rs := [4, 8]) (by kernel_rfl) (by simp) ?_
         refine AllReadyH.cons (o := { dst := some 23, op := Op.call { callee := Callee.value (Operand.func 9), args := #[Operand.tmp 19, Operand.tmp 22], argTypes := #[30, 47] }, type := 42, pos := "law.go:64", after := #[{ on := 0, ground := Ground.data }, { on := 3, ground := Ground.data }, { on := 3, ground := Ground.chain }], guard := none }) rfl (fun K hK => ?_) ?_
         · obtain ⟨p0, p1, p2, p3, P0, P1, P2, P3, hm0, hm1, hm2, hm3, hCp⟩ := HPt.out _ _ _ _ _ _ _ hln hI45 hT45
           have HCp := Lib.hid hCp
           clear hCp
           go_simp
           go_at_call 9
           with_reducible refine HCp.out.mono ?_
           rintro e V46 ⟨rfl, bb⟩
           have tt46 := tt45.below bb
           have zq46 := (Kept.ofBelow bb).hold _ _ _ (by decide) (by decide) zq45
           clear bb HCp tt45 hI45 hT45 zq45
           go_wp2_with fail
           refine hK.out _ _ ?_ (fun hHeld => ?_)
           · exact HC.out _ tt46.bel
           clear hK K
           try simp only [Act.put, List.setIfInBounds_toArray, List.set_cons_zero, List.set_cons_succ]
           refine wpAnyH_take (i := 5) (oi := { dst := some 18, op := Op.move (Operand.tmp 23), type := 42, pos := "law.go:64", after := #[{ on := 4, ground := Ground.data }], guard := none }) (v := ?_) rfl (by kernel_rfl) (by kernel_rfl) (by kernel_rfl) (fun _ _ _ h => h) (Or.inl ⟨by rfl, ?_⟩) (by assumption) ?_
           rotate_left 1
           · (intro w hSw; (try dsimp only at hSw); go_simp; (try with_reducible rfl))
           try simp only [Act.put, List.setIfInBounds_toArray, List.set_cons_zero, List.set_cons_succ]
           refine wpAnyH_take (i := 6) (oi := { dst := some 24, op := Op.extract (Operand.tmp 18) 0, type := 38, pos := "law.go:64", after := #[{ on := 5, ground := Ground.data }], guard := none }) (v := ?_) rfl (by kernel_rfl) (by kernel_rfl) (by kernel_rfl) (fun _ _ _ h => h) (Or.inl ⟨by rfl, ?_⟩) (by assumption) ?_
           rotate_left 1
           · (intro w hSw; (try dsimp only at hSw); go_simp; (try with_reducible rfl))
           try simp only [Act.put, List.setIfInBounds_toArray, List.set_cons_zero, List.set_cons_succ]
           refine wpAnyH_take (i := 7) (oi := { dst := some 25, op := Op.extract (Operand.tmp 18) 1, type := 41, pos := "law.go:64", after := #[{ on := 5, ground := Ground.data }, { on := 10, ground := Ground.gcOnly Departure.lateStores }], guard := none }) (v := ?_) rfl (by kernel_rfl) (by kernel_rfl) (by kernel_rfl) (fun _ _ _ h => h) (Or.inl ⟨by rfl, ?_⟩) (by assumption) ?_
           rotate_left 1
           · (intro w hSw; (try dsimp only at hSw); go_simp; (try with_reducible rfl))
           try simp only [Act.put, List.setIfInBounds_toArray, List.set_cons_zero, List.set_cons_succ]
           refine wpAnyH_ready (rs := [8]) (by kernel_rfl) (by simp) ?_
           refine AllReadyH.cons (o := { dst := some 6, op := Op.alloc 38, type := 0, pos := "law.go:64", after := #[], guard := none }) rfl (fun K hK => ?_) ?_
           · go_simp
             have bb : Below V46.heap.size V46 (V46.alloc (.cells #[.string ⟨#[]⟩, .string ⟨#[]⟩, .string ⟨#[]⟩, .string ⟨#[]⟩, .int .i64 0, .bool false, .int .u32 0, .int .u32 0, .int .u32 0, .string ⟨#[]⟩, .string ⟨#[]⟩, .int .i64 0, .int .i64 0, .int .i64 0] 38)) := (Below.refl _ _).alloc (Nat.le_refl _) _
             have tt47 := tt46.below bb
             have hBb : W0.heap.size ≤ V46.heap.size := Nat.le_of_lt tt46.lt
             have hne : V46.heap.size ≠ c := fun e => by have := zq46.lt; omega
             have zq47 := (Kept.ofBelow bb).hold _ _ _ (by decide) (by decide) zq46
             have zp47 := Holds.new V46 38 #[.string ⟨#[]⟩, .string ⟨#[]⟩, .string ⟨#[]⟩, .string ⟨#[]⟩, .int .i64 0, .bool false, .int .u32 0, .int .u32 0, .int .u32 0, .string ⟨#[]⟩, .string ⟨#[]⟩, .int .i64 0, .int .i64 0, .int .i64 0]
             clear bb tt46 zq46
             refine hK.out _ _ ?_ (fun hHeld => ?_)
             · exact HC.out _ tt47.bel
             clear hK K
             try simp only [Act.put, List.setIfInBounds_toArray, List.set_cons_zero, List.set_cons_succ]
             generalize V46.alloc (.cells #[.string ⟨#[]⟩, .string ⟨#[]⟩, .string ⟨#[]⟩, .string ⟨#[]⟩, .int .i64 0, .bool false, .int .u32 0, .int .u32 0, .int .u32 0, .string ⟨#[]⟩, .string ⟨#[]⟩, .int .i64 0, .int .i64 0, .int .i64 0] 38) = V47 at *
             generalize V46.heap.size = b at *
             refine wpAnyH_ready (rs := [10]) (by kernel_rfl) (by simp) ?_
             refine AllReadyH.cons (o := { dst := none, op := Op.store 38 (Operand.tmp 6) (Operand.tmp 24), type := 0, pos := "law.go:64", after := #[{ on := 8, ground := Ground.data }, { on := 6, ground := Ground.data }, { on := 4, ground := Ground.chain }, { on := 0, ground := Ground.phase }, { on := 1, ground := Ground.phase }, { on := 2, ground := Ground.phase }, { on := 3, ground := Ground.phase }, { on := 4, ground := Ground.phase }, { on := 5, ground := Ground.phase }, { on := 6, ground := Ground.phase }, { on := 7, ground := Ground.textOnly Departure.lateStores }, { on := 8, ground := Ground.phase }, { on := 9, ground := Ground.phase }], guard := none }) rfl (fun K hK => ?_) ?_
             · refine step_store_row20 rfl 38 _ _ rfl b #[.string (bs v0), .string (bs v1), .string (bs v2), .string (bs v3), .int .i64 p0, .bool asks, .int .u32 (a0 : Int), .int .u32 (a1 : Int), .int .u32 (a2 : Int), .string (bs gp), .string (bs gg), .int .i64 p1, .int .i64 p2, .int .i64 p3] rfl rfl 38 #[.string ⟨#[]⟩, .string ⟨#[]⟩, .string ⟨#[]⟩, .string ⟨#[]⟩, .int .i64 0, .bool false, .int .u32 0, .int .u32 0, .int .u32 0, .string ⟨#[]⟩, .string ⟨#[]⟩, .int .i64 0, .int .i64 0, .int .i64 0] zp47 (by exact sizeXPT) (by rfl) (by simp [Value.oneCell']) ?_
               have tt48 := ta_row20 tt47 zp47 (by decide) (by decide) hBb #[.string (bs v0), .string (bs v1), .string (bs v2), .string (bs v3), .int .i64 p0, .bool asks, .int .u32 (a0 : Int), .int .u32 (a1 : Int), .int .u32 (a2 : Int), .string (bs gp), .string (bs gg), .int .i64 p1, .int .i64 p2, .int .i64 p3]
               have zp48 : Holds (V47.setRow b #[.string (bs v0), .string (bs v1), .string (bs v2), .string (bs v3), .int .i64 p0, .bool asks, .int .u32 (a0 : Int), .int .u32 (a1 : Int), .int .u32 (a2 : Int), .string (bs gp), .string (bs gg), .int .i64 p1, .int .i64 p2, .int .i64 p3]) b 38 #[.string (bs v0), .string (bs v1), .string (bs v2), .string (bs v3), .int .i64 p0, .bool asks, .int .u32 (a0 : Int), .int .u32 (a1 : Int), .int .u32 (a2 : Int), .string (bs gp), .string (bs gg), .int .i64 p1, .int .i64 p2, .int .i64 p3] := setRow_heap _ _ _ _ _ _ zp47
               have zq48 := zq47.moves (moves_row20 V47 b #[.string (bs v0), .string (bs v1), .string (bs v2), .string (bs v3), .int .i64 p0, .bool asks, .int .u32 (a0 : Int), .int .u32 (a1 : Int), .int .u32 (a2 : Int), .string (bs gp), .string (bs gg), .int .i64 p1, .int .i64 p2, .int .i64 p3]) (fun e => hne e.symm)
               clear tt47 zp47 zq47
               refine hK.out _ _ ?_ (fun hHeld => ?_)
               · exact HC.out _ tt48.bel
               clear hK K
               try simp only [Act.put, List.setIfInBounds_toArray, List.set_cons_zero, List.set_cons_succ]
               generalize V47.setRow b #[.string (bs v0), .string (bs v1), .string (bs v2), .string (bs v3), .int .i64 p0, .bool asks, .int .u32 (a0 : Int), .int .u32 (a1 : Int), .int .u32 (a2 : Int), .string (bs gp), .string (bs gg), .int .i64 p1, .int .i64 p2, .int .i64 p3] = V48 at *
               refine wpAnyH_ready (rs := [11]) (by kernel_rfl) (by simp) ?_
               refine AllReadyH.cons (o := { dst := none, op := Op.store 41 (Operand.tmp 7) (Operand.tmp 25), type := 0, pos := "law.go:64", after := #[{ on := 9, ground := Ground.data }, { on := 7, ground := Ground.data }, { on := 10, ground := Ground.chain }, { on := 0, ground := Ground.phase }, { on := 1, ground := Ground.phase }, { on := 2, ground := Ground.phase }, { on := 3, ground := Ground.phase }, { on := 4, ground := Ground.phase }, { on := 5, ground := Ground.phase }, { on := 6, ground := Ground.phase }, { on := 7, ground := Ground.phase }, { on := 8, ground := Ground.phase }, { on := 9, ground := Ground.phase }, { on := 10, ground := Ground.phase }], guard := none }) rfl (fun K hK => ?_) ?_
               · refine step_store_row20 rfl 41 _ _ rfl c #[.string (bs v0), .string (bs v1), .string (bs v2), .string (bs v3), .string (bs P0), .bool asks, .int .i64 (a0 : Int), .int .i64 (a1 : Int), .int .i64 (a2 : Int), .string (bs gp), .string (bs gg), .string (bs P1), .string (bs P2), .string (bs P3)] rfl rfl 41 #[.string ⟨#[]⟩, .string ⟨#[]⟩, .string ⟨#[]⟩, .string ⟨#[]⟩, .string ⟨#[]⟩, .bool false, .int .i64 0, .int .i64 0, .int .i64 0, .string ⟨#[]⟩, .string ⟨#[]⟩, .string ⟨#[]⟩, .string ⟨#[]⟩, .string ⟨#[]⟩] zq48 (by exact sizeQPT) (by rfl) (by simp [Value.oneCell']) ?_
                 have tt49 := ta_row20 tt48 zq48 (by decide) (by decide) hBc #[.string (bs v0), .string (bs v1), .string (bs v2), .string (bs v3), .string (bs P0), .bool asks, .int .i64 (a0 : Int), .int .i64 (a1 : Int), .int .i64 (a2 : Int), .string (bs gp), .string (bs gg), .string (bs P1), .string (bs P2), .string (bs P3)]
                 have zq49 : Holds (V48.setRow c #[.string (bs v0), .string (bs v1), .string (bs v2), .string (bs v3), .string (bs P0), .bool asks, .int .i64 (a0 : Int), .int .i64 (a1 : Int), .int .i64 (a2 : Int), .string (bs gp), .string (bs gg), .string (bs P1), .string (bs P2), .string (bs P3)]) c 41 #[.string (bs v0), .string (bs v1), .string (bs v2), .string (bs v3), .string (bs P0), .bool asks, .int .i64 (a0 : Int), .int .i64 (a1 : Int), .int .i64 (a2 : Int), .string (bs gp), .string (bs gg), .string (bs P1), .string (bs P2), .string (bs P3)] := setRow_heap _ _ _ _ _ _ zq48
                 have zp49 := zp48.moves (moves_row20 V48 c #[.string (bs v0), .string (bs v1), .string (bs v2), .string (bs v3), .string (bs P0), .bool asks, .int .i64 (a0 : Int), .int .i64 (a1 : Int), .int .i64 (a2 : Int), .string (bs gp), .string (bs gg), .string (bs P1), .string (bs P2), .string (bs P3)]) (fun e => hne e)
                 clear tt48 zq48 zp48
                 refine hK.out _ _ ?_ (fun hHeld => ?_)
                 · exact HC.out _ tt49.bel
                 clear hK K
                 try simp only [Act.put, List.setIfInBounds_toArray, List.set_cons_zero, List.set_cons_succ]
                 generalize V48.setRow c #[.string (bs v0), .string (bs v1), .string (bs v2), .string (bs v3), .string (bs P0), .bool asks, .int .i64 (a0 : Int), .int .i64 (a1 : Int), .int .i64 (a2 : Int), .string (bs gp), .string (bs gg), .string (bs P1), .string (bs P2), .string (bs P3)] = V49 at *
                 refine wpAnyH_done (by kernel_rfl) ?_ _
                 go_wp2_with fail
                 go_meet
                 case rel => exact TCut.mk tt49 hl hm0 hm1 hm2 hm3 zp49 zq49
               exact AllReadyH.nil
             exact AllReadyH.nil
           exact AllReadyH.nil
         refine AllReadyH.cons (o := { dst := some 6, op := Op.alloc 38, type := 0, pos := "law.go:64", after := #[], guard := none }) rfl (fun K hK => ?_) ?_
         · go_simp
           have bb : Below V45.heap.size V45 (V45.alloc (.cells #[.string ⟨#[]⟩, .string ⟨#[]⟩, .string ⟨#[]⟩, .string ⟨#[]⟩, .int .i64 0, .bool false, .int .u32 0, .int .u32 0, .int .u32 0, .string ⟨#[]⟩, .string ⟨#[]⟩, .int .i64 0, .int .i64 0, .int .i64 0] 38)) := (Below.refl _ _).alloc (Nat.le_refl _) _
           have tt50 := tt45.below bb
           have hBb : W0.heap.size ≤ V45.heap.size := Nat.le_of_lt tt45.lt
           have hne : V45.heap.size ≠ c := fun e => by have := zq45.lt; omega
           have zq50 := (Kept.ofBelow bb).hold _ _ _ (by decide) (by decide) zq45
           have hI50 := hI45.below bb
           have hT50 := hT45.below bb
           have zp50 := Holds.new V45 38 #[.string ⟨#[]⟩, .string ⟨#[]⟩, .string ⟨#[]⟩, .string ⟨#[]⟩, .int .i64 0, .bool false, .int .u32 0, .int .u32 0, .int .u32 0, .string ⟨#[]⟩, .string ⟨#[]⟩, .int .i64 0, .int .i64 0, .int .i64 0]
           clear bb tt45 zq45 hI45 hT45
           refine hK.out _ _ ?_ (fun hHeld => ?_)
           · exact HC.out _ tt50.bel
           clear hK K
           try simp only [Act.put, List.setIfInBounds_toArray, List.set_cons_zero, List.set_cons_succ]
           generalize V45.alloc (.cells #[.string ⟨#[]⟩, .string ⟨#[]⟩, .string ⟨#[]⟩, .string ⟨#[]⟩, .int .i64 0, .bool false, .int .u32 0, .int .u32 0, .int .u32 0, .string ⟨#[]⟩, .string ⟨#[]⟩, .int .i64 0, .int .i64 0, .int .i64 0] 38) = V50 at *
           generalize V45.heap.size = b at *
           refine wpAnyH_ready (rs := [4]) (by kernel_rfl) (by simp) ?_
           refine AllReadyH.cons (o := { dst := some 23, op := Op.call { callee := Callee.value (Operand.func 9), args := #[Operand.tmp 19, Operand.tmp 22], argTypes := #[30, 47] }, type := 42, pos := "law.go:64", after := #[{ on := 0, ground := Ground.data }, { on := 3, ground := Ground.data }, { on := 3, ground := Ground.chain }], guard := none }) rfl (fun K hK => ?_) ?_
           · obtain ⟨p0, p1, p2, p3, P0, P1, P2, P3, hm0, hm1, hm2, hm3, hCp⟩ := HPt.out _ _ _ _ _ _ _ hln hI50 hT50
             have HCp := Lib.hid hCp
             clear hCp
             go_simp
             go_at_call 9
             with_reducible refine HCp.out.mono ?_
             rintro e V51 ⟨rfl, bb⟩
             have tt51 := tt50.below bb
             have zp51 := (Kept.ofBelow bb).hold _ _ _ (by decide) (by decide) zp50
             have zq51 := (Kept.ofBelow bb).hold _ _ _ (by decide) (by decide) zq50
             clear bb HCp tt50 hI50 hT50 zp50 zq50
             go_wp2_with fail
             refine hK.out _ _ ?_ (fun hHeld => ?_)
             · exact HC.out _ tt51.bel
             clear hK K
             try simp only [Act.put, List.setIfInBounds_toArray, List.set_cons_zero, List.set_cons_succ]
             refine wpAnyH_take (i := 5) (oi := { dst := some 18, op := Op.move (Operand.tmp 23), type := 42, pos := "law.go:64", after := #[{ on := 4, ground := Ground.data }], guard := none }) (v := ?_) rfl (by kernel_rfl) (by kernel_rfl) (by kernel_rfl) (fun _ _ _ h => h) (Or.inl ⟨by rfl, ?_⟩) (by assumption) ?_
             rotate_left 1
             · (intro w hSw; (try dsimp only at hSw); go_simp; (try with_reducible rfl))
             try simp only [Act.put, List.setIfInBounds_toArray, List.set_cons_zero, List.set_cons_succ]
             refine wpAnyH_take (i := 6) (oi := { dst := some 24, op := Op.extract (Operand.tmp 18) 0, type := 38, pos := "law.go:64", after := #[{ on := 5, ground := Ground.data }], guard := none }) (v := ?_) rfl (by kernel_rfl) (by kernel_rfl) (by kernel_rfl) (fun _ _ _ h => h) (Or.inl ⟨by rfl, ?_⟩) (by assumption) ?_
             rotate_left 1
             · (intro w hSw; (try dsimp only at hSw); go_simp; (try with_reducible rfl))
             try simp only [Act.put, List.setIfInBounds_toArray, List.set_cons_zero, List.set_cons_succ]
             refine wpAnyH_take (i := 7) (oi := { dst := some 25, op := Op.extract (Operand.tmp 18) 1, type := 41, pos := "law.go:64", after := #[{ on := 5, ground := Ground.data }, { on := 10, ground := Ground.gcOnly Departure.lateStores }], guard := none }) (v := ?_) rfl (by kernel_rfl) (by kernel_rfl) (by kernel_rfl) (fun _ _ _ h => h) (Or.inl ⟨by rfl, ?_⟩) (by assumption) ?_
             rotate_left 1
             · (intro w hSw; (try dsimp only at hSw); go_simp; (try with_reducible rfl))
             try simp only [Act.put, List.setIfInBounds_toArray, List.set_cons_zero, List.set_cons_succ]
             refine wpAnyH_ready (rs := [10]) (by kernel_rfl) (by simp) ?_
             refine AllReadyH.cons (o := { dst := none, op := Op.store 38 (Operand.tmp 6) (Operand.tmp 24), type := 0, pos := "law.go:64", after := #[{ on := 8, ground := Ground.data }, { on := 6, ground := Ground.data }, { on := 4, ground := Ground.chain }, { on := 0, ground := Ground.phase }, { on := 1, ground := Ground.phase }, { on := 2, ground := Ground.phase }, { on := 3, ground := Ground.phase }, { on := 4, ground := Ground.phase }, { on := 5, ground := Ground.phase }, { on := 6, ground := Ground.phase }, { on := 7, ground := Ground.textOnly Departure.lateStores }, { on := 8, ground := Ground.phase }, { on := 9, ground := Ground.phase }], guard := none }) rfl (fun K hK => ?_) ?_
             · refine step_store_row20 rfl 38 _ _ rfl b #[.string (bs v0), .string (bs v1), .string (bs v2), .string (bs v3), .int .i64 p0, .bool asks, .int .u32 (a0 : Int), .int .u32 (a1 : Int), .int .u32 (a2 : Int), .string (bs gp), .string (bs gg), .int .i64 p1, .int .i64 p2, .int .i64 p3] rfl rfl 38 #[.string ⟨#[]⟩, .string ⟨#[]⟩, .string ⟨#[]⟩, .string ⟨#[]⟩, .int .i64 0, .bool false, .int .u32 0, .int .u32 0, .int .u32 0, .string ⟨#[]⟩, .string ⟨#[]⟩, .int .i64 0, .int .i64 0, .int .i64 0] zp51 (by exact sizeXPT) (by rfl) (by simp [Value.oneCell']) ?_
               have tt52 := ta_row20 tt51 zp51 (by decide) (by decide) hBb #[.string (bs v0), .string (bs v1), .string (bs v2), .string (bs v3), .int .i64 p0, .bool asks, .int .u32 (a0 : Int), .int .u32 (a1 : Int), .int .u32 (a2 : Int), .string (bs gp), .string (bs gg), .int .i64 p1, .int .i64 p2, .int .i64 p3]
               have zp52 : Holds (V51.setRow b #[.string (bs v0), .string (bs v1), .string (bs v2), .string (bs v3), .int .i64 p0, .bool asks, .int .u32 (a0 : Int), .int .u32 (a1 : Int), .int .u32 (a2 : Int), .string (bs gp), .string (bs gg), .int .i64 p1, .int .i64 p2, .int .i64 p3]) b 38 #[.string (bs v0), .string (bs v1), .string (bs v2), .string (bs v3), .int .i64 p0, .bool asks, .int .u32 (a0 : Int), .int .u32 (a1 : Int), .int .u32 (a2 : Int), .string (bs gp), .string (bs gg), .int .i64 p1, .int .i64 p2, .int .i64 p3] := setRow_heap _ _ _ _ _ _ zp51
               have zq52 := zq51.moves (moves_row20 V51 b #[.string (bs v0), .string (bs v1), .string (bs v2), .string (bs v3), .int .i64 p0, .bool asks, .int .u32 (a0 : Int), .int .u32 (a1 : Int), .int .u32 (a2 : Int), .string (bs gp), .string (bs gg), .int .i64 p1, .int .i64 p2, .int .i64 p3]) (fun e => hne e.symm)
               clear tt51 zp51 zq51
               refine hK.out _ _ ?_ (fun hHeld => ?_)
               · exact HC.out _ tt52.bel
               clear hK K
               try simp only [Act.put, List.setIfInBounds_toArray, List.set_cons_zero, List.set_cons_succ]
               generalize V51.setRow b #[.string (bs v0), .string (bs v1), .string (bs v2), .string (bs v3), .int .i64 p0, .bool asks, .int .u32 (a0 : Int), .int .u32 (a1 : Int), .int .u32 (a2 : Int), .string (bs gp), .string (bs gg), .int .i64 p1, .int .i64 p2, .int .i64 p3] = V52 at *
               refine wpAnyH_ready (rs := [11]) (by kernel_rfl) (by simp) ?_
               refine AllReadyH.cons (o := { dst := none, op := Op.store 41 (Operand.tmp 7) (Operand.tmp 25), type := 0, pos := "law.go:64", after := #[{ on := 9, ground := Ground.data }, { on := 7, ground := Ground.data }, { on := 10, ground := Ground.chain }, { on := 0, ground := Ground.phase }, { on := 1, ground := Ground.phase }, { on := 2, ground := Ground.phase }, { on := 3, ground := Ground.phase }, { on := 4, ground := Ground.phase }, { on := 5, ground := Ground.phase }, { on := 6, ground := Ground.phase }, { on := 7, ground := Ground.phase }, { on := 8, ground := Ground.phase }, { on := 9, ground := Ground.phase }, { on := 10, ground := Ground.phase }], guard := none }) rfl (fun K hK => ?_) ?_
               · refine step_store_row20 rfl 41 _ _ rfl c #[.string (bs v0), .string (bs v1), .string (bs v2), .string (bs v3), .string (bs P0), .bool asks, .int .i64 (a0 : Int), .int .i64 (a1 : Int), .int .i64 (a2 : Int), .string (bs gp), .string (bs gg), .string (bs P1), .string (bs P2), .string (bs P3)] rfl rfl 41 #[.string ⟨#[]⟩, .string ⟨#[]⟩, .string ⟨#[]⟩, .string ⟨#[]⟩, .string ⟨#[]⟩, .bool false, .int .i64 0, .int .i64 0, .int .i64 0, .string ⟨#[]⟩, .string ⟨#[]⟩, .string ⟨#[]⟩, .string ⟨#[]⟩, .string ⟨#[]⟩] zq52 (by exact sizeQPT) (by rfl) (by simp [Value.oneCell']) ?_
                 have tt53 := ta_row20 tt52 zq52 (by decide) (by decide) hBc #[.string (bs v0), .string (bs v1), .string (bs v2), .string (bs v3), .string (bs P0), .bool asks, .int .i64 (a0 : Int), .int .i64 (a1 : Int), .int .i64 (a2 : Int), .string (bs gp), .string (bs gg), .string (bs P1), .string (bs P2), .string (bs P3)]
                 have zq53 : Holds (V52.setRow c #[.string (bs v0), .string (bs v1), .string (bs v2), .string (bs v3), .string (bs P0), .bool asks, .int .i64 (a0 : Int), .int .i64 (a1 : Int), .int .i64 (a2 : Int), .string (bs gp), .string (bs gg), .string (bs P1), .string (bs P2), .string (bs P3)]) c 41 #[.string (bs v0), .string (bs v1), .string (bs v2), .string (bs v3), .string (bs P0), .bool asks, .int .i64 (a0 : Int), .int .i64 (a1 : Int), .int .i64 (a2 : Int), .string (bs gp), .string (bs gg), .string (bs P1), .string (bs P2), .string (bs P3)] := setRow_heap _ _ _ _ _ _ zq52
                 have zp53 := zp52.moves (moves_row20 V52 c #[.string (bs v0), .string (bs v1), .string (bs v2), .string (bs v3), .string (bs P0), .bool asks, .int .i64 (a0 : Int), .int .i64 (a1 : Int), .int .i64 (a2 : Int), .string (bs gp), .string (bs gg), .string (bs P1), .string (bs P2), .string (bs P3)]) (fun e => hne e)
                 clear tt52 zq52 zp52
                 refine hK.out _ _ ?_ (fun hHeld => ?_)
                 · exact HC.out _ tt53.bel
                 clear hK K
                 try simp only [Act.put, List.setIfInBounds_toArray, List.set_cons_zero, List.set_cons_succ]
                 generalize V52.setRow c #[.string (bs v0), .string (bs v1), .string (bs v2), .string (bs v3), .string (bs P0), .bool asks, .int .i64 (a0 : Int), .int .i64 (a1 : Int), .int .i64 (a2 : Int), .string (bs gp), .string (bs gg), .string (bs P1), .string (bs P2), .string (bs P3)] = V53 at *
                 refine wpAnyH_done (by kernel_rfl) ?_ _
                 go_wp2_with fail
                 go_meet
                 case rel => exact TCut.mk tt53 hl hm0 hm1 hm2 hm3 zp53 zq53
               exact AllReadyH.nil
             exact AllReadyH.nil
           exact AllReadyH.nil
         exact AllReadyH.nil
       refine AllReadyH.cons (o := { dst := some 6, op := Op.alloc 38, type := 0, pos := "law.go:64", after := #[], guard := none }) rfl (fun K hK => ?_) ?_
       · go_simp
         have bb : Below V44.heap.size V44 (V44.alloc (.cells #[.string ⟨#[]⟩, .string ⟨#[]⟩, .string ⟨#[]⟩, .string ⟨#[]⟩, .int .i64 0, .bool false, .int .u32 0, .int .u32 0, .int .u32 0, .string ⟨#[]⟩, .string ⟨#[]⟩, .int .i64 0, .int .i64 0, .int .i64 0] 38)) := (Below.refl _ _).alloc (Nat.le_refl _) _
         have tt54 := tt44.below bb
         have hBb : W0.heap.size ≤ V44.heap.size := Nat.le_of_lt tt44.lt
         have hne : V44.heap.size ≠ c := fun e => by have := zq44.lt; omega
         have zq54 := (Kept.ofBelow bb).hold _ _ _ (by decide) (by decide) zq44
         have zp54 := Holds.new V44 38 #[.string ⟨#[]⟩, .string ⟨#[]⟩, .string ⟨#[]⟩, .string ⟨#[]⟩, .int .i64 0, .bool false, .int .u32 0, .int .u32 0, .int .u32 0, .string ⟨#[]⟩, .string ⟨#[]⟩, .int .i64 0, .int .i64 0, .int .i64 0]
         clear bb tt44 zq44
         refine hK.out _ _ ?_ (fun hHeld => ?_)
         · exact HC.out _ tt54.bel
         clear hK K
         try simp only [Act.put, List.setIfInBounds_toArray, List.set_cons_zero, List.set_cons_succ]
         generalize V44.alloc (.cells #[.string ⟨#[]⟩, .string ⟨#[]⟩, .string ⟨#[]⟩, .string ⟨#[]⟩, .int .i64 0, .bool false, .int .u32 0, .int .u32 0, .int .u32 0, .string ⟨#[]⟩, .string ⟨#[]⟩, .int .i64 0, .int .i64 0, .int .i64 0] 38) = V54 at *
         generalize V44.heap.size = b at *
         refine wpAnyH_ready (rs := [3]) (by kernel_rfl) (by simp) ?_
         refine AllReadyH.cons (o := { dst := some 22, op := Op.call { callee := Callee.value (Operand.func 10), args := #[Operand.tmp 20, Operand.tmp 21], argTypes := #[34, 22] }, type := 47, pos := "law.go:64", after := #[{ on := 1, ground := Ground.data }, { on := 2, ground := Ground.data }], guard := none }) rfl (fun K hK => ?_) ?_
         · go_simp
           go_at_call 10
           with_reducible refine (HMk.out _ _ tt54).mono ?_
           rintro e V55 ⟨ids, texts, ai, ci, at', ct, rfl, hln, hI55, hT55, tt55, kp⟩
           have zp55 := kp.hold _ _ _ (by decide) (by decide) zp54
           have zq55 := kp.hold _ _ _ (by decide) (by decide) zq54
           go_wp2_with fail
           refine hK.out _ _ ?_ (fun hHeld => ?_)
           · exact HC.out _ tt55.bel
           clear hK K
           try simp only [Act.put, List.setIfInBounds_toArray, List.set_cons_zero, List.set_cons_succ]
           clear kp tt54 zp54 zq54
           refine wpAnyH_ready (rs := [4]) (by kernel_rfl) (by simp) ?_
           refine AllReadyH.cons (o := { dst := some 23, op := Op.call { callee := Callee.value (Operand.func 9), args := #[Operand.tmp 19, Operand.tmp 22], argTypes := #[30, 47] }, type := 42, pos := "law.go:64", after := #[{ on := 0, ground := Ground.data }, { on := 3, ground := Ground.data }, { on := 3, ground := Ground.chain }], guard := none }) rfl (fun K hK => ?_) ?_
           · obtain ⟨p0, p1, p2, p3, P0, P1, P2, P3, hm0, hm1, hm2, hm3, hCp⟩ := HPt.out _ _ _ _ _ _ _ hln hI55 hT55
             have HCp := Lib.hid hCp
             clear hCp
             go_simp
             go_at_call 9
             with_reducible refine HCp.out.mono ?_
             rintro e V56 ⟨rfl, bb⟩
             have tt56 := tt55.below bb
             have zp56 := (Kept.ofBelow bb).hold _ _ _ (by decide) (by decide) zp55
             have zq56 := (Kept.ofBelow bb).hold _ _ _ (by decide) (by decide) zq55
             clear bb HCp tt55 hI55 hT55 zp55 zq55
             go_wp2_with fail
             refine hK.out _ _ ?_ (fun hHeld => ?_)
             · exact HC.out _ tt56.bel
             clear hK K
             try simp only [Act.put, List.setIfInBounds_toArray, List.set_cons_zero, List.set_cons_succ]
             refine wpAnyH_take (i := 5) (oi := { dst := some 18, op := Op.move (Operand.tmp 23), type := 42, pos := "law.go:64", after := #[{ on := 4, ground := Ground.data }], guard := none }) (v := ?_) rfl (by kernel_rfl) (by kernel_rfl) (by kernel_rfl) (fun _ _ _ h => h) (Or.inl ⟨by rfl, ?_⟩) (by assumption) ?_
             rotate_left 1
             · (intro w hSw; (try dsimp only at hSw); go_simp; (try with_reducible rfl))
             try simp only [Act.put, List.setIfInBounds_toArray, List.set_cons_zero, List.set_cons_succ]
             refine wpAnyH_take (i := 6) (oi := { dst := some 24, op := Op.extract (Operand.tmp 18) 0, type := 38, pos := "law.go:64", after := #[{ on := 5, ground := Ground.data }], guard := none }) (v := ?_) rfl (by kernel_rfl) (by kernel_rfl) (by kernel_rfl) (fun _ _ _ h => h) (Or.inl ⟨by rfl, ?_⟩) (by assumption) ?_
             rotate_left 1
             · (intro w hSw; (try dsimp only at hSw); go_simp; (try with_reducible rfl))
             try simp only [Act.put, List.setIfInBounds_toArray, List.set_cons_zero, List.set_cons_succ]
             refine wpAnyH_take (i := 7) (oi := { dst := some 25, op := Op.extract (Operand.tmp 18) 1, type := 41, pos := "law.go:64", after := #[{ on := 5, ground := Ground.data }, { on := 10, ground := Ground.gcOnly Departure.lateStores }], guard := none }) (v := ?_) rfl (by kernel_rfl) (by kernel_rfl) (by kernel_rfl) (fun _ _ _ h => h) (Or.inl ⟨by rfl, ?_⟩) (by assumption) ?_
             rotate_left 1
             · (intro w hSw; (try dsimp only at hSw); go_simp; (try with_reducible rfl))
             try simp only [Act.put, List.setIfInBounds_toArray, List.set_cons_zero, List.set_cons_succ]
             refine wpAnyH_ready (rs := [10]) (by kernel_rfl) (by simp) ?_
             refine AllReadyH.cons (o := { dst := none, op := Op.store 38 (Operand.tmp 6) (Operand.tmp 24), type := 0, pos := "law.go:64", after := #[{ on := 8, ground := Ground.data }, { on := 6, ground := Ground.data }, { on := 4, ground := Ground.chain }, { on := 0, ground := Ground.phase }, { on := 1, ground := Ground.phase }, { on := 2, ground := Ground.phase }, { on := 3, ground := Ground.phase }, { on := 4, ground := Ground.phase }, { on := 5, ground := Ground.phase }, { on := 6, ground := Ground.phase }, { on := 7, ground := Ground.textOnly Departure.lateStores }, { on := 8, ground := Ground.phase }, { on := 9, ground := Ground.phase }], guard := none }) rfl (fun K hK => ?_) ?_
             · refine step_store_row20 rfl 38 _ _ rfl b #[.string (bs v0), .string (bs v1), .string (bs v2), .string (bs v3), .int .i64 p0, .bool asks, .int .u32 (a0 : Int), .int .u32 (a1 : Int), .int .u32 (a2 : Int), .string (bs gp), .string (bs gg), .int .i64 p1, .int .i64 p2, .int .i64 p3] rfl rfl 38 #[.string ⟨#[]⟩, .string ⟨#[]⟩, .string ⟨#[]⟩, .string ⟨#[]⟩, .int .i64 0, .bool false, .int .u32 0, .int .u32 0, .int .u32 0, .string ⟨#[]⟩, .string ⟨#[]⟩, .int .i64 0, .int .i64 0, .int .i64 0] zp56 (by exact sizeXPT) (by rfl) (by simp [Value.oneCell']) ?_
               have tt57 := ta_row20 tt56 zp56 (by decide) (by decide) hBb #[.string (bs v0), .string (bs v1), .string (bs v2), .string (bs v3), .int .i64 p0, .bool asks, .int .u32 (a0 : Int), .int .u32 (a1 : Int), .int .u32 (a2 : Int), .string (bs gp), .string (bs gg), .int .i64 p1, .int .i64 p2, .int .i64 p3]
               have zp57 : Holds (V56.setRow b #[.string (bs v0), .string (bs v1), .string (bs v2), .string (bs v3), .int .i64 p0, .bool asks, .int .u32 (a0 : Int), .int .u32 (a1 : Int), .int .u32 (a2 : Int), .string (bs gp), .string (bs gg), .int .i64 p1, .int .i64 p2, .int .i64 p3]) b 38 #[.string (bs v0), .string (bs v1), .string (bs v2), .string (bs v3), .int .i64 p0, .bool asks, .int .u32 (a0 : Int), .int .u32 (a1 : Int), .int .u32 (a2 : Int), .string (bs gp), .string (bs gg), .int .i64 p1, .int .i64 p2, .int .i64 p3] := setRow_heap _ _ _ _ _ _ zp56
               have zq57 := zq56.moves (moves_row20 V56 b #[.string (bs v0), .string (bs v1), .string (bs v2), .string (bs v3), .int .i64 p0, .bool asks, .int .u32 (a0 : Int), .int .u32 (a1 : Int), .int .u32 (a2 : Int), .string (bs gp), .string (bs gg), .int .i64 p1, .int .i64 p2, .int .i64 p3]) (fun e => hne e.symm)
               clear tt56 zp56 zq56
               refine hK.out _ _ ?_ (fun hHeld => ?_)
               · exact HC.out _ tt57.bel
               clear hK K
               try simp only [Act.put, List.setIfInBounds_toArray, List.set_cons_zero, List.set_cons_succ]
               generalize V56.setRow b #[.string (bs v0), .string (bs v1), .string (bs v2), .string (bs v3), .int .i64 p0, .bool asks, .int .u32 (a0 : Int), .int .u32 (a1 : Int), .int .u32 (a2 : Int), .string (bs gp), .string (bs gg), .int .i64 p1, .int .i64 p2, .int .i64 p3] = V57 at *
               refine wpAnyH_ready (rs := [11]) (by kernel_rfl) (by simp) ?_
               refine AllReadyH.cons (o := { dst := none, op := Op.store 41 (Operand.tmp 7) (Operand.tmp 25), type := 0, pos := "law.go:64", after := #[{ on := 9, ground := Ground.data }, { on := 7, ground := Ground.data }, { on := 10, ground := Ground.chain }, { on := 0, ground := Ground.phase }, { on := 1, ground := Ground.phase }, { on := 2, ground := Ground.phase }, { on := 3, ground := Ground.phase }, { on := 4, ground := Ground.phase }, { on := 5, ground := Ground.phase }, { on := 6, ground := Ground.phase }, { on := 7, ground := Ground.phase }, { on := 8, ground := Ground.phase }, { on := 9, ground := Ground.phase }, { on := 10, ground := Ground.phase }], guard := none }) rfl (fun K hK => ?_) ?_
               · refine step_store_row20 rfl 41 _ _ rfl c #[.string (bs v0), .string (bs v1), .string (bs v2), .string (bs v3), .string (bs P0), .bool asks, .int .i64 (a0 : Int), .int .i64 (a1 : Int), .int .i64 (a2 : Int), .string (bs gp), .string (bs gg), .string (bs P1), .string (bs P2), .string (bs P3)] rfl rfl 41 #[.string ⟨#[]⟩, .string ⟨#[]⟩, .string ⟨#[]⟩, .string ⟨#[]⟩, .string ⟨#[]⟩, .bool false, .int .i64 0, .int .i64 0, .int .i64 0, .string ⟨#[]⟩, .string ⟨#[]⟩, .string ⟨#[]⟩, .string ⟨#[]⟩, .string ⟨#[]⟩] zq57 (by exact sizeQPT) (by rfl) (by simp [Value.oneCell']) ?_
                 have tt58 := ta_row20 tt57 zq57 (by decide) (by decide) hBc #[.string (bs v0), .string (bs v1), .string (bs v2), .string (bs v3), .string (bs P0), .bool asks, .int .i64 (a0 : Int), .int .i64 (a1 : Int), .int .i64 (a2 : Int), .string (bs gp), .string (bs gg), .string (bs P1), .string (bs P2), .string (bs P3)]
                 have zq58 : Holds (V57.setRow c #[.string (bs v0), .string (bs v1), .string (bs v2), .string (bs v3), .string (bs P0), .bool asks, .int .i64 (a0 : Int), .int .i64 (a1 : Int), .int .i64 (a2 : Int), .string (bs gp), .string (bs gg), .string (bs P1), .string (bs P2), .string (bs P3)]) c 41 #[.string (bs v0), .string (bs v1), .string (bs v2), .string (bs v3), .string (bs P0), .bool asks, .int .i64 (a0 : Int), .int .i64 (a1 : Int), .int .i64 (a2 : Int), .string (bs gp), .string (bs gg), .string (bs P1), .string (bs P2), .string (bs P3)] := setRow_heap _ _ _ _ _ _ zq57
                 have zp58 := zp57.moves (moves_row20 V57 c #[.string (bs v0), .string (bs v1), .string (bs v2), .string (bs v3), .string (bs P0), .bool asks, .int .i64 (a0 : Int), .int .i64 (a1 : Int), .int .i64 (a2 : Int), .string (bs gp), .string (bs gg), .string (bs P1), .string (bs P2), .string (bs P3)]) (fun e => hne e)
                 clear tt57 zq57 zp57
                 refine hK.out _ _ ?_ (fun hHeld => ?_)
                 · exact HC.out _ tt58.bel
                 clear hK K
                 try simp only [Act.put, List.setIfInBounds_toArray, List.set_cons_zero, List.set_cons_succ]
                 generalize V57.setRow c #[.string (bs v0), .string (bs v1), .string (bs v2), .string (bs v3), .string (bs P0), .bool asks, .int .i64 (a0 : Int), .int .i64 (a1 : Int), .int .i64 (a2 : Int), .string (bs gp), .string (bs gg), .string (bs P1), .string (bs P2), .string (bs P3)] = V58 at *
                 refine wpAnyH_done (by kernel_rfl) ?_ _
                 go_wp2_with fail
                 go_meet
                 case rel => exact TCut.mk tt58 hl hm0 hm1 hm2 hm3 zp58 zq58
               exact AllReadyH.nil
             exact AllReadyH.nil
           exact AllReadyH.nil
         exact AllReadyH.nil
       exact AllReadyH.nil
     exact AllReadyH.nil
  case rest =>
    obtain ⟨p0, p1, p2, p3, P0, P1, P2, P3, b, c, rfl, rfl, ht, hP, hQ⟩ := hcut
    obtain ⟨hRl, hRh⟩ := HRL.out P0 P1 P2 P3 ⟨ht.short (.head _), ht.short (.tail _ (.head _)), ht.short (.tail _ (.tail _ (.head _))), ht.short (.tail _ (.tail _ (.tail _ (.head _))))⟩
    have HRl := Lib.hid hRl
    have HRh := Lib.hid hRh
    have HLx := Lib.hid (fun W h => HL.out p0 p1 p2 p3 P0 P1 P2 P3 A W h)
    have HHx := Lib.hid (fun i T W h => HH.out p0 p1 p2 p3 i P0 P1 P2 P3 T A W h)
    have HE : Hid (∀ (W : World) (n : Nat) (L : List (Int × List UInt8)) (i : Int) (T : List UInt8), Ta W0.heap.size W0 A ((i, T) :: L) n W → Calls Tryz.prog 11 #[.pointer (some ⟨A, 0, none⟩), .int .i64 i] W fun r w' => r = .returned (.string (bs T)) ∧ Below W.heap.size W w') := fun W n L i T h => taEncode h (.head _)
    have HBx : Hid (∀ W, Kept wc W → W.cell? ⟨b, 0, none⟩ = some (.string (bs v0)) ∧ W.cell? ⟨b, 1, none⟩ = some (.string (bs v1)) ∧ W.cell? ⟨b, 2, none⟩ = some (.string (bs v2)) ∧ W.cell? ⟨b, 3, none⟩ = some (.string (bs v3)) ∧ W.cell? ⟨b, 4, none⟩ = some (.int .i64 p0) ∧ W.cell? ⟨b, 5, none⟩ = some (.bool asks) ∧ W.cell? ⟨b, 6, none⟩ = some (.int .u32 (a0 : Int)) ∧ W.cell? ⟨b, 7, none⟩ = some (.int .u32 (a1 : Int)) ∧ W.cell? ⟨b, 8, none⟩ = some (.int .u32 (a2 : Int)) ∧ W.cell? ⟨b, 9, none⟩ = some (.string (bs gp)) ∧ W.cell? ⟨b, 10, none⟩ = some (.string (bs gg)) ∧ W.cell? ⟨b, 11, none⟩ = some (.int .i64 p1) ∧ W.cell? ⟨b, 12, none⟩ = some (.int .i64 p2) ∧ W.cell? ⟨b, 13, none⟩ = some (.int .i64 p3) ∧ W.cell? ⟨c, 0, none⟩ = some (.string (bs v0)) ∧ W.cell? ⟨c, 1, none⟩ = some (.string (bs v1)) ∧ W.cell? ⟨c, 2, none⟩ = some (.string (bs v2)) ∧ W.cell? ⟨c, 3, none⟩ = some (.string (bs v3)) ∧ W.cell? ⟨c, 4, none⟩ = some (.string (bs P0)) ∧ W.cell? ⟨c, 5, none⟩ = some (.bool asks) ∧ W.cell? ⟨c, 6, none⟩ = some (.int .i64 (a0 : Int)) ∧ W.cell? ⟨c, 7, none⟩ = some (.int .i64 (a1 : Int)) ∧ W.cell? ⟨c, 8, none⟩ = some (.int .i64 (a2 : Int)) ∧ W.cell? ⟨c, 9, none⟩ = some (.string (bs gp)) ∧ W.cell? ⟨c, 10, none⟩ = some (.string (bs gg)) ∧ W.cell? ⟨c, 11, none⟩ = some (.string (bs P1)) ∧ W.cell? ⟨c, 12, none⟩ = some (.string (bs P2)) ∧ W.cell? ⟨c, 13, none⟩ = some (.string (bs P3))) := fun W hk => by
      have h1 := hk.hold _ _ _ (by decide) (by decide) hP
      have h2 := hk.hold _ _ _ (by decide) (by decide) hQ
      exact ⟨h1.cell 0, h1.cell 1, h1.cell 2, h1.cell 3, h1.cell 4, h1.cell 5, h1.cell 6, h1.cell 7, h1.cell 8, h1.cell 9, h1.cell 10, h1.cell 11, h1.cell 12, h1.cell 13, h2.cell 0, h2.cell 1, h2.cell 2, h2.cell 3, h2.cell 4, h2.cell 5, h2.cell 6, h2.cell 7, h2.cell 8, h2.cell 9, h2.cell 10, h2.cell 11, h2.cell 12, h2.cell 13⟩
    have HAw := Lib.hid awake20_any
    have t0 := ht.drew
    have kb0 : Kept wc wc.drew := Kept.ofBelow (Below.refl _ _).drew
    clear hRl hRh HRL HL HH HC HPt HMk hP hQ ht t1
    generalize refListL (listL20 [v0, v1, v2, v3] P0 asks (askL a0 a1 a2 gp gg) P1 P2 P3) = TL at *
    generalize refHashL TL = TH at *
    have e1 : ((bs TL).toList == (bs TL).toList) = true := by simp
    have e2 : ((bs TH).toList == (bs TH).toList) = true := by simp
    go_upto_region 5 with fail
    go_region_held3 (fun W => W.cell? ⟨b, 0, none⟩ = some (.string (bs v0)) ∧ W.cell? ⟨b, 1, none⟩ = some (.string (bs v1)) ∧ W.cell? ⟨b, 2, none⟩ = some (.string (bs v2)) ∧ W.cell? ⟨b, 3, none⟩ = some (.string (bs v3)) ∧ W.cell? ⟨b, 4, none⟩ = some (.int .i64 p0) ∧ W.cell? ⟨b, 5, none⟩ = some (.bool asks) ∧ W.cell? ⟨b, 6, none⟩ = some (.int .u32 (a0 : Int)) ∧ W.cell? ⟨b, 7, none⟩ = some (.int .u32 (a1 : Int)) ∧ W.cell? ⟨b, 8, none⟩ = some (.int .u32 (a2 : Int)) ∧ W.cell? ⟨b, 9, none⟩ = some (.string (bs gp)) ∧ W.cell? ⟨b, 10, none⟩ = some (.string (bs gg)) ∧ W.cell? ⟨b, 11, none⟩ = some (.int .i64 p1) ∧ W.cell? ⟨b, 12, none⟩ = some (.int .i64 p2) ∧ W.cell? ⟨b, 13, none⟩ = some (.int .i64 p3) ∧ W.cell? ⟨c, 0, none⟩ = some (.string (bs v0)) ∧ W.cell? ⟨c, 1, none⟩ = some (.string (bs v1)) ∧ W.cell? ⟨c, 2, none⟩ = some (.string (bs v2)) ∧ W.cell? ⟨c, 3, none⟩ = some (.string (bs v3)) ∧ W.cell? ⟨c, 4, none⟩ = some (.string (bs P0)) ∧ W.cell? ⟨c, 5, none⟩ = some (.bool asks) ∧ W.cell? ⟨c, 6, none⟩ = some (.int .i64 (a0 : Int)) ∧ W.cell? ⟨c, 7, none⟩ = some (.int .i64 (a1 : Int)) ∧ W.cell? ⟨c, 8, none⟩ = some (.int .i64 (a2 : Int)) ∧ W.cell? ⟨c, 9, none⟩ = some (.string (bs gp)) ∧ W.cell? ⟨c, 10, none⟩ = some (.string (bs gg)) ∧ W.cell? ⟨c, 11, none⟩ = some (.string (bs P1)) ∧ W.cell? ⟨c, 12, none⟩ = some (.string (bs P2)) ∧ W.cell? ⟨c, 13, none⟩ = some (.string (bs P3)))
      (first | with_reducible exact HBx.out _ kb0 | with_reducible exact HBx.out _ kb1 | with_reducible exact HBx.out _ kb2 | with_reducible exact HBx.out _ kb3 | with_reducible exact HBx.out _ kb4 | with_reducible exact HBx.out _ kb5 | with_reducible exact HBx.out _ kb6 | with_reducible exact HBx.out _ kb7 | fail)
      (first
        | (go_at_call 7; (with_reducible refine (HAw.out _).mono ?_); rintro e u1 ⟨rfl, d1⟩; have t1 := t0.below d1; have kb1 := kb0.trans (Kept.ofBelow d1); clear d1)
        | (go_at_call 12; (with_reducible refine (HLx.out _ t1).mono ?_); rintro e u2 ⟨i, rfl, t2, k2⟩; have kb2 := kb1.trans k2; clear k2)
        | (go_at_call 11; (with_reducible refine (HE.out _ _ _ _ _ t2).mono ?_); rintro e u3 ⟨rfl, d3⟩; have t3 := t2.below d3; have kb3 := kb2.trans (Kept.ofBelow d3); clear d3)
        | (go_at_call 13; (with_reducible refine (HRl.out _).mono ?_); rintro e u4 ⟨rfl, d4⟩; have t4 := t3.below d4; have kb4 := kb3.trans (Kept.ofBelow d4); clear d4)
        | (go_at_call 14; (with_reducible refine (HHx.out _ _ _ t4).mono ?_); rintro e u5 ⟨j, rfl, t5, k5⟩; have kb5 := kb4.trans k5; clear k5)
        | (go_at_call 11; (with_reducible refine (HE.out _ _ _ _ _ t5).mono ?_); rintro e u6 ⟨rfl, d6⟩; have t6 := t5.below d6; have kb6 := kb5.trans (Kept.ofBelow d6); clear d6)
        | (go_at_call 15; (with_reducible refine (HRh.out _).mono ?_); rintro e u7 ⟨rfl, d7⟩; have t7 := t6.below d7; have kb7 := kb6.trans (Kept.ofBelow d7); clear d7))
    go_wp2_with fail
    go_ret
    exact ⟨rfl, HB0.out.trans (t7.bel.mono HB0.out.size)⟩
end Go.Proofs.YtobhpclemmhpoaaGreatDoor
