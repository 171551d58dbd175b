/- Part 9 of what the statement wants. -/
import Derived.BigRegion
import Derived.Laws.NewBlocks
import Derived.Laws.Slices
import Derived.Deep.RegionHeld3
import Derived.Laws.ResultCell
import Derived.Deep.CutBlock
import Derived.Deep.DeepCutAuto
import Derived.Deep.RegionLaw
import Derived.Test.YtbhekicoohcaeaaPk01
import Derived.Test.YtbhekicoohcaeaaPk02
import Derived.Test.YtbhekicoohcaeaaPk05
import Derived.Test.YtbhekicoohcaeaaPk08
namespace Go.Proofs.Ytbhekicoohcaeaa
open Go.RowKit

def nodeV (sh : Shp) (v : Value) : Value := .agg #[.int .i64 sh.kind, .int .i64 sh.a, .int .i64 sh.b, .string sh.s, v]
def noNode : Value := .agg #[.int .i64 0, .int .i64 0, .int .i64 0, .string ⟨#[]⟩, .slice none 0 0]

theorem run_cell_tmp {P : Program} {fn : Func} {p u : Tmp} {ty : TypeId} (h : fn.results = #[.cell p ty, .tmp u]) (tmps : Array Value) (w : World) (g : Nat) (cs : Array Value) (v : Value) (d : TypeDesc)
    (hp : tmps.getD p undef = .pointer (some ⟨g, 0, none⟩)) (hv : tmps.getD u undef = v) (hg : Holds w g ty cs)
    (hu : P.underlying ty = some d) (hd : (match d with | .struct _ | .array _ _ => true | _ => false) = true) (hi : (P.info? ty).map (·.size) = some cs.size) :
    (results fn tmps).run P w = .ok (.tuple #[.agg cs, v]) w := by
  rw [results_cell_tmp h, hp, hv]
  simp [asAddr, run_loadVar_row w g ty ty cs (0, 0) d hg hu hd hi]

set_option maxHeartbeats 1000000 in
set_option maxRecDepth 100000 in
theorem View_some {B A : Nat} {L : List Ent} {F : Nat → Prop} {w : World} (ha : ArenaAt B A L F w) {n : Nat} {e : Ent} (he : L[n]? = some e) :
    Calls Try.prog 38 #[.pointer (some ⟨A, 0, none⟩), .int .i64 n] w fun r w' => ∃ g, r = .returned (.tuple #[nodeV e.sh (.slice (some ⟨g, 0, none⟩) e.sh.args.length e.sh.args.length), .bool true]) ∧
      w'.ownsRow w.heap.size 33 1 (.slice (some ⟨g, 0, none⟩) e.sh.args.length e.sh.args.length) e.sh.args.length (ints e.sh.args) ∧ Below w.heap.size w w' := by
  obtain ⟨ao, cap, mb, c0, _, hlen, hcells⟩ := ha.read
  obtain ⟨g, rfl, hcx⟩ := hcells n e he
  have hn := (List.getElem?_eq_some_iff.1 he).1
  have hok := ha.wf.ok n e he
  have x0 : w.cell? ⟨g, n * 6, none⟩ = _ := hcx 0 _ rfl
  have x1 : w.cell? ⟨g, n * 6 + 1, none⟩ = _ := hcx 1 _ rfl
  have x2 : w.cell? ⟨g, n * 6 + 2, none⟩ = _ := hcx 2 _ rfl
  have x3 : w.cell? ⟨g, n * 6 + 3, none⟩ = _ := hcx 3 _ rfl
  have x4 : w.cell? ⟨g, n * 6 + 4, none⟩ = _ := hcx 4 _ rfl
  have x5 : w.cell? ⟨g, n * 6 + 5, none⟩ = _ := hcx 5 _ rfl
  have hgl := World.block_lt_of_cell? w _ x0
  have hAl := World.block_lt_of_cell? w _ c0
  simp only at hgl hAl
  obtain ⟨⟨kE, aE, bE, sE, gE⟩, zE⟩ := e
  unfold nodeV
  simp only at x0 x1 x2 x3 x4 x5 ⊢
  have hargs := hok.args
  have hmany := hok.many
  simp only at hargs hmany
  have hup := fun W => unpack_any gE W hmany fun t ht => by have := hargs t ht; omega
  have hb0 : ArenaAt B A L F (w.alloc (.cells #[.int .i64 0, .int .i64 0, .int .i64 0, .string ⟨#[]⟩, .slice none 0 0] 78)) := ha.below ((Below.refl _ _).alloc (Nat.le_refl _) _)
  clear hcells hcx he hok hargs hmany
  go_enter Try.func38, Try.ntmps38
  go_wp2_with (go_at_call 52; refine (has_yes hb0 _ hn).mono ?_; rintro r w' ⟨rfl, rfl⟩)
  have hN0 : Holds ((w.alloc (.cells #[.int .i64 0, .int .i64 0, .int .i64 0, .string ⟨#[]⟩, .slice none 0 0] 78)).alloc (.cells #[.int .i64 kE, .int .i64 aE, .int .i64 bE, .string sE, .string (packB gE), .int .i64 zE] 99)) w.heap.size 78 #[.int .i64 0, .int .i64 0, .int .i64 0, .string ⟨#[]⟩, .slice none 0 0] := (Holds.new w _ _).moves (S := nobody) ((Moves.refl _ _).alloc _) fun h => h
  have hE0 : Holds ((w.alloc (.cells #[.int .i64 0, .int .i64 0, .int .i64 0, .string ⟨#[]⟩, .slice none 0 0] 78)).alloc (.cells #[.int .i64 kE, .int .i64 aE, .int .i64 bE, .string sE, .string (packB gE), .int .i64 zE] 99)) (w.heap.size + 1) 99 #[.int .i64 kE, .int .i64 aE, .int .i64 bE, .string sE, .string (packB gE), .int .i64 zE] := by
    have := Holds.new (w.alloc (.cells #[.int .i64 0, .int .i64 0, .int .i64 0, .string ⟨#[]⟩, .slice none 0 0] 78)) 99 #[.int .i64 kE, .int .i64 aE, .int .i64 bE, .string sE, .string (packB gE), .int .i64 zE]
    rw [World.size_alloc] at this
    exact this
  have hbel : Below w.heap.size w ((w.alloc (.cells #[.int .i64 0, .int .i64 0, .int .i64 0, .string ⟨#[]⟩, .slice none 0 0] 78)).alloc (.cells #[.int .i64 kE, .int .i64 aE, .int .i64 bE, .string sE, .string (packB gE), .int .i64 zE] 99)) := (((Below.refl _ _).alloc (Nat.le_refl _) _).alloc (by simp) _)
  clear x0 x1 x2 x3 x4 x5 c0 hb0
  generalize ((w.alloc (.cells #[.int .i64 0, .int .i64 0, .int .i64 0, .string ⟨#[]⟩, .slice none 0 0] 78)).alloc (.cells #[.int .i64 kE, .int .i64 aE, .int .i64 bE, .string sE, .string (packB gE), .int .i64 zE] 99)) = W0 at *
  generalize hzz : w.heap.size = N at *
  have HZ := Lib.hid hzz
  clear hzz
  have y0 : W0.drew.cell? ⟨N + 1, 0, none⟩ = some (.int .i64 kE) := hE0.cell 0
  have y1 : W0.drew.cell? ⟨N + 1, 1, none⟩ = some (.int .i64 aE) := hE0.cell 1
  have y2 : W0.drew.cell? ⟨N + 1, 2, none⟩ = some (.int .i64 bE) := hE0.cell 2
  have y3 : W0.drew.cell? ⟨N + 1, 3, none⟩ = some (.string sE) := hE0.cell 3
  have y4 : W0.drew.cell? ⟨N + 1, 4, none⟩ = some (.string (packB gE)) := hE0.cell 4
  have hN1 : Holds W0.drew N 78 #[.int .i64 0, .int .i64 0, .int .i64 0, .string ⟨#[]⟩, .slice none 0 0] := hN0
  have hb1 : Below N w W0.drew := hbel.drew
  have hNl : N + 1 < W0.drew.heap.size := hE0.lt
  clear hN0 hE0 hbel
  go_region_held3 (fun w' => w'.cell? ⟨N + 1, 0, none⟩ = some (.int .i64 kE) ∧ w'.cell? ⟨N + 1, 1, none⟩ = some (.int .i64 aE) ∧ w'.cell? ⟨N + 1, 2, none⟩ = some (.int .i64 bE) ∧ w'.cell? ⟨N + 1, 3, none⟩ = some (.string sE) ∧ w'.cell? ⟨N + 1, 4, none⟩ = some (.string (packB gE)))
    (first | with_reducible exact ⟨y0, y1, y2, y3, y4⟩ | with_reducible exact ⟨z0, z1, z2, z3, z4⟩ | go_keep)
    ((go_at_call 64
      refine (hup _).mono ?_
      rintro r w1 ⟨rfl, hown, hbu⟩
      have z0 := (hbu.cell (p := ⟨N + 1, 0, none⟩) hNl).trans y0
      have z1 := (hbu.cell (p := ⟨N + 1, 1, none⟩) hNl).trans y1
      have z2 := (hbu.cell (p := ⟨N + 1, 2, none⟩) hNl).trans y2
      have z3 := (hbu.cell (p := ⟨N + 1, 3, none⟩) hNl).trans y3
      have z4 := (hbu.cell (p := ⟨N + 1, 4, none⟩) hNl).trans y4
      have hN2 := (hbu.block N (by omega)).trans hN1
      have n0 := Holds.cell hN2 0
      have n1 := Holds.cell hN2 1
      have n2 := Holds.cell hN2 2
      have n3 := Holds.cell hN2 3
      have n4 := Holds.cell hN2 4
      have f0 := Holds.frozen hN2 0
      have f1 := Holds.frozen hN2 1
      have f2 := Holds.frozen hN2 2
      have f3 := Holds.frozen hN2 3
      have f4 := Holds.frozen hN2 4))
  all_goals
    go_wp2_with fail
    have hNf := Holds.set (Holds.set (Holds.set (Holds.set (Holds.set hN2 0 (.int .i64 kE)) 1 (.int .i64 aE)) 2 (.int .i64 bE)) 3 (.string sE)) 4 (.slice (some ⟨W0.heap.size, 0, none⟩) gE.length gE.length)
    have hNW : N < W0.heap.size := by have := hNl; show N < W0.drew.heap.size; omega
    have hof := ownsRow_setCell_below (ownsRow_setCell_below (ownsRow_setCell_below (ownsRow_setCell_below (ownsRow_setCell_below hown (a := ⟨N, 0, none⟩) hNW (.int .i64 kE)) (a := ⟨N, 1, none⟩) hNW (.int .i64 aE)) (a := ⟨N, 2, none⟩) hNW (.int .i64 bE)) (a := ⟨N, 3, none⟩) hNW (.string sE)) (a := ⟨N, 4, none⟩) hNW (.slice (some ⟨W0.heap.size, 0, none⟩) gE.length gE.length)
    have hbf : Below N w _ := ((((((hb1.trans (hbu.mono (show N ≤ W0.drew.heap.size by omega))).setCell (p := ⟨N, 0, none⟩) (Nat.le_refl _) (.int .i64 kE)).setCell (p := ⟨N, 1, none⟩) (Nat.le_refl _) (.int .i64 aE)).setCell (p := ⟨N, 2, none⟩) (Nat.le_refl _) (.int .i64 bE)).setCell (p := ⟨N, 3, none⟩) (Nat.le_refl _) (.string sE)).setCell (p := ⟨N, 4, none⟩) (Nat.le_refl _) (.slice (some ⟨W0.heap.size, 0, none⟩) gE.length gE.length))
    refine bodyPost_ret (v := .tuple #[nodeV ⟨kE, aE, bE, sE, gE⟩ (.slice (some ⟨W0.heap.size, 0, none⟩) gE.length gE.length), .bool true]) ?_ rfl ⟨W0.heap.size, rfl, ?_, ?_⟩
    · exact run_cell_tmp rfl _ _ N _ _ _ rfl rfl hNf Try.underlying78 rfl (by kernel_rfl)
    · rw [HZ.out]
      exact owns_lower hof (show N ≤ W0.drew.heap.size by omega)
    · rw [HZ.out]
      exact hbf
end Go.Proofs.Ytbhekicoohcaeaa

namespace Go.Proofs.Ytbhekicoohcaeaa
open Go.RowKit

/-- What stands ahead of a term's terms: its numbers and text, where that ends, whether it could be read, how many terms follow. -/
structure PHead where
  a : Nat
  b : Nat
  s : List UInt8
  e : Nat
  ok : Bool
  many : Nat
def headP (d : List UInt8) (k : Int) (e : Nat) : PHead :=
  if k = 1 then ⟨0, 0, (text4P d e).1, (text4P d e).2.1, (text4P d e).2.2, 0⟩
  else if k = 2 then (if (num4P d e).2 = true then ⟨(num4P d e).1, (num4P d (e + 4)).1, [], e + 8, (num4P d (e + 4)).2, 0⟩ else ⟨(num4P d e).1, 0, [], e + 8, false, 0⟩)
  else if k = 3 then ⟨(num4P d e).1, 0, [], e + 4, (num4P d e).2, 0⟩
  else if k = 4 ∨ k = 7 then ⟨0, 0, [], e, true, 1⟩
  else if k = 5 then (if (text4P d e).2.2 = true then ⟨0, 0, (text4P d e).1, (text4P d e).2.1 + 4, (num4P d (text4P d e).2.1).2 && decide ((num4P d (text4P d e).2.1).1 ≤ 8), (num4P d (text4P d e).2.1).1⟩ else ⟨0, 0, (text4P d e).1, (text4P d e).2.1 + 4, false, 0⟩)
  else if k = 6 then ⟨0, 0, (text4P d e).1, (text4P d e).2.1, (text4P d e).2.2, 2⟩
  else if k = 8 then (if e < d.length then ⟨0, byteAt d e, [], e + 1, true, 3⟩ else ⟨0, 0, [], e + 1, false, 3⟩)
  else if k = 9 then ⟨0, (num4P d e).1, [], e + 4, (num4P d e).2, 2⟩
  else if k = 10 then ⟨0, 0, [], e + 4, (num4P d e).2 && decide ((num4P d e).1 ≤ 32), (num4P d e).1⟩
  else ⟨0, 0, [], e, false, 0⟩
abbrev Parsed := RNode × Nat × Bool
def manyP (p : Nat → Parsed) (d : List UInt8) : Nat → Nat → List (List UInt8) × Nat × Bool
  | 0, e => ([], e, true)
  | n + 1, e => if (p e).2.2 = true then (cutL d e (p e).2.1 :: (manyP p d n (p e).2.1).1, (manyP p d n (p e).2.1).2) else ([], (p e).2.1, false)
def noRNode : RNode := ⟨0, 0, 0, [], []⟩
def restP (p : Nat → Parsed) (d : List UInt8) (at' : Nat) (k : Int) (h : PHead) : Parsed :=
  if h.ok = true ∧ (manyP p d h.many h.e).2.2 = true ∧ rightP ⟨k, h.a, h.b, h.s, (manyP p d h.many h.e).1⟩ = true then (⟨k, h.a, h.b, h.s, (manyP p d h.many h.e).1⟩, (manyP p d h.many h.e).2.1, true)
  else (noRNode, at', false)
def parseN : Nat → List UInt8 → Nat → Parsed
  | 0, _, k => (noRNode, k, false)
  | f + 1, d, k => if d.length ≤ k then (noRNode, k, false) else restP (parseN f d) d k ((byteAt d k : Int) - 240) (headP d ((byteAt d k : Int) - 240) (k + 1))

end Go.Proofs.Ytbhekicoohcaeaa

namespace Go.Proofs.Ytbhekicoohcaeaa
open Go.RowKit

theorem manyP_yes {p : Nat → Parsed} {d : List UInt8} {n e : Nat} (h : (p e).2.2 = true) : manyP p d (n + 1) e = (cutL d e (p e).2.1 :: (manyP p d n (p e).2.1).1, (manyP p d n (p e).2.1).2) := by
  show (if (p e).2.2 = true then _ else _) = _
  rw [if_pos h]
/-- How far the loop has come. -/
structure StepP (p : Nat → Parsed) (d : List UInt8) (k : Nat) (H : PHead) (j E : Nat) (ok : Bool) (l : List (List UInt8)) : Prop where
  le : j ≤ H.many
  few : l.length ≤ 32
  yes : ok = true → H.ok = true ∧ k < E ∧ E ≤ d.length ∧ l.length = j ∧ manyP p d H.many H.e = (l ++ (manyP p d (H.many - j) E).1, (manyP p d (H.many - j) E).2)
  no : ok = false → H.ok = false ∨ (manyP p d H.many H.e).2.2 = false
theorem StepP.good {p : Nat → Parsed} {d : List UInt8} {k : Nat} {H : PHead} {j E : Nat} {l : List (List UInt8)} (h : StepP p d k H j E true l) (hm : H.ok = true → H.many ≤ 32) (hj : j < H.many) (hy : (p E).2.2 = true) (hE : E < (p E).2.1 ∧ (p E).2.1 ≤ d.length) :
    StepP p d k H (j + 1) (p E).2.1 true (l ++ [cutL d E (p E).2.1]) := by
  obtain ⟨h1, h2, h3, h4, h5⟩ := h.yes rfl
  refine ⟨by omega, ?_, fun _ => ⟨h1, by omega, hE.2, by simp; omega, ?_⟩, fun e => (by cases e)⟩
  · have := hm h1
    simp only [List.length_append, List.length_cons, List.length_nil]
    omega
  · rw [h5, show H.many - j = (H.many - (j + 1)) + 1 by omega]
    rw [manyP_yes hy]
    simp
theorem StepP.fail {p : Nat → Parsed} {d : List UInt8} {k : Nat} {H : PHead} {j E : Nat} {l : List (List UInt8)} (h : StepP p d k H j E false l) (K : Int) : restP p d k K H = (noRNode, k, false) := by
  unfold restP
  rw [if_neg]
  rintro ⟨h1, h2, _⟩
  rcases h.no rfl with h3 | h3
  · rw [h1] at h3; cases h3
  · rw [h2] at h3; cases h3
end Go.Proofs.Ytbhekicoohcaeaa

namespace Go.Proofs.Ytbhekicoohcaeaa
open Go.RowKit

/-- A slice of texts in a row of its own, made since. -/
def TextsO (base : Nat) (w : World) (v : Value) (l : List ByteArray) : Prop := TextsAt w v l ∧ ∃ B, base ≤ B ∧ w.ownsRow B 9 1 v l.length (strs l)
theorem TextsO.nil (base : Nat) (w : World) : TextsO base w (.slice none 0 0) [] := ⟨TextsAt.nil w, base, Nat.le_refl _, World.ownsRow_nil _ _ _ _⟩

end Go.Proofs.Ytbhekicoohcaeaa

namespace Go.Proofs.Ytbhekicoohcaeaa
open Go.RowKit

def insL (x : List UInt8) : List (List UInt8) → List (List UInt8)
  | [] => [x]
  | y :: r => if lessL x y = true then x :: y :: r else y :: insL x r
abbrev nodeOf (s : List UInt8) : RNode := (parseN (s.length + 1) s 0).1
def refExpL (s x : List UInt8) : List UInt8 := if kindL s = 5 ∧ kindL x = 2 ∧ (nodeOf s).args.length < 8 then refShareL (nodeOf s).s (insL x (nodeOf s).args) else []

structure InsSt (x : List UInt8) (l : List (List UInt8)) (i : Nat) (b : Bool) (D : List (List UInt8)) : Prop where
  le : i ≤ l.length
  no : b = false → D = l.take i ∧ insL x l = l.take i ++ insL x (l.drop i)
  yes : b = true → insL x l = D ++ l.drop i
  few : D.length ≤ i + 1
theorem InsSt.before {x : List UInt8} {l : List (List UInt8)} {i : Nat} {D : List (List UInt8)} (h : InsSt x l i false D) (hi : i < l.length) (hl : lessL x l[i] = true) : InsSt x l (i + 1) true (D ++ [x] ++ [l[i]]) := by
  obtain ⟨h1, h2⟩ := h.no rfl
  refine ⟨by omega, fun e => (by cases e), fun _ => ?_, ?_⟩
  · rw [h2, List.drop_eq_getElem_cons hi, insL, if_pos hl, h1]; simp
  · have : D.length = i := by rw [h1, List.length_take]; omega
    simp; omega
theorem InsSt.behind {x : List UInt8} {l : List (List UInt8)} {i : Nat} {D : List (List UInt8)} (h : InsSt x l i false D) (hi : i < l.length) (hl : lessL x l[i] = false) : InsSt x l (i + 1) false (D ++ [l[i]]) := by
  obtain ⟨h1, h2⟩ := h.no rfl
  refine ⟨by omega, fun _ => ⟨?_, ?_⟩, fun e => (by cases e), ?_⟩
  · rw [h1, List.take_succ_eq_append_getElem hi]
  · rw [h2, List.drop_eq_getElem_cons hi, insL, if_neg (by rw [hl]; simp), List.take_succ_eq_append_getElem hi, List.append_assoc]; rfl
  · have := h.few
    simp; omega
theorem InsSt.last {x : List UInt8} {l : List (List UInt8)} {D : List (List UInt8)} (h : InsSt x l l.length false D) : D ++ [x] = insL x l := by
  obtain ⟨h1, h2⟩ := h.no rfl
  rw [h2, h1]
  simp [insL]
theorem InsSt.end {x : List UInt8} {l : List (List UInt8)} {D : List (List UInt8)} (h : InsSt x l l.length true D) : D = insL x l := by
  rw [h.yes rfl]; simp
end Go.Proofs.Ytbhekicoohcaeaa
