/- The contract of View. -/
import Derived.Test.YtemhifeddejkjaaExp
import Derived.Test.YtemhifeddejkjaaUnpack
import Derived.BigRegion
import Derived.Laws.NewBlocks
import Derived.Laws.Slices
import Derived.Deep.RegionHeld3
import Derived.Laws.ResultCell
namespace Go.Proofs.Ytemhifeddejkjaa
open Go.RowKit

def nodeV (sh : Shp) (v : Value) : Value := .agg #[.int .i64 sh.kind, .int .i64 sh.a, .int .i64 sh.b, .string sh.s, v]
def noNode : Value := .agg #[.int .i64 0, .int .i64 0, .int .i64 0, .string ⟨#[]⟩, .slice none 0 0]

theorem run_cell_tmp {P : Program} {fn : Func} {p u : Tmp} {ty : TypeId} (h : fn.results = #[.cell p ty, .tmp u]) (tmps : Array Value) (w : World) (g : Nat) (cs : Array Value) (v : Value) (d : TypeDesc)
    (hp : tmps.getD p undef = .pointer (some ⟨g, 0, none⟩)) (hv : tmps.getD u undef = v) (hg : Holds w g ty cs)
    (hu : P.underlying ty = some d) (hd : (match d with | .struct _ | .array _ _ => true | _ => false) = true) (hi : (P.info? ty).map (·.size) = some cs.size) :
    (results fn tmps).run P w = .ok (.tuple #[.agg cs, v]) w := by
  rw [results_cell_tmp h, hp, hv]
  simp [asAddr, run_loadVar_row w g ty ty cs (0, 0) d hg hu hd hi]

set_option maxHeartbeats 1000000 in
set_option maxRecDepth 100000 in
theorem View_some {B A : Nat} {L : List Ent} {F : Nat → Prop} {w : World} (ha : ArenaAt B A L F w) {n : Nat} {e : Ent} (he : L[n]? = some e) :
    Calls Try.prog 18 #[.pointer (some ⟨A, 0, none⟩), .int .i64 n] w fun r w' => ∃ g, r = .returned (.tuple #[nodeV e.sh (.slice (some ⟨g, 0, none⟩) e.sh.args.length e.sh.args.length), .bool true]) ∧
      w'.ownsRow w.heap.size 33 1 (.slice (some ⟨g, 0, none⟩) e.sh.args.length e.sh.args.length) e.sh.args.length (ints e.sh.args) ∧ Below w.heap.size w w' := by
  obtain ⟨ao, cap, mb, c0, _, hlen, hcells⟩ := ha.read
  obtain ⟨g, rfl, hcx⟩ := hcells n e he
  have hn := (List.getElem?_eq_some_iff.1 he).1
  have hok := ha.wf.ok n e he
  have x0 : w.cell? ⟨g, n * 6, none⟩ = _ := hcx 0 _ rfl
  have x1 : w.cell? ⟨g, n * 6 + 1, none⟩ = _ := hcx 1 _ rfl
  have x2 : w.cell? ⟨g, n * 6 + 2, none⟩ = _ := hcx 2 _ rfl
  have x3 : w.cell? ⟨g, n * 6 + 3, none⟩ = _ := hcx 3 _ rfl
  have x4 : w.cell? ⟨g, n * 6 + 4, none⟩ = _ := hcx 4 _ rfl
  have x5 : w.cell? ⟨g, n * 6 + 5, none⟩ = _ := hcx 5 _ rfl
  have hgl := World.block_lt_of_cell? w _ x0
  have hAl := World.block_lt_of_cell? w _ c0
  simp only at hgl hAl
  obtain ⟨⟨kE, aE, bE, sE, gE⟩, zE⟩ := e
  unfold nodeV
  simp only at x0 x1 x2 x3 x4 x5 ⊢
  have hargs := hok.args
  have hmany := hok.many
  simp only at hargs hmany
  have hup := fun W => unpack_any gE W hmany fun t ht => by have := hargs t ht; omega
  have hb0 : ArenaAt B A L F (w.alloc (.cells #[.int .i64 0, .int .i64 0, .int .i64 0, .string ⟨#[]⟩, .slice none 0 0] 52)) := ha.below ((Below.refl _ _).alloc (Nat.le_refl _) _)
  clear hcells hcx he hok hargs hmany
  go_enter Try.func18, Try.ntmps18
  go_wp2_with (go_at_call 27; refine (has_yes hb0 _ hn).mono ?_; rintro r w' ⟨rfl, rfl⟩)
  have hN0 : Holds ((w.alloc (.cells #[.int .i64 0, .int .i64 0, .int .i64 0, .string ⟨#[]⟩, .slice none 0 0] 52)).alloc (.cells #[.int .i64 kE, .int .i64 aE, .int .i64 bE, .string sE, .string (packB gE), .int .i64 zE] 71)) w.heap.size 52 #[.int .i64 0, .int .i64 0, .int .i64 0, .string ⟨#[]⟩, .slice none 0 0] := (Holds.new w _ _).moves (S := nobody) ((Moves.refl _ _).alloc _) fun h => h
  have hE0 : Holds ((w.alloc (.cells #[.int .i64 0, .int .i64 0, .int .i64 0, .string ⟨#[]⟩, .slice none 0 0] 52)).alloc (.cells #[.int .i64 kE, .int .i64 aE, .int .i64 bE, .string sE, .string (packB gE), .int .i64 zE] 71)) (w.heap.size + 1) 71 #[.int .i64 kE, .int .i64 aE, .int .i64 bE, .string sE, .string (packB gE), .int .i64 zE] := by
    have := Holds.new (w.alloc (.cells #[.int .i64 0, .int .i64 0, .int .i64 0, .string ⟨#[]⟩, .slice none 0 0] 52)) 71 #[.int .i64 kE, .int .i64 aE, .int .i64 bE, .string sE, .string (packB gE), .int .i64 zE]
    rw [World.size_alloc] at this
    exact this
  have hbel : Below w.heap.size w ((w.alloc (.cells #[.int .i64 0, .int .i64 0, .int .i64 0, .string ⟨#[]⟩, .slice none 0 0] 52)).alloc (.cells #[.int .i64 kE, .int .i64 aE, .int .i64 bE, .string sE, .string (packB gE), .int .i64 zE] 71)) := (((Below.refl _ _).alloc (Nat.le_refl _) _).alloc (by simp) _)
  clear x0 x1 x2 x3 x4 x5 c0 hb0
  generalize ((w.alloc (.cells #[.int .i64 0, .int .i64 0, .int .i64 0, .string ⟨#[]⟩, .slice none 0 0] 52)).alloc (.cells #[.int .i64 kE, .int .i64 aE, .int .i64 bE, .string sE, .string (packB gE), .int .i64 zE] 71)) = W0 at *
  generalize hzz : w.heap.size = N at *
  have HZ := Lib.hid hzz
  clear hzz
  have y0 : W0.drew.cell? ⟨N + 1, 0, none⟩ = some (.int .i64 kE) := hE0.cell 0
  have y1 : W0.drew.cell? ⟨N + 1, 1, none⟩ = some (.int .i64 aE) := hE0.cell 1
  have y2 : W0.drew.cell? ⟨N + 1, 2, none⟩ = some (.int .i64 bE) := hE0.cell 2
  have y3 : W0.drew.cell? ⟨N + 1, 3, none⟩ = some (.string sE) := hE0.cell 3
  have y4 : W0.drew.cell? ⟨N + 1, 4, none⟩ = some (.string (packB gE)) := hE0.cell 4
  have hN1 : Holds W0.drew N 52 #[.int .i64 0, .int .i64 0, .int .i64 0, .string ⟨#[]⟩, .slice none 0 0] := hN0
  have hb1 : Below N w W0.drew := hbel.drew
  have hNl : N + 1 < W0.drew.heap.size := hE0.lt
  clear hN0 hE0 hbel
  go_region_held3 (fun w' => w'.cell? ⟨N + 1, 0, none⟩ = some (.int .i64 kE) ∧ w'.cell? ⟨N + 1, 1, none⟩ = some (.int .i64 aE) ∧ w'.cell? ⟨N + 1, 2, none⟩ = some (.int .i64 bE) ∧ w'.cell? ⟨N + 1, 3, none⟩ = some (.string sE) ∧ w'.cell? ⟨N + 1, 4, none⟩ = some (.string (packB gE)))
    (first | with_reducible exact ⟨y0, y1, y2, y3, y4⟩ | with_reducible exact ⟨z0, z1, z2, z3, z4⟩ | go_keep)
    ((go_at_call 30
      refine (hup _).mono ?_
      rintro r w1 ⟨rfl, hown, hbu⟩
      have z0 := (hbu.cell (p := ⟨N + 1, 0, none⟩) hNl).trans y0
      have z1 := (hbu.cell (p := ⟨N + 1, 1, none⟩) hNl).trans y1
      have z2 := (hbu.cell (p := ⟨N + 1, 2, none⟩) hNl).trans y2
      have z3 := (hbu.cell (p := ⟨N + 1, 3, none⟩) hNl).trans y3
      have z4 := (hbu.cell (p := ⟨N + 1, 4, none⟩) hNl).trans y4
      have hN2 := (hbu.block N (by omega)).trans hN1
      have n0 := Holds.cell hN2 0
      have n1 := Holds.cell hN2 1
      have n2 := Holds.cell hN2 2
      have n3 := Holds.cell hN2 3
      have n4 := Holds.cell hN2 4
      have f0 := Holds.frozen hN2 0
      have f1 := Holds.frozen hN2 1
      have f2 := Holds.frozen hN2 2
      have f3 := Holds.frozen hN2 3
      have f4 := Holds.frozen hN2 4))
  all_goals
    go_wp2_with fail
    have hNf := Holds.set (Holds.set (Holds.set (Holds.set (Holds.set hN2 0 (.int .i64 kE)) 1 (.int .i64 aE)) 2 (.int .i64 bE)) 3 (.string sE)) 4 (.slice (some ⟨W0.heap.size, 0, none⟩) gE.length gE.length)
    have hNW : N < W0.heap.size := by have := hNl; show N < W0.drew.heap.size; omega
    have hof := ownsRow_setCell_below (ownsRow_setCell_below (ownsRow_setCell_below (ownsRow_setCell_below (ownsRow_setCell_below hown (a := ⟨N, 0, none⟩) hNW (.int .i64 kE)) (a := ⟨N, 1, none⟩) hNW (.int .i64 aE)) (a := ⟨N, 2, none⟩) hNW (.int .i64 bE)) (a := ⟨N, 3, none⟩) hNW (.string sE)) (a := ⟨N, 4, none⟩) hNW (.slice (some ⟨W0.heap.size, 0, none⟩) gE.length gE.length)
    have hbf : Below N w _ := ((((((hb1.trans (hbu.mono (show N ≤ W0.drew.heap.size by omega))).setCell (p := ⟨N, 0, none⟩) (Nat.le_refl _) (.int .i64 kE)).setCell (p := ⟨N, 1, none⟩) (Nat.le_refl _) (.int .i64 aE)).setCell (p := ⟨N, 2, none⟩) (Nat.le_refl _) (.int .i64 bE)).setCell (p := ⟨N, 3, none⟩) (Nat.le_refl _) (.string sE)).setCell (p := ⟨N, 4, none⟩) (Nat.le_refl _) (.slice (some ⟨W0.heap.size, 0, none⟩) gE.length gE.length))
    refine bodyPost_ret (v := .tuple #[nodeV ⟨kE, aE, bE, sE, gE⟩ (.slice (some ⟨W0.heap.size, 0, none⟩) gE.length gE.length), .bool true]) ?_ rfl ⟨W0.heap.size, rfl, ?_, ?_⟩
    · exact run_cell_tmp rfl _ _ N _ _ _ rfl rfl hNf Try.underlying52 rfl (by kernel_rfl)
    · rw [HZ.out]
      exact owns_lower hof (show N ≤ W0.drew.heap.size by omega)
    · rw [HZ.out]
      exact hbf
end Go.Proofs.Ytemhifeddejkjaa
