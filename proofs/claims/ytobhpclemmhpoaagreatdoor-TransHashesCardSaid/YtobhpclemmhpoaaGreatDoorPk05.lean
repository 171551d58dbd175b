/- Part 5 of what the statement wants. -/
import Derived.Deep.RegionWith
import Derived.StillTailTactics
import Derived.Test.YtobhpclemmhpoaaGreatDoorPk04
namespace Go.Proofs.YtobhpclemmhpoaaGreatDoor
open Go.RowKit

theorem isNaN_any (x : Int) (w : World) : Calls Tryz.prog 103 #[.int .i64 x] w fun e w' => e = .returned (.bool false) ∧ w = w' := by
  have hd : (x != x) = false := by simp
  go_enter Tryz.func103, Tryz.ntmps103
  go_wp2
  go_ret
  exact ⟨rfl, rfl⟩
def cmpI (x y : Int) : Int := if x < y then -1 else if y < x then 1 else 0
theorem Compare_any (x y : Int) (w : World) : Calls Tryz.prog 87 #[.int .i64 x, .int .i64 y] w fun e w' => e = .returned (.int .i64 (cmpI x y)) ∧ w = w' := by
  have hI := isNaN_any
  unfold cmpI
  by_cases h : x < y
  · rw [if_pos h]
    go_enter Tryz.func87, Tryz.ntmps87
    go_wp2_with (go_at_call 103; refine (isNaN_any _ _).mono ?_; rintro e w' ⟨rfl, rfl⟩)
    go_ret
    exact ⟨rfl, rfl⟩
  · rw [if_neg h]
    by_cases h2 : y < x
    · rw [if_pos h2]
      go_enter Tryz.func87, Tryz.ntmps87
      go_wp2_with (go_at_call 103; refine (isNaN_any _ _).mono ?_; rintro e w' ⟨rfl, rfl⟩)
      go_ret
      exact ⟨rfl, rfl⟩
    · rw [if_neg h2]
      go_enter Tryz.func87, Tryz.ntmps87
      go_wp2_with (go_at_call 103; refine (isNaN_any _ _).mono ?_; rintro e w' ⟨rfl, rfl⟩)
      go_ret
      exact ⟨rfl, rfl⟩

def orI (x y : Int) : Int := if x = 0 then y else x
/-- cmp.Or of two. -/
theorem Or_two (g : Nat) (x y : Int) (w : World) (h0 : w.cell? ⟨g, 0, none⟩ = some (.int .i64 x)) (h1 : w.cell? ⟨g, 1, none⟩ = some (.int .i64 y)) :
    Calls Tryz.prog 86 #[.slice (some ⟨g, 0, none⟩) 2 2] w fun e w' => e = .returned (.int .i64 (orI x y)) ∧ w = w' := by
  by_cases hx : x = 0
  · subst hx
    have hr : Hid (orI 0 y = y) := if_pos rfl
    by_cases hy : y = 0
    · subst hy
      go_enter Tryz.func86, Tryz.ntmps86
      go_wp2
      refine wp_loop_rounds 3 ?_
      rw [rounds_succ]
      go_wp2
      rw [rounds_succ]
      go_wp2
      rw [rounds_succ]
      go_wp2
      go_ret
      exact ⟨by rw [hr.out]; rfl, rfl⟩
    · have hyb : (y != 0) = true := by simpa using hy
      go_enter Tryz.func86, Tryz.ntmps86
      go_wp2
      refine wp_loop_rounds 2 ?_
      rw [rounds_succ]
      go_wp2
      rw [rounds_succ]
      go_wp2
      go_ret
      exact ⟨by rw [hr.out]; rfl, rfl⟩
  · have hr : Hid (orI x y = x) := if_neg hx
    have hxb : (x != 0) = true := by simpa using hx
    go_enter Tryz.func86, Tryz.ntmps86
    go_wp2
    refine wp_loop_rounds 1 ?_
    rw [rounds_succ]
    go_wp2
    go_ret
    exact ⟨by rw [hr.out]; rfl, rfl⟩

/-- What compareNonces answers. -/
def cmpN (x y : Shp) : Int := orI (cmpI x.a y.a) (cmpI x.b y.b)

set_option maxHeartbeats 1000000 in
set_option maxRecDepth 100000 in
theorem cmpN_any {B A : Nat} {L : List Ent} {F : Nat → Prop} {w : World} (h : ArenaAt B A L F w) {i j : Nat} {x y : Ent} (hx : L[i]? = some x) (hy : L[j]? = some y) :
    Calls Tryz.prog 73 #[.pointer (some ⟨A, 0, none⟩), .int .i64 i, .int .i64 j] w fun e w' => e = .returned (.int .i64 (cmpN x.sh y.sh)) ∧ Below w.heap.size w w' := by
  obtain ⟨ao, cap, mb, c0, _, hlen, hcells⟩ := h.read
  obtain ⟨g, rfl, hcx⟩ := hcells i x hx
  obtain ⟨g', hg', hcy⟩ := hcells j y hy
  injection hg' with hg'
  injection hg' with hg'
  subst hg'
  have x0 : w.cell? ⟨g, i * 6, none⟩ = _ := hcx 0 _ rfl
  have x1 : w.cell? ⟨g, i * 6 + 1, none⟩ = _ := hcx 1 _ rfl
  have x2 : w.cell? ⟨g, i * 6 + 2, none⟩ = _ := hcx 2 _ rfl
  have x3 : w.cell? ⟨g, i * 6 + 3, none⟩ = _ := hcx 3 _ rfl
  have x4 : w.cell? ⟨g, i * 6 + 4, none⟩ = _ := hcx 4 _ rfl
  have x5 : w.cell? ⟨g, i * 6 + 5, none⟩ = _ := hcx 5 _ rfl
  have y0 : w.cell? ⟨g, j * 6, none⟩ = _ := hcy 0 _ rfl
  have y1 : w.cell? ⟨g, j * 6 + 1, none⟩ = _ := hcy 1 _ rfl
  have y2 : w.cell? ⟨g, j * 6 + 2, none⟩ = _ := hcy 2 _ rfl
  have y3 : w.cell? ⟨g, j * 6 + 3, none⟩ = _ := hcy 3 _ rfl
  have y4 : w.cell? ⟨g, j * 6 + 4, none⟩ = _ := hcy 4 _ rfl
  have y5 : w.cell? ⟨g, j * 6 + 5, none⟩ = _ := hcy 5 _ rfl
  have hil := (List.getElem?_eq_some_iff.1 hx).1
  have hjl := (List.getElem?_eq_some_iff.1 hy).1
  have hgl := World.block_lt_of_cell? w _ x0
  have hAl := World.block_lt_of_cell? w _ c0
  simp only at hgl hAl
  obtain ⟨⟨kx, ax, bx, sx, gx⟩, zx⟩ := x
  obtain ⟨⟨ky, ay, by_, sy, gy⟩, zy⟩ := y
  simp only at x0 x1 x2 x3 x4 x5 y0 y1 y2 y3 y4 y5
  clear hcells hcx hcy hx hy h
  go_enter Tryz.func73, Tryz.ntmps73
  go_wp2_with fail
  go_region
  · have hU : Holds (((w.alloc (.cells #[.int .i64 kx, .int .i64 ax, .int .i64 bx, .string sx, .string (packB gx), .int .i64 zx] 90)).alloc (.cells #[.int .i64 ky, .int .i64 ay, .int .i64 by_, .string sy, .string (packB gy), .int .i64 zy] 90)).drew) w.heap.size 90 #[.int .i64 kx, .int .i64 ax, .int .i64 bx, .string sx, .string (packB gx), .int .i64 zx] := (Holds.new w _ _).moves (S := nobody) (((Moves.refl _ _).alloc _).drew) fun h => h
    have hV : Holds (((w.alloc (.cells #[.int .i64 kx, .int .i64 ax, .int .i64 bx, .string sx, .string (packB gx), .int .i64 zx] 90)).alloc (.cells #[.int .i64 ky, .int .i64 ay, .int .i64 by_, .string sy, .string (packB gy), .int .i64 zy] 90)).drew) (w.heap.size + 1) 90 #[.int .i64 ky, .int .i64 ay, .int .i64 by_, .string sy, .string (packB gy), .int .i64 zy] := by
      have := Holds.new (w.alloc (.cells #[.int .i64 kx, .int .i64 ax, .int .i64 bx, .string sx, .string (packB gx), .int .i64 zx] 90)) 90 #[.int .i64 ky, .int .i64 ay, .int .i64 by_, .string sy, .string (packB gy), .int .i64 zy]
      rw [World.size_alloc] at this
      exact this
    have hbel : Below w.heap.size w (((w.alloc (.cells #[.int .i64 kx, .int .i64 ax, .int .i64 bx, .string sx, .string (packB gx), .int .i64 zx] 90)).alloc (.cells #[.int .i64 ky, .int .i64 ay, .int .i64 by_, .string sy, .string (packB gy), .int .i64 zy] 90)).drew) := (((Below.refl _ _).alloc (Nat.le_refl _) _).alloc (by simp) _).drew
    generalize ((w.alloc (.cells #[.int .i64 kx, .int .i64 ax, .int .i64 bx, .string sx, .string (packB gx), .int .i64 zx] 90)).alloc (.cells #[.int .i64 ky, .int .i64 ay, .int .i64 by_, .string sy, .string (packB gy), .int .i64 zy] 90)).drew = W at *
    generalize hzz : w.heap.size = Z at *
    have HZ := Lib.hid hzz
    clear hzz
    have u1 : W.drew.cell? ⟨Z, 1, none⟩ = some (.int .i64 ax) := hU.cell 1
    have u2 : W.drew.cell? ⟨Z, 2, none⟩ = some (.int .i64 bx) := hU.cell 2
    have v1 : W.drew.cell? ⟨Z + 1, 1, none⟩ = some (.int .i64 ay) := hV.cell 1
    have v2 : W.drew.cell? ⟨Z + 1, 2, none⟩ = some (.int .i64 by_) := hV.cell 2
    have hb2 : Below Z w W.drew := hbel.drew
    have hz2 : Z ≤ W.drew.heap.size := by have := hb2.size; rw [HZ.out] at this; exact this
    go_wp2_with fail
    refine wp_region_still_tail 14 (by kernel_rfl) (by kernel_rfl) ?_
    simp only [List.take_succ_cons, List.take_zero, List.drop_succ_cons, List.drop_zero]
    change wpStill _ _ W.drew _ _ _
    repeat (first | still_step | still_call ((Compare_any _ _ _).mono fun _ _ ⟨h1, h2⟩ => ⟨h1, h2.symm⟩))
    refine wpStill_nil ?_
    change wpList _ _ _ _ _ W.drew
    have hor := Or_two W.drew.heap.size (cmpI ax ay) (cmpI bx by_) (W.drew.alloc (.cells #[.int .i64 (cmpI ax ay), .int .i64 (cmpI bx by_)] 3)) ((Holds.new W.drew _ _).cell 0) ((Holds.new W.drew _ _).cell 1)
    clear u1 u2 v1 v2 hU hV x0 x1 x2 x3 x4 x5 y0 y1 y2 y3 y4 y5 c0
    generalize W.drew = W2 at *
    go_wp2_with (go_at_call 86; refine hor.mono ?_; rintro e w' ⟨rfl, rfl⟩)
    go_ret
    exact ⟨rfl, by rw [HZ.out]; exact hb2.alloc hz2 _⟩
  · have hU : Holds (((w.alloc (.cells #[.int .i64 ky, .int .i64 ay, .int .i64 by_, .string sy, .string (packB gy), .int .i64 zy] 90)).alloc (.cells #[.int .i64 kx, .int .i64 ax, .int .i64 bx, .string sx, .string (packB gx), .int .i64 zx] 90)).drew) w.heap.size 90 #[.int .i64 ky, .int .i64 ay, .int .i64 by_, .string sy, .string (packB gy), .int .i64 zy] := (Holds.new w _ _).moves (S := nobody) (((Moves.refl _ _).alloc _).drew) fun h => h
    have hV : Holds (((w.alloc (.cells #[.int .i64 ky, .int .i64 ay, .int .i64 by_, .string sy, .string (packB gy), .int .i64 zy] 90)).alloc (.cells #[.int .i64 kx, .int .i64 ax, .int .i64 bx, .string sx, .string (packB gx), .int .i64 zx] 90)).drew) (w.heap.size + 1) 90 #[.int .i64 kx, .int .i64 ax, .int .i64 bx, .string sx, .string (packB gx), .int .i64 zx] := by
      have := Holds.new (w.alloc (.cells #[.int .i64 ky, .int .i64 ay, .int .i64 by_, .string sy, .string (packB gy), .int .i64 zy] 90)) 90 #[.int .i64 kx, .int .i64 ax, .int .i64 bx, .string sx, .string (packB gx), .int .i64 zx]
      rw [World.size_alloc] at this
      exact this
    have hbel : Below w.heap.size w (((w.alloc (.cells #[.int .i64 ky, .int .i64 ay, .int .i64 by_, .string sy, .string (packB gy), .int .i64 zy] 90)).alloc (.cells #[.int .i64 kx, .int .i64 ax, .int .i64 bx, .string sx, .string (packB gx), .int .i64 zx] 90)).drew) := (((Below.refl _ _).alloc (Nat.le_refl _) _).alloc (by simp) _).drew
    generalize ((w.alloc (.cells #[.int .i64 ky, .int .i64 ay, .int .i64 by_, .string sy, .string (packB gy), .int .i64 zy] 90)).alloc (.cells #[.int .i64 kx, .int .i64 ax, .int .i64 bx, .string sx, .string (packB gx), .int .i64 zx] 90)).drew = W at *
    generalize hzz : w.heap.size = Z at *
    have HZ := Lib.hid hzz
    clear hzz
    have u1 : W.drew.cell? ⟨Z + 1, 1, none⟩ = some (.int .i64 ax) := hV.cell 1
    have u2 : W.drew.cell? ⟨Z + 1, 2, none⟩ = some (.int .i64 bx) := hV.cell 2
    have v1 : W.drew.cell? ⟨Z, 1, none⟩ = some (.int .i64 ay) := hU.cell 1
    have v2 : W.drew.cell? ⟨Z, 2, none⟩ = some (.int .i64 by_) := hU.cell 2
    have hb2 : Below Z w W.drew := hbel.drew
    have hz2 : Z ≤ W.drew.heap.size := by have := hb2.size; rw [HZ.out] at this; exact this
    go_wp2_with fail
    refine wp_region_still_tail 14 (by kernel_rfl) (by kernel_rfl) ?_
    simp only [List.take_succ_cons, List.take_zero, List.drop_succ_cons, List.drop_zero]
    change wpStill _ _ W.drew _ _ _
    repeat (first | still_step | still_call ((Compare_any _ _ _).mono fun _ _ ⟨h1, h2⟩ => ⟨h1, h2.symm⟩))
    refine wpStill_nil ?_
    change wpList _ _ _ _ _ W.drew
    have hor := Or_two W.drew.heap.size (cmpI ax ay) (cmpI bx by_) (W.drew.alloc (.cells #[.int .i64 (cmpI ax ay), .int .i64 (cmpI bx by_)] 3)) ((Holds.new W.drew _ _).cell 0) ((Holds.new W.drew _ _).cell 1)
    clear u1 u2 v1 v2 hU hV x0 x1 x2 x3 x4 x5 y0 y1 y2 y3 y4 y5 c0
    generalize W.drew = W2 at *
    go_wp2_with (go_at_call 86; refine hor.mono ?_; rintro e w' ⟨rfl, rfl⟩)
    go_ret
    exact ⟨rfl, by rw [HZ.out]; exact hb2.alloc hz2 _⟩
end Go.Proofs.YtobhpclemmhpoaaGreatDoor

namespace Go.Proofs.YtobhpclemmhpoaaGreatDoor
open Go.RowKit

def ltI (L : List Ent) (i j : Nat) : Bool := match L[i]?, L[j]? with
  | some x, some y => decide (cmpN x.sh y.sh < 0)
  | _, _ => false
def ints (d : List Nat) : List Value := d.map fun t => .int .i64 (t : Nat)
theorem ints_get (d : List Nat) (i : Nat) : (ints d)[i]? = d[i]?.map fun t => Value.int .i64 (t : Nat) := by simp [ints]
/-- A row of the call's own: its cells, and that none is frozen. -/
theorem owns_cell {w : World} {B g n cap : Nat} {e : TypeId} {d : List Nat} (h : w.ownsRow B e 1 (.slice (some ⟨g, 0, none⟩) n cap) n (ints d)) {i : Nat} {t : Nat} (hi : d[i]? = some t) :
    w.cell? ⟨g, i, none⟩ = some (.int .i64 (t : Nat)) ∧ w.frozen? ⟨g, i, none⟩ = false := by
  have hc := h.cells (g := g) rfl i (.int .i64 (t : Nat)) (by rw [ints_get, hi]; rfl)
  rw [Addr.add_lit, Nat.zero_add] at hc
  refine ⟨hc, ?_⟩
  rcases h.2 with ⟨h, _⟩ | ⟨g', cap', cur, hv, hb, hg, _⟩
  · cases h
  · injection hv with h1 h2 h3
    injection h1 with h1
    injection h1 with h1
    subst h1
    have hh : Holds w g e cur := hg
    exact hh.frozen i
theorem owns_set {w : World} {B g n cap : Nat} {e : TypeId} {d : List Nat} (h : w.ownsRow B e 1 (.slice (some ⟨g, 0, none⟩) n cap) n (ints d)) (i t : Nat) :
    (w.setCell ⟨g, i, none⟩ (.int .i64 (t : Nat))).ownsRow B e 1 (.slice (some ⟨g, 0, none⟩) n cap) n (ints (d.set i t)) := by
  obtain ⟨hl, h⟩ := h
  refine ⟨by simpa [ints] using hl, ?_⟩
  rcases h with ⟨h, _⟩ | ⟨g', cap', cur, hv, hb, hg, hnc, hcm, hcs, ht⟩
  · cases h
  · injection hv with h1 h2 h3
    injection h1 with h1
    injection h1 with h1
    subst h1
    subst h3
    refine .inr ⟨g, cap, cur.setIfInBounds i (.int .i64 (t : Nat)), rfl, hb, ?_, hnc, hcm, by simpa using hcs, ?_⟩
    · simp [World.setCell, Array.getElem?_modify, hg]
    · simp only [Array.toList_setIfInBounds, Nat.mul_one] at ht ⊢
      rw [List.take_set, ht]
      simp [ints]

def cmpV (A : Nat) : Value := .func (.func 73) #[.pointer (some ⟨A, 0, none⟩)] #[]

def Sorted (L : List Ent) (d : List Nat) : Prop := d.Pairwise fun a b => ltI L b a = false

/-- What the insertion sort's outer loop knows. -/
def OutI (L : List Ent) (l d : List Nat) (k : Nat) : Prop := d.Perm l ∧ Sorted L (d.take k)
/-- What the inner loop knows: x at place m of the sorted p, above it only what x is before. -/
def InI (L : List Ent) (l d : List Nat) (k m : Nat) : Prop := ∃ p x rest, d = p.take m ++ x :: p.drop m ++ rest ∧ p.length = k ∧ Sorted L p ∧ (∀ y ∈ p.drop m, ltI L x y = true) ∧ d.Perm l ∧ m ≤ k

theorem InI_start {L : List Ent} {l d : List Nat} {k : Nat} (h : OutI L l d k) (hk : k < l.length) : InI L l d k k := by
  have hdl := h.1.length_eq
  refine ⟨d.take k, d[k]'(by omega), d.drop (k + 1), ?_, by rw [List.length_take]; omega, h.2, ?_, h.1, Nat.le_refl _⟩
  · rw [List.drop_of_length_le (by rw [List.length_take]; omega), List.take_of_length_le (by rw [List.length_take]; omega)]
    rw [List.append_assoc, List.singleton_append, List.getElem_cons_drop, List.take_append_drop]
  · rw [List.drop_of_length_le (by rw [List.length_take]; omega)]
    intro y hy
    simp at hy

theorem cmpN_neg (x y : Shp) : cmpN x y < 0 ↔ x.a < y.a ∨ (x.a = y.a ∧ x.b < y.b) := by
  unfold cmpN orI cmpI
  repeat' split
  all_goals omega
theorem ltI_iff {L : List Ent} {i j : Nat} (hi : i < L.length) (hj : j < L.length) : ltI L i j = true ↔ L[i].sh.a < L[j].sh.a ∨ (L[i].sh.a = L[j].sh.a ∧ L[i].sh.b < L[j].sh.b) := by
  unfold ltI
  rw [List.getElem?_eq_getElem hi, List.getElem?_eq_getElem hj]
  simp only [decide_eq_true_eq]
  exact cmpN_neg _ _
theorem ltI_false {L : List Ent} {i j : Nat} (hi : i < L.length) (hj : j < L.length) : ltI L i j = false ↔ ¬ (L[i].sh.a < L[j].sh.a ∨ (L[i].sh.a = L[j].sh.a ∧ L[i].sh.b < L[j].sh.b)) := by
  rw [← ltI_iff hi hj]
  simp

theorem InI_step {L : List Ent} {l d : List Nat} {k q x y : Nat} (h : InI L l d k (q + 1)) (hx : d[q + 1]? = some x) (hy : d[q]? = some y) (hlt : ltI L x y = true) : InI L l ((d.set (q + 1) y).set q x) k q := by
  obtain ⟨p, x', rest, hd, hp, hs, hxp, hperm, hm⟩ := h
  have hq : q < p.length := by omega
  have htake : p.take (q + 1) = p.take q ++ [p[q]] := List.take_succ_eq_append_getElem hq
  have hd' : d = p.take q ++ (p[q] :: x' :: (p.drop (q + 1) ++ rest)) := by rw [hd, htake]; simp only [List.append_assoc, List.nil_append, List.cons_append]
  have hlen : (p.take q).length = q := by rw [List.length_take]; omega
  have ey : y = p[q] := by
    rw [hd', List.getElem?_append_right (by omega), hlen] at hy
    simpa using hy.symm
  have ex : x = x' := by
    rw [hd', List.getElem?_append_right (by omega), hlen] at hx
    simp at hx
    exact hx.symm
  subst ex
  have hnew : (d.set (q + 1) y).set q x = p.take q ++ (x :: p[q] :: (p.drop (q + 1) ++ rest)) := by
    rw [hd', List.set_append_right (q + 1) y (by omega), List.set_append_right q x (by omega), hlen, ey]
    simp
  refine ⟨p, x, rest, ?_, hp, hs, ?_, ?_, by omega⟩
  · rw [hnew, List.drop_eq_getElem_cons hq]
    simp only [List.append_assoc, List.cons_append]
  · intro z hz
    rw [List.drop_eq_getElem_cons hq] at hz
    rcases List.mem_cons.1 hz with rfl | hz
    · rw [← ey]; exact hlt
    · exact hxp z hz
  · refine List.Perm.trans ?_ hperm
    rw [hnew, hd']
    exact (List.Perm.swap _ _ _).append_left _

theorem InI_end {L : List Ent} {l d : List Nat} {k m : Nat} (hl : ∀ t ∈ l, t < L.length) (h : InI L l d k m) (hlast : ∀ q x y, m = q + 1 → d[m]? = some x → d[q]? = some y → ltI L x y = false) : OutI L l d (k + 1) := by
  obtain ⟨p, x, rest, hd, hp, hs, hxp, hperm, hm⟩ := h
  have hall : ∀ t ∈ d, t < L.length := fun t ht => hl t (hperm.mem_iff.1 ht)
  have hmemp : ∀ t ∈ p, t < L.length := fun t ht => hall t (by
    rw [hd]
    rw [← List.take_append_drop m p] at ht
    rcases List.mem_append.1 ht with h | h <;> simp [h])
  have hx : x < L.length := hall x (by rw [hd]; simp)
  have hlenp : (p.take m ++ x :: p.drop m).length = k + 1 := by simp; omega
  have htk : d.take (k + 1) = p.take m ++ x :: p.drop m := by rw [hd, ← hlenp]; exact List.take_left
  refine ⟨hperm, ?_⟩
  rw [htk]
  have hs' : Sorted L (p.take m ++ p.drop m) := by rw [List.take_append_drop]; exact hs
  obtain ⟨s1, s2, s3⟩ := List.pairwise_append.1 hs'
  refine List.pairwise_append.2 ⟨s1, List.pairwise_cons.2 ⟨fun b hb => ?_, s2⟩, fun a ha b hb => ?_⟩
  · have hbl := hmemp b (List.mem_of_mem_drop hb)
    have := (ltI_iff hx hbl).1 (hxp b hb)
    rw [ltI_false hbl hx]
    omega
  · rcases List.mem_cons.1 hb with rfl | hb
    · have hal := hmemp a (List.mem_of_mem_take ha)
      obtain ⟨i, hi, hia⟩ := List.mem_iff_getElem.1 ha
      rw [List.length_take] at hi
      obtain ⟨q, rfl⟩ : ∃ q, m = q + 1 := ⟨m - 1, by omega⟩
      have hq : q < p.length := by omega
      have hpl : p[q] < L.length := hmemp _ (List.getElem_mem hq)
      have hlen : (p.take (q + 1)).length = q + 1 := by rw [List.length_take]; omega
      have hlt := hlast q b p[q] rfl (by rw [hd, List.append_assoc, List.getElem?_append_right (by omega), hlen]; simp) (by
        rw [hd, List.append_assoc, List.getElem?_append_left (by omega), List.getElem?_take_of_lt (by omega), List.getElem?_eq_getElem hq])
      rw [List.getElem_take] at hia
      rw [ltI_false hx hpl] at hlt
      rw [ltI_false hx hal]
      by_cases hiq : i = q
      · subst hiq
        subst hia
        exact hlt
      · have := List.pairwise_iff_getElem.1 hs i q (by omega) hq (by omega)
        rw [hia] at this
        rw [ltI_false hpl hal] at this
        omega
    · exact s3 a ha b hb

set_option maxHeartbeats 1000000 in
set_option maxRecDepth 100000 in
theorem insSort_any {B A G cap : Nat} {L : List Ent} {F : Nat → Prop} {w : World} (ha : ArenaAt B A L F w) (hG : ¬ F G) {l : List Nat} (hl : ∀ t ∈ l, t < L.length) (hn : l.length ≤ 12)
    (hown : w.ownsRow B 36 1 (.slice (some ⟨G, 0, none⟩) l.length cap) l.length (ints l)) :
    Calls Tryz.prog 93 #[.slice (some ⟨G, 0, none⟩) l.length cap, .int .i64 0, .int .i64 l.length, cmpV A] w fun e w' => e = .returned (.tuple #[]) ∧
      ∃ d, d.Perm l ∧ Sorted L d ∧ w'.ownsRow B 36 1 (.slice (some ⟨G, 0, none⟩) l.length cap) l.length (ints d) ∧ Moves (fun k => k = G) w w' := by
  unfold cmpV
  go_enter Tryz.func93, Tryz.ntmps93
  go_wp2_with fail
  go_loopw [8] (fun i wr => ∃ (k : Nat) (d : List Nat), 1 ≤ k ∧ k ≤ max l.length 1 ∧ i = .int .i64 k ∧ OutI L l d k ∧ wr.ownsRow B 36 1 (.slice (some ⟨G, 0, none⟩) l.length cap) l.length (ints d) ∧ Moves (fun k => k = G) w wr) (fun i _ => l.length - (intOf i).toNat)
  case atStart => exact ⟨1, l, Nat.le_refl _, Nat.le_max_right _ _, rfl, ⟨List.Perm.refl _, by unfold Sorted; rcases l with _ | ⟨a, l⟩ <;> simp⟩, hown, Moves.refl _ _⟩
  case round =>
    clear hown
    obtain ⟨k, d, hk1, hk2, rfl, hout, hown, hm⟩ := hrel
    by_cases hlt : k < l.length
    · go_wp2_with fail
      obtain ⟨wo, rfl⟩ : ∃ wo : World, wo = wr := ⟨_, rfl⟩
      go_loopw [9] (fun j wr => ∃ (m : Nat) (d : List Nat), j = .int .i64 m ∧ InI L l d k m ∧ wr.ownsRow B 36 1 (.slice (some ⟨G, 0, none⟩) l.length cap) l.length (ints d) ∧ Moves (fun k => k = G) w wr) (fun j _ => (intOf j).toNat)
      case atStart => exact ⟨k, d, rfl, InI_start hout hlt, hown, hm⟩
      case round =>
        clear hown hm hout
        obtain ⟨m, d, rfl, hin, hown, hm⟩ := hrel
        have HIN := Lib.hid hin
        obtain ⟨p, x, rest, hd, hp, hsp, hxp, hperm, hmk⟩ := hin
        have hdl : d.length = l.length := hperm.length_eq
        clear hxp hsp
        by_cases hm0 : 0 < m
        · obtain ⟨q, rfl⟩ : ∃ q, m = q + 1 := ⟨m - 1, by omega⟩
          clear hm0
          obtain ⟨y, hy⟩ : ∃ y, d[q]? = some y := ⟨_, List.getElem?_eq_getElem (by omega)⟩
          obtain ⟨x', hx'⟩ : ∃ y, d[q + 1]? = some y := ⟨_, List.getElem?_eq_getElem (by omega)⟩
          have hxl : x' < L.length := hl x' (hperm.mem_iff.1 (List.mem_of_getElem? hx'))
          have hyl : y < L.length := hl y (hperm.mem_iff.1 (List.mem_of_getElem? hy))
          have ha2 : ArenaAt B A L F wr := ha.moves hm fun k hk h => hG (h ▸ hk)
          obtain ⟨c1, f1⟩ := owns_cell hown hx'
          obtain ⟨c0, f0⟩ := owns_cell hown hy
          have c0' : wr.drew.cell? ⟨G, q, none⟩ = some (.int .i64 (y : Nat)) := c0
          have c1' : wr.drew.cell? ⟨G, q + 1, none⟩ = some (.int .i64 (x' : Nat)) := c1
          have ha3 : ArenaAt B A L F wr.drew := ha2.moves (S := nobody) (Moves.refl _ _).drew fun _ _ h => h
          have hcmp := cmpN_any ha3 (List.getElem?_eq_getElem hxl) (List.getElem?_eq_getElem hyl)
          have HD := Lib.hid hd
          have HX := Lib.hid hx'
          have HY := Lib.hid hy
          have hp1 : p.length ≤ k := by omega
          have hml : q + 1 < l.length := by omega
          have HP := Lib.hid hp
          have HDL := Lib.hid hdl
          have w1 : IntKind.i64.wrap (q : Int) = (q : Int) := IntWalk.i64_in _ (by omega)
          have w2 : (q : Int) + 1 < (l.length : Int) := by omega
          have w3 : 0 ≤ (q : Int) + 1 := by omega
          have w4 : ((q : Int) + 1).toNat = q + 1 := by omega
          have w5 : (q : Int) < (l.length : Int) := by omega
          clear hd hp hdl hx' hy
          rw [show ((q + 1 : Nat) : Int) = (q : Int) + 1 from rfl]
          go_wp2_with fail
          refine wp_region_still_tail 14 (by kernel_rfl) (by kernel_rfl) ?_
          simp only [List.take_succ_cons, List.take_zero, List.drop_succ_cons, List.drop_zero]
          change wpStill _ _ wr.drew _ _ _
          repeat still_step
          refine wpStill_nil ?_
          change wpList _ _ _ _ _ wr.drew
          have hmd : Moves (fun k => k = G) w wr.drew := hm.drew
          have hownd := hown.drew
          clear c0 c1 f0 f1 ha2 ha3 hown hm c0' c1'
          generalize wr.drew = W1 at *
          by_cases hc : cmpN L[x'].sh L[y].sh < 0
          · have HC : Hid (ltI L x' y = true) := by unfold Hid; simp [ltI, hxl, hyl, hc]
            generalize cmpN L[x'].sh L[y].sh = c at *
            go_wp2_with (
              go_at_call 73
              refine hcmp.mono ?_
              rintro e W2 ⟨rfl, hb2⟩
              have hm2 : Moves (fun k => k = G) w W2 := hmd.trans (Moves.ofBelow (S := nobody) hb2) fun _ h => h.elim
              have hown2 := owns_moves hownd (Moves.ofBelow (S := nobody) hb2) fun _ _ h => h
              obtain ⟨c1, f1⟩ := owns_cell hown2 HX.out
              obtain ⟨c0, f0⟩ := owns_cell hown2 HY.out)
            go_region
            go_wp2_with fail
            go_roundw
            case rel => exact ⟨q, _, rfl, InI_step HIN.out HX.out HY.out HC.out, (owns_set (owns_set hown2 (q + 1) y) q x').drew, ((hm2.setCell (.inl rfl) _).setCell (.inl rfl) _).drew⟩
            case measure => simp [intOf]
          · have HC : Hid (ltI L x' y = false) := by unfold Hid; simp [ltI, hxl, hyl, hc]
            generalize cmpN L[x'].sh L[y].sh = c at *
            have hc' : decide (c < 0) = false := by simpa using hc
            go_wp2_with (
              go_at_call 73
              refine hcmp.mono ?_
              rintro e W2 ⟨rfl, hb2⟩
              have hm2 : Moves (fun k => k = G) w W2 := hmd.trans (Moves.ofBelow (S := nobody) hb2) fun _ h => h.elim
              have hown2 := owns_moves hownd (Moves.ofBelow (S := nobody) hb2) fun _ _ h => h)
            go_roundw
            case rel => exact ⟨k + 1, d, by omega, by omega, by go_num, InI_end hl HIN.out (fun q' a b h1 h2 h3 => by
              obtain rfl : q' = q := by omega
              rw [HX.out] at h2
              rw [HY.out] at h3
              cases h2
              cases h3
              exact HC.out), hown2, hm2⟩
            case measure => simp [intOf]; omega
        · obtain rfl : m = 0 := by omega
          have hd0 : decide ((0 : Int) < ((0 : Nat) : Int)) = false := rfl
          clear hd hdl hp hm0
          go_wp2_with fail
          go_quiet (fail)
          go_wp2_with fail
          go_roundw
          case rel => exact ⟨k + 1, d, by omega, by omega, by go_num, InI_end hl HIN.out (fun q' a b h1 => by omega), owns_moves hown ((Moves.refl nobody _).drewN _) fun _ _ h => h, hm.drewN _⟩
          case measure => simp [intOf]; omega
    · go_wp2_with fail
      go_end0
      have hdk : d.take k = d := List.take_of_length_le (by have := hout.1.length_eq; omega)
      exact ⟨rfl, d, hout.1, hdk ▸ hout.2, hown, hm⟩
end Go.Proofs.YtobhpclemmhpoaaGreatDoor

namespace Go.Proofs.YtobhpclemmhpoaaGreatDoor
open Go.RowKit

set_option maxRecDepth 1000000 in
theorem Len64_any (n : Int) (hn0 : 0 ≤ n) (hn : n ≤ 12) (w : World) : Calls Tryz.prog 102 #[.int .u64 n] w fun e w' => ∃ z : Int, e = .returned (.int .i64 z) ∧ w = w' := by
  go_enter Tryz.func102, Tryz.ntmps102
  generalize hlit : (ByteArray.mk (List.toArray (List.append (List.append _ _) (List.append _ _)))) = S
  have hsz : (S.size : Int) = 256 := by
    rw [← hlit]
    kernel_rfl
  clear hlit
  have h1 : n < 256 := by omega
  have h2 : n < 65536 := by omega
  have h3 : n < 4294967296 := by omega
  go_wp2_with fail
  go_ret
  exact ⟨_, rfl, rfl⟩
theorem bitsLen_any (n : Int) (hn0 : 0 ≤ n) (hn : n ≤ 12) (w : World) : Calls Tryz.prog 85 #[.int .u64 n] w fun e w' => ∃ z : Int, e = .returned (.int .i64 z) ∧ w = w' := by
  go_enter Tryz.func85, Tryz.ntmps85
  go_wp2_with (go_at_call 102; refine (Len64_any _ hn0 hn _).mono ?_; rintro e w' ⟨z, rfl, rfl⟩)
  go_ret
  exact ⟨_, rfl, rfl⟩

set_option maxHeartbeats 1000000 in
set_option maxRecDepth 100000 in
theorem pdq_any {B A G cap : Nat} {L : List Ent} {F : Nat → Prop} {w : World} (ha : ArenaAt B A L F w) (hG : ¬ F G) {l : List Nat} (hl : ∀ t ∈ l, t < L.length) (hn : l.length ≤ 12) (z : Int)
    (hown : w.ownsRow B 36 1 (.slice (some ⟨G, 0, none⟩) l.length cap) l.length (ints l)) :
    Calls Tryz.prog 84 #[.slice (some ⟨G, 0, none⟩) l.length cap, .int .i64 0, .int .i64 l.length, .int .i64 z, cmpV A] w fun e w' => e = .returned (.tuple #[]) ∧
      ∃ d, d.Perm l ∧ Sorted L d ∧ w'.ownsRow B 36 1 (.slice (some ⟨G, 0, none⟩) l.length cap) l.length (ints d) ∧ Moves (fun k => k = G) w w' := by
  have hs := insSort_any ha hG hl hn hown
  unfold cmpV at *
  clear hown
  go_enter Tryz.func84, Tryz.ntmps84
  go_wp2_with fail
  refine wp_loop_rounds 1 ?_
  rw [rounds_succ]
  go_wp2_with (go_at_call 93; refine hs.mono ?_; rintro e w' ⟨rfl, hq⟩)
  refine bodyPost_ret (v := .tuple #[]) (by simp [results, Tryz.results84, go_sem]) rfl ⟨rfl, hq⟩

set_option maxRecDepth 100000 in
theorem SortFunc_any {B A G cap : Nat} {L : List Ent} {F : Nat → Prop} {w : World} (ha : ArenaAt B A L F w) (hG : ¬ F G) {l : List Nat} (hl : ∀ t ∈ l, t < L.length) (hn : l.length ≤ 12)
    (hown : w.ownsRow B 36 1 (.slice (some ⟨G, 0, none⟩) l.length cap) l.length (ints l)) :
    Calls Tryz.prog 72 #[.slice (some ⟨G, 0, none⟩) l.length cap, cmpV A] w fun e w' => e = .returned (.tuple #[]) ∧
      ∃ d, d.Perm l ∧ Sorted L d ∧ w'.ownsRow B 36 1 (.slice (some ⟨G, 0, none⟩) l.length cap) l.length (ints d) ∧ Moves (fun k => k = G) w w' := by
  have hs := fun z => pdq_any ha hG hl hn z hown
  have hb := bitsLen_any (l.length : Int) (by omega) (by omega)
  unfold cmpV at *
  clear hown
  go_enter Tryz.func72, Tryz.ntmps72
  go_wp2_with (first
    | (go_at_call 85; refine (hb _).mono ?_; rintro e w' ⟨z, rfl, rfl⟩)
    | (go_at_call 84; refine (hs _).mono ?_; rintro e w' ⟨rfl, hq⟩))
  go_end0
  exact ⟨rfl, hq⟩
end Go.Proofs.YtobhpclemmhpoaaGreatDoor
