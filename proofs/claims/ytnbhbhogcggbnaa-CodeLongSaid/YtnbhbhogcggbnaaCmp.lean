/- The contract of compareNonces, and of what it calls in package cmp. -/
import Derived.Test.YtnbhbhogcggbnaaUnpack
import Derived.Deep.RegionWith
import Derived.StillTailTactics
namespace Go.Proofs.Ytnbhbhogcggbnaa
open Go.RowKit

theorem isNaN_any (x : Int) (w : World) : Calls Try.prog 100 #[.int .i64 x] w fun e w' => e = .returned (.bool false) ∧ w = w' := by
  have hd : (x != x) = false := by simp
  go_enter Try.func100, Try.ntmps100
  go_wp2
  go_ret
  exact ⟨rfl, rfl⟩
def cmpI (x y : Int) : Int := if x < y then -1 else if y < x then 1 else 0
theorem Compare_any (x y : Int) (w : World) : Calls Try.prog 75 #[.int .i64 x, .int .i64 y] w fun e w' => e = .returned (.int .i64 (cmpI x y)) ∧ w = w' := by
  have hI := isNaN_any
  unfold cmpI
  by_cases h : x < y
  · rw [if_pos h]
    go_enter Try.func75, Try.ntmps75
    go_wp2_with (go_at_call 100; refine (isNaN_any _ _).mono ?_; rintro e w' ⟨rfl, rfl⟩)
    go_ret
    exact ⟨rfl, rfl⟩
  · rw [if_neg h]
    by_cases h2 : y < x
    · rw [if_pos h2]
      go_enter Try.func75, Try.ntmps75
      go_wp2_with (go_at_call 100; refine (isNaN_any _ _).mono ?_; rintro e w' ⟨rfl, rfl⟩)
      go_ret
      exact ⟨rfl, rfl⟩
    · rw [if_neg h2]
      go_enter Try.func75, Try.ntmps75
      go_wp2_with (go_at_call 100; refine (isNaN_any _ _).mono ?_; rintro e w' ⟨rfl, rfl⟩)
      go_ret
      exact ⟨rfl, rfl⟩

def orI (x y : Int) : Int := if x = 0 then y else x
/-- cmp.Or of two. -/
theorem Or_two (g : Nat) (x y : Int) (w : World) (h0 : w.cell? ⟨g, 0, none⟩ = some (.int .i64 x)) (h1 : w.cell? ⟨g, 1, none⟩ = some (.int .i64 y)) :
    Calls Try.prog 74 #[.slice (some ⟨g, 0, none⟩) 2 2] w fun e w' => e = .returned (.int .i64 (orI x y)) ∧ w = w' := by
  by_cases hx : x = 0
  · subst hx
    have hr : Hid (orI 0 y = y) := if_pos rfl
    by_cases hy : y = 0
    · subst hy
      go_enter Try.func74, Try.ntmps74
      go_wp2
      refine wp_loop_rounds 3 ?_
      rw [rounds_succ]
      go_wp2
      rw [rounds_succ]
      go_wp2
      rw [rounds_succ]
      go_wp2
      go_ret
      exact ⟨by rw [hr.out]; rfl, rfl⟩
    · have hyb : (y != 0) = true := by simpa using hy
      go_enter Try.func74, Try.ntmps74
      go_wp2
      refine wp_loop_rounds 2 ?_
      rw [rounds_succ]
      go_wp2
      rw [rounds_succ]
      go_wp2
      go_ret
      exact ⟨by rw [hr.out]; rfl, rfl⟩
  · have hr : Hid (orI x y = x) := if_neg hx
    have hxb : (x != 0) = true := by simpa using hx
    go_enter Try.func74, Try.ntmps74
    go_wp2
    refine wp_loop_rounds 1 ?_
    rw [rounds_succ]
    go_wp2
    go_ret
    exact ⟨by rw [hr.out]; rfl, rfl⟩

/-- What compareNonces answers. -/
def cmpN (x y : Shp) : Int := orI (cmpI x.a y.a) (cmpI x.b y.b)

set_option maxHeartbeats 1000000 in
set_option maxRecDepth 100000 in
theorem cmpN_any {B A : Nat} {L : List Ent} {F : Nat → Prop} {w : World} (h : ArenaAt B A L F w) {i j : Nat} {x y : Ent} (hx : L[i]? = some x) (hy : L[j]? = some y) :
    Calls Try.prog 44 #[.pointer (some ⟨A, 0, none⟩), .int .i64 i, .int .i64 j] w fun e w' => e = .returned (.int .i64 (cmpN x.sh y.sh)) ∧ Below w.heap.size w w' := by
  obtain ⟨ao, cap, mb, c0, _, hlen, hcells⟩ := h.read
  obtain ⟨g, rfl, hcx⟩ := hcells i x hx
  obtain ⟨g', hg', hcy⟩ := hcells j y hy
  injection hg' with hg'
  injection hg' with hg'
  subst hg'
  have x0 : w.cell? ⟨g, i * 6, none⟩ = _ := hcx 0 _ rfl
  have x1 : w.cell? ⟨g, i * 6 + 1, none⟩ = _ := hcx 1 _ rfl
  have x2 : w.cell? ⟨g, i * 6 + 2, none⟩ = _ := hcx 2 _ rfl
  have x3 : w.cell? ⟨g, i * 6 + 3, none⟩ = _ := hcx 3 _ rfl
  have x4 : w.cell? ⟨g, i * 6 + 4, none⟩ = _ := hcx 4 _ rfl
  have x5 : w.cell? ⟨g, i * 6 + 5, none⟩ = _ := hcx 5 _ rfl
  have y0 : w.cell? ⟨g, j * 6, none⟩ = _ := hcy 0 _ rfl
  have y1 : w.cell? ⟨g, j * 6 + 1, none⟩ = _ := hcy 1 _ rfl
  have y2 : w.cell? ⟨g, j * 6 + 2, none⟩ = _ := hcy 2 _ rfl
  have y3 : w.cell? ⟨g, j * 6 + 3, none⟩ = _ := hcy 3 _ rfl
  have y4 : w.cell? ⟨g, j * 6 + 4, none⟩ = _ := hcy 4 _ rfl
  have y5 : w.cell? ⟨g, j * 6 + 5, none⟩ = _ := hcy 5 _ rfl
  have hil := (List.getElem?_eq_some_iff.1 hx).1
  have hjl := (List.getElem?_eq_some_iff.1 hy).1
  have hgl := World.block_lt_of_cell? w _ x0
  have hAl := World.block_lt_of_cell? w _ c0
  simp only at hgl hAl
  obtain ⟨⟨kx, ax, bx, sx, gx⟩, zx⟩ := x
  obtain ⟨⟨ky, ay, by_, sy, gy⟩, zy⟩ := y
  simp only at x0 x1 x2 x3 x4 x5 y0 y1 y2 y3 y4 y5
  clear hcells hcx hcy hx hy h
  go_enter Try.func44, Try.ntmps44
  go_wp2_with fail
  go_region
  · have hU : Holds (((w.alloc (.cells #[.int .i64 kx, .int .i64 ax, .int .i64 bx, .string sx, .string (packB gx), .int .i64 zx] 81)).alloc (.cells #[.int .i64 ky, .int .i64 ay, .int .i64 by_, .string sy, .string (packB gy), .int .i64 zy] 81)).drew) w.heap.size 81 #[.int .i64 kx, .int .i64 ax, .int .i64 bx, .string sx, .string (packB gx), .int .i64 zx] := (Holds.new w _ _).moves (S := nobody) (((Moves.refl _ _).alloc _).drew) fun h => h
    have hV : Holds (((w.alloc (.cells #[.int .i64 kx, .int .i64 ax, .int .i64 bx, .string sx, .string (packB gx), .int .i64 zx] 81)).alloc (.cells #[.int .i64 ky, .int .i64 ay, .int .i64 by_, .string sy, .string (packB gy), .int .i64 zy] 81)).drew) (w.heap.size + 1) 81 #[.int .i64 ky, .int .i64 ay, .int .i64 by_, .string sy, .string (packB gy), .int .i64 zy] := by
      have := Holds.new (w.alloc (.cells #[.int .i64 kx, .int .i64 ax, .int .i64 bx, .string sx, .string (packB gx), .int .i64 zx] 81)) 81 #[.int .i64 ky, .int .i64 ay, .int .i64 by_, .string sy, .string (packB gy), .int .i64 zy]
      rw [World.size_alloc] at this
      exact this
    have hbel : Below w.heap.size w (((w.alloc (.cells #[.int .i64 kx, .int .i64 ax, .int .i64 bx, .string sx, .string (packB gx), .int .i64 zx] 81)).alloc (.cells #[.int .i64 ky, .int .i64 ay, .int .i64 by_, .string sy, .string (packB gy), .int .i64 zy] 81)).drew) := (((Below.refl _ _).alloc (Nat.le_refl _) _).alloc (by simp) _).drew
    generalize ((w.alloc (.cells #[.int .i64 kx, .int .i64 ax, .int .i64 bx, .string sx, .string (packB gx), .int .i64 zx] 81)).alloc (.cells #[.int .i64 ky, .int .i64 ay, .int .i64 by_, .string sy, .string (packB gy), .int .i64 zy] 81)).drew = W at *
    generalize hzz : w.heap.size = Z at *
    have HZ := Lib.hid hzz
    clear hzz
    have u1 : W.drew.cell? ⟨Z, 1, none⟩ = some (.int .i64 ax) := hU.cell 1
    have u2 : W.drew.cell? ⟨Z, 2, none⟩ = some (.int .i64 bx) := hU.cell 2
    have v1 : W.drew.cell? ⟨Z + 1, 1, none⟩ = some (.int .i64 ay) := hV.cell 1
    have v2 : W.drew.cell? ⟨Z + 1, 2, none⟩ = some (.int .i64 by_) := hV.cell 2
    have hb2 : Below Z w W.drew := hbel.drew
    have hz2 : Z ≤ W.drew.heap.size := by have := hb2.size; rw [HZ.out] at this; exact this
    go_wp2_with fail
    refine wp_region_still_tail 14 (by kernel_rfl) (by kernel_rfl) ?_
    simp only [List.take_succ_cons, List.take_zero, List.drop_succ_cons, List.drop_zero]
    change wpStill _ _ W.drew _ _ _
    repeat (first | still_step | still_call ((Compare_any _ _ _).mono fun _ _ ⟨h1, h2⟩ => ⟨h1, h2.symm⟩))
    refine wpStill_nil ?_
    change wpList _ _ _ _ _ W.drew
    have hor := Or_two W.drew.heap.size (cmpI ax ay) (cmpI bx by_) (W.drew.alloc (.cells #[.int .i64 (cmpI ax ay), .int .i64 (cmpI bx by_)] 3)) ((Holds.new W.drew _ _).cell 0) ((Holds.new W.drew _ _).cell 1)
    clear u1 u2 v1 v2 hU hV x0 x1 x2 x3 x4 x5 y0 y1 y2 y3 y4 y5 c0
    generalize W.drew = W2 at *
    go_wp2_with (go_at_call 74; refine hor.mono ?_; rintro e w' ⟨rfl, rfl⟩)
    go_ret
    exact ⟨rfl, by rw [HZ.out]; exact hb2.alloc hz2 _⟩
  · have hU : Holds (((w.alloc (.cells #[.int .i64 ky, .int .i64 ay, .int .i64 by_, .string sy, .string (packB gy), .int .i64 zy] 81)).alloc (.cells #[.int .i64 kx, .int .i64 ax, .int .i64 bx, .string sx, .string (packB gx), .int .i64 zx] 81)).drew) w.heap.size 81 #[.int .i64 ky, .int .i64 ay, .int .i64 by_, .string sy, .string (packB gy), .int .i64 zy] := (Holds.new w _ _).moves (S := nobody) (((Moves.refl _ _).alloc _).drew) fun h => h
    have hV : Holds (((w.alloc (.cells #[.int .i64 ky, .int .i64 ay, .int .i64 by_, .string sy, .string (packB gy), .int .i64 zy] 81)).alloc (.cells #[.int .i64 kx, .int .i64 ax, .int .i64 bx, .string sx, .string (packB gx), .int .i64 zx] 81)).drew) (w.heap.size + 1) 81 #[.int .i64 kx, .int .i64 ax, .int .i64 bx, .string sx, .string (packB gx), .int .i64 zx] := by
      have := Holds.new (w.alloc (.cells #[.int .i64 ky, .int .i64 ay, .int .i64 by_, .string sy, .string (packB gy), .int .i64 zy] 81)) 81 #[.int .i64 kx, .int .i64 ax, .int .i64 bx, .string sx, .string (packB gx), .int .i64 zx]
      rw [World.size_alloc] at this
      exact this
    have hbel : Below w.heap.size w (((w.alloc (.cells #[.int .i64 ky, .int .i64 ay, .int .i64 by_, .string sy, .string (packB gy), .int .i64 zy] 81)).alloc (.cells #[.int .i64 kx, .int .i64 ax, .int .i64 bx, .string sx, .string (packB gx), .int .i64 zx] 81)).drew) := (((Below.refl _ _).alloc (Nat.le_refl _) _).alloc (by simp) _).drew
    generalize ((w.alloc (.cells #[.int .i64 ky, .int .i64 ay, .int .i64 by_, .string sy, .string (packB gy), .int .i64 zy] 81)).alloc (.cells #[.int .i64 kx, .int .i64 ax, .int .i64 bx, .string sx, .string (packB gx), .int .i64 zx] 81)).drew = W at *
    generalize hzz : w.heap.size = Z at *
    have HZ := Lib.hid hzz
    clear hzz
    have u1 : W.drew.cell? ⟨Z + 1, 1, none⟩ = some (.int .i64 ax) := hV.cell 1
    have u2 : W.drew.cell? ⟨Z + 1, 2, none⟩ = some (.int .i64 bx) := hV.cell 2
    have v1 : W.drew.cell? ⟨Z, 1, none⟩ = some (.int .i64 ay) := hU.cell 1
    have v2 : W.drew.cell? ⟨Z, 2, none⟩ = some (.int .i64 by_) := hU.cell 2
    have hb2 : Below Z w W.drew := hbel.drew
    have hz2 : Z ≤ W.drew.heap.size := by have := hb2.size; rw [HZ.out] at this; exact this
    go_wp2_with fail
    refine wp_region_still_tail 14 (by kernel_rfl) (by kernel_rfl) ?_
    simp only [List.take_succ_cons, List.take_zero, List.drop_succ_cons, List.drop_zero]
    change wpStill _ _ W.drew _ _ _
    repeat (first | still_step | still_call ((Compare_any _ _ _).mono fun _ _ ⟨h1, h2⟩ => ⟨h1, h2.symm⟩))
    refine wpStill_nil ?_
    change wpList _ _ _ _ _ W.drew
    have hor := Or_two W.drew.heap.size (cmpI ax ay) (cmpI bx by_) (W.drew.alloc (.cells #[.int .i64 (cmpI ax ay), .int .i64 (cmpI bx by_)] 3)) ((Holds.new W.drew _ _).cell 0) ((Holds.new W.drew _ _).cell 1)
    clear u1 u2 v1 v2 hU hV x0 x1 x2 x3 x4 x5 y0 y1 y2 y3 y4 y5 c0
    generalize W.drew = W2 at *
    go_wp2_with (go_at_call 74; refine hor.mono ?_; rintro e w' ⟨rfl, rfl⟩)
    go_ret
    exact ⟨rfl, by rw [HZ.out]; exact hb2.alloc hz2 _⟩
end Go.Proofs.Ytnbhbhogcggbnaa
