/- Events among the arguments, opened. -/
import Derived.Test.YtjphlhehhigpjaaRow
import Derived.Test.YtjphlhehhigpjaaEv0
import Derived.OpenShut
import Derived.Deep.Slices
import Derived.Deep.Strs
namespace Go.Proofs.Ytjphlhehhigpjaa
open Go.RowKit Go.WideShapes Go.ChangeShapes Go.Deep

set_option maxRecDepth 100000 in
theorem cellsEv_int : Try.prog.cellsOf 3 = 1 := by kernel_rfl
set_option maxRecDepth 100000 in
theorem cellsEv_str : Try.prog.cellsOf 9 = 1 := by kernel_rfl
set_option maxRecDepth 100000 in
theorem cellsEv_id : Try.prog.cellsOf 36 = 1 := by kernel_rfl
set_option maxRecDepth 100000 in
theorem cellsEv_u32 : Try.prog.cellsOf 39 = 1 := by kernel_rfl
set_option maxRecDepth 100000 in
theorem cellsEv_u32s3 : Try.prog.cellsOf 40 = 3 := by kernel_rfl
set_option maxRecDepth 100000 in
theorem cellsEv_group : Try.prog.cellsOf 42 = 2 := by kernel_rfl
set_option maxRecDepth 100000 in
theorem cellsEv_choice : Try.prog.cellsOf 38 = 8 := by kernel_rfl
set_option maxRecDepth 100000 in
theorem cellsEv_done : Try.prog.cellsOf 44 = 26 := by kernel_rfl
set_option maxRecDepth 100000 in
theorem cellsEv_event : Try.prog.cellsOf 46 = 34 := by kernel_rfl
set_option maxRecDepth 100000 in
theorem cellsEv_events : Try.prog.cellsOf 22 = 1 := by kernel_rfl
section
variable {H : Type} {enc : TypeId × Value → H} {w : World} {base : Nat}
theorem allOk_cons {u : Value} {l : List Value} (h : CellOk u) (hl : ∀ x ∈ l, CellOk x) : ∀ x ∈ u :: l, CellOk x := fun x hx => by
  rcases List.mem_cons.1 hx with rfl | hx
  · exact h
  · exact hl x hx
theorem allOk_nil : ∀ x ∈ ([] : List Value), CellOk x := fun x hx => by cases hx
set_option maxRecDepth 100000 in
theorem u32s3_ev {held : Bool} {m : Nat} {c0 c1 c2 : Value} {d : DataW H × List MemPlace} (h : DataW.trod enc Try.prog w base (fun _ => true) held m 40 [c0, c1, c2] = some d) : ∃ (z0 z1 z2 : Nat), c0 = .int .u32 (z0 : Int) ∧ c1 = .int .u32 (z1 : Int) ∧ c2 = .int .u32 (z2 : Int) ∧ ∀ u ∈ [c0, c1, c2], CellOk u := by
  obtain ⟨xs, m', _, _, hlen, hxl, hxs⟩ := DataW.trod_array Try.underlying40 h
  have t0 := hxs 0 (by omega)
  have t1 := hxs 1 (by omega)
  have t2 := hxs 2 (by omega)
  simp only [cellsEv_u32] at t0 t1 t2
  match xs, hxl with
  | [y0, y1, y2], _ =>
    simp at t0 t1 t2
    obtain ⟨w0, e0, _, g0⟩ := DataW.trod_int Try.underlying39 t0
    obtain ⟨w1, e1, _, g1⟩ := DataW.trod_int Try.underlying39 t1
    obtain ⟨w2, e2, _, g2⟩ := DataW.trod_int Try.underlying39 t2
    simp at e0 e1 e2
    have hg0 := g0
    have hg1 := g1
    have hg2 := g2
    have b0 := bounds_u32 g0
    obtain ⟨z0, rfl⟩ : ∃ n : Nat, w0 = n := ⟨w0.toNat, by omega⟩
    have b1 := bounds_u32 g1
    obtain ⟨z1, rfl⟩ : ∃ n : Nat, w1 = n := ⟨w1.toNat, by omega⟩
    have b2 := bounds_u32 g2
    obtain ⟨z2, rfl⟩ : ∃ n : Nat, w2 = n := ⟨w2.toNat, by omega⟩
    subst e0 e1 e2
    exact ⟨z0, z1, z2, rfl, rfl, rfl, allOk_cons hg0 (allOk_cons hg1 (allOk_cons hg2 allOk_nil))⟩
set_option maxHeartbeats 2000000 in
set_option maxRecDepth 100000 in
theorem group_ev {held : Bool} {m : Nat} {c0 c1 : Value} {d : DataW H × List MemPlace} (h : DataW.trod enc Try.prog w base (fun _ => true) held m 42 (c0 :: c1 :: []) = some d) : ∃ z0 z1 : ByteArray, c0 = .string z0 ∧ c1 = .string z1 ∧ ∀ u ∈ [c0, c1], CellOk u := by
  obtain ⟨xs, m', _, hxe, hlen, hxl, hxs⟩ := DataW.trod_struct Try.underlying42 h
  have t0 : DataW.trod enc Try.prog w base _ _ m' 9 (((c0 :: c1 :: [] : List Value).drop 0).take (Try.prog.cellsOf 9)) = xs[0]? := hxs 0 _ rfl
  have t1 : DataW.trod enc Try.prog w base _ _ m' 9 (((c0 :: c1 :: [] : List Value).drop 1).take (Try.prog.cellsOf 9)) = xs[1]? := hxs 1 _ rfl
  rw [cellsEv_str] at t0
  rw [cellsEv_str] at t1
  match xs, hxl with
  | [y0, y1], _ =>
    simp at t0 t1
    obtain ⟨z0, e0, _, g0⟩ := DataW.trod_string Try.underlying9 t0
    obtain ⟨z1, e1, _, g1⟩ := DataW.trod_string Try.underlying9 t1
    simp at e0 e1
    subst e0 e1
    exact ⟨z0, z1, rfl, rfl, (allOk_cons g0 (allOk_cons g1 allOk_nil))⟩
set_option maxHeartbeats 2000000 in
set_option maxRecDepth 100000 in
theorem choice_ev {held : Bool} {m : Nat} {c0 c1 c2 c3 c4 c5 c6 c7 : Value} {d : DataW H × List MemPlace} (h : DataW.trod enc Try.prog w base (fun _ => true) held m 38 (c0 :: c1 :: c2 :: c3 :: c4 :: c5 :: c6 :: c7 :: []) = some d) : ∃ z0 z1 z2 z3 z4 z5 z6 z7 : ByteArray, c0 = .string z0 ∧ c1 = .string z1 ∧ c2 = .string z2 ∧ c3 = .string z3 ∧ c4 = .string z4 ∧ c5 = .string z5 ∧ c6 = .string z6 ∧ c7 = .string z7 ∧ ∀ u ∈ [c0, c1, c2, c3, c4, c5, c6, c7], CellOk u := by
  obtain ⟨xs, m', _, hxe, hlen, hxl, hxs⟩ := DataW.trod_struct Try.underlying38 h
  have t0 : DataW.trod enc Try.prog w base _ _ m' 9 (((c0 :: c1 :: c2 :: c3 :: c4 :: c5 :: c6 :: c7 :: [] : List Value).drop 0).take (Try.prog.cellsOf 9)) = xs[0]? := hxs 0 _ rfl
  have t1 : DataW.trod enc Try.prog w base _ _ m' 9 (((c0 :: c1 :: c2 :: c3 :: c4 :: c5 :: c6 :: c7 :: [] : List Value).drop 1).take (Try.prog.cellsOf 9)) = xs[1]? := hxs 1 _ rfl
  have t2 : DataW.trod enc Try.prog w base _ _ m' 9 (((c0 :: c1 :: c2 :: c3 :: c4 :: c5 :: c6 :: c7 :: [] : List Value).drop 2).take (Try.prog.cellsOf 9)) = xs[2]? := hxs 2 _ rfl
  have t3 : DataW.trod enc Try.prog w base _ _ m' 9 (((c0 :: c1 :: c2 :: c3 :: c4 :: c5 :: c6 :: c7 :: [] : List Value).drop 3).take (Try.prog.cellsOf 9)) = xs[3]? := hxs 3 _ rfl
  have t4 : DataW.trod enc Try.prog w base _ _ m' 9 (((c0 :: c1 :: c2 :: c3 :: c4 :: c5 :: c6 :: c7 :: [] : List Value).drop 4).take (Try.prog.cellsOf 9)) = xs[4]? := hxs 4 _ rfl
  have t5 : DataW.trod enc Try.prog w base _ _ m' 9 (((c0 :: c1 :: c2 :: c3 :: c4 :: c5 :: c6 :: c7 :: [] : List Value).drop 5).take (Try.prog.cellsOf 9)) = xs[5]? := hxs 5 _ rfl
  have t6 : DataW.trod enc Try.prog w base _ _ m' 9 (((c0 :: c1 :: c2 :: c3 :: c4 :: c5 :: c6 :: c7 :: [] : List Value).drop 6).take (Try.prog.cellsOf 9)) = xs[6]? := hxs 6 _ rfl
  have t7 : DataW.trod enc Try.prog w base _ _ m' 9 (((c0 :: c1 :: c2 :: c3 :: c4 :: c5 :: c6 :: c7 :: [] : List Value).drop 7).take (Try.prog.cellsOf 9)) = xs[7]? := hxs 7 _ rfl
  rw [cellsEv_str] at t0
  rw [cellsEv_str] at t1
  rw [cellsEv_str] at t2
  rw [cellsEv_str] at t3
  rw [cellsEv_str] at t4
  rw [cellsEv_str] at t5
  rw [cellsEv_str] at t6
  rw [cellsEv_str] at t7
  match xs, hxl with
  | [y0, y1, y2, y3, y4, y5, y6, y7], _ =>
    simp at t0 t1 t2 t3 t4 t5 t6 t7
    obtain ⟨z0, e0, _, g0⟩ := DataW.trod_string Try.underlying9 t0
    obtain ⟨z1, e1, _, g1⟩ := DataW.trod_string Try.underlying9 t1
    obtain ⟨z2, e2, _, g2⟩ := DataW.trod_string Try.underlying9 t2
    obtain ⟨z3, e3, _, g3⟩ := DataW.trod_string Try.underlying9 t3
    obtain ⟨z4, e4, _, g4⟩ := DataW.trod_string Try.underlying9 t4
    obtain ⟨z5, e5, _, g5⟩ := DataW.trod_string Try.underlying9 t5
    obtain ⟨z6, e6, _, g6⟩ := DataW.trod_string Try.underlying9 t6
    obtain ⟨z7, e7, _, g7⟩ := DataW.trod_string Try.underlying9 t7
    simp at e0 e1 e2 e3 e4 e5 e6 e7
    subst e0 e1 e2 e3 e4 e5 e6 e7
    exact ⟨z0, z1, z2, z3, z4, z5, z6, z7, rfl, rfl, rfl, rfl, rfl, rfl, rfl, rfl, (allOk_cons g0 (allOk_cons g1 (allOk_cons g2 (allOk_cons g3 (allOk_cons g4 (allOk_cons g5 (allOk_cons g6 (allOk_cons g7 allOk_nil))))))))⟩
set_option maxHeartbeats 2000000 in
set_option maxRecDepth 100000 in
theorem done_ev {held : Bool} {m : Nat} {c0 c1 c2 c3 c4 c5 c6 c7 c8 c9 c10 c11 c12 c13 c14 c15 c16 c17 c18 c19 c20 c21 c22 c23 c24 c25 : Value} {d : DataW H × List MemPlace} (h : DataW.trod enc Try.prog w base (fun _ => true) held m 44 (c0 :: c1 :: c2 :: c3 :: c4 :: c5 :: c6 :: c7 :: c8 :: c9 :: c10 :: c11 :: c12 :: c13 :: c14 :: c15 :: c16 :: c17 :: c18 :: c19 :: c20 :: c21 :: c22 :: c23 :: c24 :: c25 :: []) = some d) : ∃ d : DoV, c0 :: c1 :: c2 :: c3 :: c4 :: c5 :: c6 :: c7 :: c8 :: c9 :: c10 :: c11 :: c12 :: c13 :: c14 :: c15 :: c16 :: c17 :: c18 :: c19 :: c20 :: c21 :: c22 :: c23 :: c24 :: c25 :: [] = d.row ∧ ∀ u ∈ d.row, CellOk u := by
  obtain ⟨xs, m', _, hxe, hlen, hxl, hxs⟩ := DataW.trod_struct Try.underlying44 h
  have t0 : DataW.trod enc Try.prog w base _ _ m' 9 (((c0 :: c1 :: c2 :: c3 :: c4 :: c5 :: c6 :: c7 :: c8 :: c9 :: c10 :: c11 :: c12 :: c13 :: c14 :: c15 :: c16 :: c17 :: c18 :: c19 :: c20 :: c21 :: c22 :: c23 :: c24 :: c25 :: [] : List Value).drop 0).take (Try.prog.cellsOf 9)) = xs[0]? := hxs 0 _ rfl
  have t1 : DataW.trod enc Try.prog w base _ _ m' 9 (((c0 :: c1 :: c2 :: c3 :: c4 :: c5 :: c6 :: c7 :: c8 :: c9 :: c10 :: c11 :: c12 :: c13 :: c14 :: c15 :: c16 :: c17 :: c18 :: c19 :: c20 :: c21 :: c22 :: c23 :: c24 :: c25 :: [] : List Value).drop 1).take (Try.prog.cellsOf 9)) = xs[1]? := hxs 1 _ rfl
  have t2 : DataW.trod enc Try.prog w base _ _ m' 9 (((c0 :: c1 :: c2 :: c3 :: c4 :: c5 :: c6 :: c7 :: c8 :: c9 :: c10 :: c11 :: c12 :: c13 :: c14 :: c15 :: c16 :: c17 :: c18 :: c19 :: c20 :: c21 :: c22 :: c23 :: c24 :: c25 :: [] : List Value).drop 2).take (Try.prog.cellsOf 9)) = xs[2]? := hxs 2 _ rfl
  have t3 : DataW.trod enc Try.prog w base _ _ m' 9 (((c0 :: c1 :: c2 :: c3 :: c4 :: c5 :: c6 :: c7 :: c8 :: c9 :: c10 :: c11 :: c12 :: c13 :: c14 :: c15 :: c16 :: c17 :: c18 :: c19 :: c20 :: c21 :: c22 :: c23 :: c24 :: c25 :: [] : List Value).drop 3).take (Try.prog.cellsOf 9)) = xs[3]? := hxs 3 _ rfl
  have t4 : DataW.trod enc Try.prog w base _ _ m' 38 (((c0 :: c1 :: c2 :: c3 :: c4 :: c5 :: c6 :: c7 :: c8 :: c9 :: c10 :: c11 :: c12 :: c13 :: c14 :: c15 :: c16 :: c17 :: c18 :: c19 :: c20 :: c21 :: c22 :: c23 :: c24 :: c25 :: [] : List Value).drop 4).take (Try.prog.cellsOf 38)) = xs[4]? := hxs 4 _ rfl
  have t5 : DataW.trod enc Try.prog w base _ _ m' 3 (((c0 :: c1 :: c2 :: c3 :: c4 :: c5 :: c6 :: c7 :: c8 :: c9 :: c10 :: c11 :: c12 :: c13 :: c14 :: c15 :: c16 :: c17 :: c18 :: c19 :: c20 :: c21 :: c22 :: c23 :: c24 :: c25 :: [] : List Value).drop 12).take (Try.prog.cellsOf 3)) = xs[5]? := hxs 5 _ rfl
  have t6 : DataW.trod enc Try.prog w base _ _ m' 40 (((c0 :: c1 :: c2 :: c3 :: c4 :: c5 :: c6 :: c7 :: c8 :: c9 :: c10 :: c11 :: c12 :: c13 :: c14 :: c15 :: c16 :: c17 :: c18 :: c19 :: c20 :: c21 :: c22 :: c23 :: c24 :: c25 :: [] : List Value).drop 13).take (Try.prog.cellsOf 40)) = xs[6]? := hxs 6 _ rfl
  have t7 : DataW.trod enc Try.prog w base _ _ m' 42 (((c0 :: c1 :: c2 :: c3 :: c4 :: c5 :: c6 :: c7 :: c8 :: c9 :: c10 :: c11 :: c12 :: c13 :: c14 :: c15 :: c16 :: c17 :: c18 :: c19 :: c20 :: c21 :: c22 :: c23 :: c24 :: c25 :: [] : List Value).drop 16).take (Try.prog.cellsOf 42)) = xs[7]? := hxs 7 _ rfl
  have t8 : DataW.trod enc Try.prog w base _ _ m' 36 (((c0 :: c1 :: c2 :: c3 :: c4 :: c5 :: c6 :: c7 :: c8 :: c9 :: c10 :: c11 :: c12 :: c13 :: c14 :: c15 :: c16 :: c17 :: c18 :: c19 :: c20 :: c21 :: c22 :: c23 :: c24 :: c25 :: [] : List Value).drop 18).take (Try.prog.cellsOf 36)) = xs[8]? := hxs 8 _ rfl
  have t9 : DataW.trod enc Try.prog w base _ _ m' 36 (((c0 :: c1 :: c2 :: c3 :: c4 :: c5 :: c6 :: c7 :: c8 :: c9 :: c10 :: c11 :: c12 :: c13 :: c14 :: c15 :: c16 :: c17 :: c18 :: c19 :: c20 :: c21 :: c22 :: c23 :: c24 :: c25 :: [] : List Value).drop 19).take (Try.prog.cellsOf 36)) = xs[9]? := hxs 9 _ rfl
  have t10 : DataW.trod enc Try.prog w base _ _ m' 36 (((c0 :: c1 :: c2 :: c3 :: c4 :: c5 :: c6 :: c7 :: c8 :: c9 :: c10 :: c11 :: c12 :: c13 :: c14 :: c15 :: c16 :: c17 :: c18 :: c19 :: c20 :: c21 :: c22 :: c23 :: c24 :: c25 :: [] : List Value).drop 20).take (Try.prog.cellsOf 36)) = xs[10]? := hxs 10 _ rfl
  have t11 : DataW.trod enc Try.prog w base _ _ m' 36 (((c0 :: c1 :: c2 :: c3 :: c4 :: c5 :: c6 :: c7 :: c8 :: c9 :: c10 :: c11 :: c12 :: c13 :: c14 :: c15 :: c16 :: c17 :: c18 :: c19 :: c20 :: c21 :: c22 :: c23 :: c24 :: c25 :: [] : List Value).drop 21).take (Try.prog.cellsOf 36)) = xs[11]? := hxs 11 _ rfl
  have t12 : DataW.trod enc Try.prog w base _ _ m' 36 (((c0 :: c1 :: c2 :: c3 :: c4 :: c5 :: c6 :: c7 :: c8 :: c9 :: c10 :: c11 :: c12 :: c13 :: c14 :: c15 :: c16 :: c17 :: c18 :: c19 :: c20 :: c21 :: c22 :: c23 :: c24 :: c25 :: [] : List Value).drop 22).take (Try.prog.cellsOf 36)) = xs[12]? := hxs 12 _ rfl
  have t13 : DataW.trod enc Try.prog w base _ _ m' 36 (((c0 :: c1 :: c2 :: c3 :: c4 :: c5 :: c6 :: c7 :: c8 :: c9 :: c10 :: c11 :: c12 :: c13 :: c14 :: c15 :: c16 :: c17 :: c18 :: c19 :: c20 :: c21 :: c22 :: c23 :: c24 :: c25 :: [] : List Value).drop 23).take (Try.prog.cellsOf 36)) = xs[13]? := hxs 13 _ rfl
  have t14 : DataW.trod enc Try.prog w base _ _ m' 36 (((c0 :: c1 :: c2 :: c3 :: c4 :: c5 :: c6 :: c7 :: c8 :: c9 :: c10 :: c11 :: c12 :: c13 :: c14 :: c15 :: c16 :: c17 :: c18 :: c19 :: c20 :: c21 :: c22 :: c23 :: c24 :: c25 :: [] : List Value).drop 24).take (Try.prog.cellsOf 36)) = xs[14]? := hxs 14 _ rfl
  have t15 : DataW.trod enc Try.prog w base _ _ m' 36 (((c0 :: c1 :: c2 :: c3 :: c4 :: c5 :: c6 :: c7 :: c8 :: c9 :: c10 :: c11 :: c12 :: c13 :: c14 :: c15 :: c16 :: c17 :: c18 :: c19 :: c20 :: c21 :: c22 :: c23 :: c24 :: c25 :: [] : List Value).drop 25).take (Try.prog.cellsOf 36)) = xs[15]? := hxs 15 _ rfl
  rw [cellsEv_str] at t0
  rw [cellsEv_str] at t1
  rw [cellsEv_str] at t2
  rw [cellsEv_str] at t3
  rw [cellsEv_choice] at t4
  rw [cellsEv_int] at t5
  rw [cellsEv_u32s3] at t6
  rw [cellsEv_group] at t7
  rw [cellsEv_id] at t8
  rw [cellsEv_id] at t9
  rw [cellsEv_id] at t10
  rw [cellsEv_id] at t11
  rw [cellsEv_id] at t12
  rw [cellsEv_id] at t13
  rw [cellsEv_id] at t14
  rw [cellsEv_id] at t15
  match xs, hxl with
  | [y0, y1, y2, y3, y4, y5, y6, y7, y8, y9, y10, y11, y12, y13, y14, y15], _ =>
    simp at t0 t1 t2 t3 t4 t5 t6 t7 t8 t9 t10 t11 t12 t13 t14 t15
    obtain ⟨z0, e0, _, g0⟩ := DataW.trod_string Try.underlying9 t0
    obtain ⟨z1, e1, _, g1⟩ := DataW.trod_string Try.underlying9 t1
    obtain ⟨z2, e2, _, g2⟩ := DataW.trod_string Try.underlying9 t2
    obtain ⟨z3, e3, _, g3⟩ := DataW.trod_string Try.underlying9 t3
    obtain ⟨z4, z5, z6, z7, z8, z9, z10, z11, f4, f5, f6, f7, f8, f9, f10, f11, o4⟩ := choice_ev t4
    obtain ⟨z12, e12, _, g12⟩ := DataW.trod_int Try.underlying3 t5
    obtain ⟨z13, z14, z15, f13, f14, f15, o13⟩ := u32s3_ev t6
    obtain ⟨z16, z17, f16, f17, o16⟩ := group_ev t7
    obtain ⟨z18, e18, _, g18⟩ := DataW.trod_int Try.underlying36 t8
    obtain ⟨z19, e19, _, g19⟩ := DataW.trod_int Try.underlying36 t9
    obtain ⟨z20, e20, _, g20⟩ := DataW.trod_int Try.underlying36 t10
    obtain ⟨z21, e21, _, g21⟩ := DataW.trod_int Try.underlying36 t11
    obtain ⟨z22, e22, _, g22⟩ := DataW.trod_int Try.underlying36 t12
    obtain ⟨z23, e23, _, g23⟩ := DataW.trod_int Try.underlying36 t13
    obtain ⟨z24, e24, _, g24⟩ := DataW.trod_int Try.underlying36 t14
    obtain ⟨z25, e25, _, g25⟩ := DataW.trod_int Try.underlying36 t15
    simp at e0 e1 e2 e3 e12 e18 e19 e20 e21 e22 e23 e24 e25
    subst e0 e1 e2 e3 e12 e18 e19 e20 e21 e22 e23 e24 e25 f4 f5 f6 f7 f8 f9 f10 f11 f13 f14 f15 f16 f17
    have hok : ∀ u ∈ (⟨z0, z1, z2, z3, z4, z5, z6, z7, z8, z9, z10, z11, z12, z13, z14, z15, z16, z17, z18, z19, z20, z21, z22, z23, z24, z25⟩ : DoV).row, CellOk u := (allOk_cons g0 (allOk_cons g1 (allOk_cons g2 (allOk_cons g3 (allOk_cons (o4 _ (by simp)) (allOk_cons (o4 _ (by simp)) (allOk_cons (o4 _ (by simp)) (allOk_cons (o4 _ (by simp)) (allOk_cons (o4 _ (by simp)) (allOk_cons (o4 _ (by simp)) (allOk_cons (o4 _ (by simp)) (allOk_cons (o4 _ (by simp)) (allOk_cons g12 (allOk_cons (o13 _ (by simp)) (allOk_cons (o13 _ (by simp)) (allOk_cons (o13 _ (by simp)) (allOk_cons (o16 _ (by simp)) (allOk_cons (o16 _ (by simp)) (allOk_cons g18 (allOk_cons g19 (allOk_cons g20 (allOk_cons g21 (allOk_cons g22 (allOk_cons g23 (allOk_cons g24 (allOk_cons g25 allOk_nil))))))))))))))))))))))))))
    exact ⟨_, rfl, hok⟩
set_option maxHeartbeats 2000000 in
set_option maxRecDepth 100000 in
theorem event_ev {held : Bool} {m : Nat} {c0 c1 c2 c3 c4 c5 c6 c7 c8 c9 c10 c11 c12 c13 c14 c15 c16 c17 c18 c19 c20 c21 c22 c23 c24 c25 c26 c27 c28 c29 c30 c31 c32 c33 : Value} {d : DataW H × List MemPlace} (h : DataW.trod enc Try.prog w base (fun _ => true) held m 46 (c0 :: c1 :: c2 :: c3 :: c4 :: c5 :: c6 :: c7 :: c8 :: c9 :: c10 :: c11 :: c12 :: c13 :: c14 :: c15 :: c16 :: c17 :: c18 :: c19 :: c20 :: c21 :: c22 :: c23 :: c24 :: c25 :: c26 :: c27 :: c28 :: c29 :: c30 :: c31 :: c32 :: c33 :: []) = some d) : ∃ x : EvV, c0 :: c1 :: c2 :: c3 :: c4 :: c5 :: c6 :: c7 :: c8 :: c9 :: c10 :: c11 :: c12 :: c13 :: c14 :: c15 :: c16 :: c17 :: c18 :: c19 :: c20 :: c21 :: c22 :: c23 :: c24 :: c25 :: c26 :: c27 :: c28 :: c29 :: c30 :: c31 :: c32 :: c33 :: [] = x.row.toList ∧ ∀ u ∈ x.row.toList, CellOk u := by
  obtain ⟨xs, m', _, hxe, hlen, hxl, hxs⟩ := DataW.trod_struct Try.underlying46 h
  have t0 : DataW.trod enc Try.prog w base _ _ m' 3 (((c0 :: c1 :: c2 :: c3 :: c4 :: c5 :: c6 :: c7 :: c8 :: c9 :: c10 :: c11 :: c12 :: c13 :: c14 :: c15 :: c16 :: c17 :: c18 :: c19 :: c20 :: c21 :: c22 :: c23 :: c24 :: c25 :: c26 :: c27 :: c28 :: c29 :: c30 :: c31 :: c32 :: c33 :: [] : List Value).drop 0).take (Try.prog.cellsOf 3)) = xs[0]? := hxs 0 _ rfl
  have t1 : DataW.trod enc Try.prog w base _ _ m' 3 (((c0 :: c1 :: c2 :: c3 :: c4 :: c5 :: c6 :: c7 :: c8 :: c9 :: c10 :: c11 :: c12 :: c13 :: c14 :: c15 :: c16 :: c17 :: c18 :: c19 :: c20 :: c21 :: c22 :: c23 :: c24 :: c25 :: c26 :: c27 :: c28 :: c29 :: c30 :: c31 :: c32 :: c33 :: [] : List Value).drop 1).take (Try.prog.cellsOf 3)) = xs[1]? := hxs 1 _ rfl
  have t2 : DataW.trod enc Try.prog w base _ _ m' 3 (((c0 :: c1 :: c2 :: c3 :: c4 :: c5 :: c6 :: c7 :: c8 :: c9 :: c10 :: c11 :: c12 :: c13 :: c14 :: c15 :: c16 :: c17 :: c18 :: c19 :: c20 :: c21 :: c22 :: c23 :: c24 :: c25 :: c26 :: c27 :: c28 :: c29 :: c30 :: c31 :: c32 :: c33 :: [] : List Value).drop 2).take (Try.prog.cellsOf 3)) = xs[2]? := hxs 2 _ rfl
  have t3 : DataW.trod enc Try.prog w base _ _ m' 3 (((c0 :: c1 :: c2 :: c3 :: c4 :: c5 :: c6 :: c7 :: c8 :: c9 :: c10 :: c11 :: c12 :: c13 :: c14 :: c15 :: c16 :: c17 :: c18 :: c19 :: c20 :: c21 :: c22 :: c23 :: c24 :: c25 :: c26 :: c27 :: c28 :: c29 :: c30 :: c31 :: c32 :: c33 :: [] : List Value).drop 3).take (Try.prog.cellsOf 3)) = xs[3]? := hxs 3 _ rfl
  have t4 : DataW.trod enc Try.prog w base _ _ m' 9 (((c0 :: c1 :: c2 :: c3 :: c4 :: c5 :: c6 :: c7 :: c8 :: c9 :: c10 :: c11 :: c12 :: c13 :: c14 :: c15 :: c16 :: c17 :: c18 :: c19 :: c20 :: c21 :: c22 :: c23 :: c24 :: c25 :: c26 :: c27 :: c28 :: c29 :: c30 :: c31 :: c32 :: c33 :: [] : List Value).drop 4).take (Try.prog.cellsOf 9)) = xs[4]? := hxs 4 _ rfl
  have t5 : DataW.trod enc Try.prog w base _ _ m' 9 (((c0 :: c1 :: c2 :: c3 :: c4 :: c5 :: c6 :: c7 :: c8 :: c9 :: c10 :: c11 :: c12 :: c13 :: c14 :: c15 :: c16 :: c17 :: c18 :: c19 :: c20 :: c21 :: c22 :: c23 :: c24 :: c25 :: c26 :: c27 :: c28 :: c29 :: c30 :: c31 :: c32 :: c33 :: [] : List Value).drop 5).take (Try.prog.cellsOf 9)) = xs[5]? := hxs 5 _ rfl
  have t6 : DataW.trod enc Try.prog w base _ _ m' 9 (((c0 :: c1 :: c2 :: c3 :: c4 :: c5 :: c6 :: c7 :: c8 :: c9 :: c10 :: c11 :: c12 :: c13 :: c14 :: c15 :: c16 :: c17 :: c18 :: c19 :: c20 :: c21 :: c22 :: c23 :: c24 :: c25 :: c26 :: c27 :: c28 :: c29 :: c30 :: c31 :: c32 :: c33 :: [] : List Value).drop 6).take (Try.prog.cellsOf 9)) = xs[6]? := hxs 6 _ rfl
  have t7 : DataW.trod enc Try.prog w base _ _ m' 36 (((c0 :: c1 :: c2 :: c3 :: c4 :: c5 :: c6 :: c7 :: c8 :: c9 :: c10 :: c11 :: c12 :: c13 :: c14 :: c15 :: c16 :: c17 :: c18 :: c19 :: c20 :: c21 :: c22 :: c23 :: c24 :: c25 :: c26 :: c27 :: c28 :: c29 :: c30 :: c31 :: c32 :: c33 :: [] : List Value).drop 7).take (Try.prog.cellsOf 36)) = xs[7]? := hxs 7 _ rfl
  have t8 : DataW.trod enc Try.prog w base _ _ m' 44 (((c0 :: c1 :: c2 :: c3 :: c4 :: c5 :: c6 :: c7 :: c8 :: c9 :: c10 :: c11 :: c12 :: c13 :: c14 :: c15 :: c16 :: c17 :: c18 :: c19 :: c20 :: c21 :: c22 :: c23 :: c24 :: c25 :: c26 :: c27 :: c28 :: c29 :: c30 :: c31 :: c32 :: c33 :: [] : List Value).drop 8).take (Try.prog.cellsOf 44)) = xs[8]? := hxs 8 _ rfl
  rw [cellsEv_int] at t0
  rw [cellsEv_int] at t1
  rw [cellsEv_int] at t2
  rw [cellsEv_int] at t3
  rw [cellsEv_str] at t4
  rw [cellsEv_str] at t5
  rw [cellsEv_str] at t6
  rw [cellsEv_id] at t7
  rw [cellsEv_done] at t8
  match xs, hxl with
  | [y0, y1, y2, y3, y4, y5, y6, y7, y8], _ =>
    simp at t0 t1 t2 t3 t4 t5 t6 t7 t8
    obtain ⟨z0, e0, _, g0⟩ := DataW.trod_int Try.underlying3 t0
    obtain ⟨z1, e1, _, g1⟩ := DataW.trod_int Try.underlying3 t1
    obtain ⟨z2, e2, _, g2⟩ := DataW.trod_int Try.underlying3 t2
    obtain ⟨z3, e3, _, g3⟩ := DataW.trod_int Try.underlying3 t3
    obtain ⟨z4, e4, _, g4⟩ := DataW.trod_string Try.underlying9 t4
    obtain ⟨z5, e5, _, g5⟩ := DataW.trod_string Try.underlying9 t5
    obtain ⟨z6, e6, _, g6⟩ := DataW.trod_string Try.underlying9 t6
    obtain ⟨z7, e7, _, g7⟩ := DataW.trod_int Try.underlying36 t7
    obtain ⟨dn, fd, o8⟩ := done_ev t8
    simp at e0 e1 e2 e3 e4 e5 e6 e7
    subst e0 e1 e2 e3 e4 e5 e6 e7
    refine ⟨⟨z0, z1, z2, z3, z4, z5, z6, z7, dn⟩, ?_, ?_⟩
    · show _ = _ :: _ :: _ :: _ :: _ :: _ :: _ :: _ :: dn.row
      rw [← fd]
    · exact (show ∀ u ∈ _ :: _ :: _ :: _ :: _ :: _ :: _ :: _ :: dn.row, CellOk u from (allOk_cons g0 (allOk_cons g1 (allOk_cons g2 (allOk_cons g3 (allOk_cons g4 (allOk_cons g5 (allOk_cons g6 (allOk_cons g7 o8)))))))))
set_option maxHeartbeats 1000000 in
set_option maxRecDepth 100000 in
theorem open_events {v : Value} {d : DataW H} {p : List MemPlace} {b0 : Nat} (hv : Value.okWide Try.prog w .any b0 22 v) (h : DataW.Trod enc Try.prog w base (fun _ => true) true 22 v d p) :
    ∃ l : List EvV, EventsAt w v l ∧ l.length ≤ maxLen ∧ (∀ x ∈ l, ∀ u ∈ x.row.toList, CellOk u) ∧ (∀ ao cap, v = .slice ao l.length cap → l.length ≤ cap) := by
  obtain ⟨ao, n, c, rfl⟩ := okWide_slice Try.underlying22 hv
  obtain ⟨fuel, hf⟩ := h
  rcases open_slice Try.underlying22 (by simpa [Value.cells] using hf) with ⟨h1, _⟩ | ⟨a, len, cap, m, k, D, Pl, h1, hb, hl, hc, hm, hx, hi⟩
  · simp only [List.cons.injEq, and_true] at h1
    rw [h1]
    exact ⟨[], ⟨none, 0, rfl, fun h => absurd rfl h⟩, by simp, (fun x hx => by cases hx), fun _ _ _ => Nat.zero_le _⟩
  · simp only [List.cons.injEq, and_true] at h1
    have hmc : m = cap := by simpa using hm
    have hlc : ∀ ao' cap', Value.slice (some a) len cap = .slice ao' len cap' → len ≤ cap' := fun ao' cap' e => by
      simp only [Value.slice.injEq] at e
      omega
    have each : ∀ i, i < len → ∃ x : EvV, (∀ j u, x.row[j]? = some u → w.cell? (a.add (i * 34 + j)) = some u) ∧ ∀ u ∈ x.row.toList, CellOk u := by
      intro i hil
      obtain ⟨cs', hcs, ht⟩ := hi i (by omega)
      rw [cellsEv_event] at hcs
      obtain ⟨hb2, hlen, hat⟩ := World.cells?_some hcs
      match cs', hlen with
      | c0 :: c1 :: c2 :: c3 :: c4 :: c5 :: c6 :: c7 :: c8 :: c9 :: c10 :: c11 :: c12 :: c13 :: c14 :: c15 :: c16 :: c17 :: c18 :: c19 :: c20 :: c21 :: c22 :: c23 :: c24 :: c25 :: c26 :: c27 :: c28 :: c29 :: c30 :: c31 :: c32 :: c33 :: [], _ =>
        obtain ⟨x, hx, hok⟩ := event_ev ht
        refine ⟨x, fun j u hj => ?_, hok⟩
        have hj34 : j < 34 := by
          have := (Array.getElem?_eq_some_iff.1 hj).1
          rwa [x.row_size] at this
        have hj2 : x.row.toList[j]? = some u := by simpa using hj
        rw [← hx] at hj2
        have aj := hat j hj34
        simp only [Go.Deep.add_add] at aj
        rw [aj]
        exact hj2
    rcases Nat.eq_zero_or_pos len with h0 | h0
    · subst h0
      rw [h1]
      exact ⟨[], ⟨some a, cap, rfl, fun h => absurd rfl h⟩, by simp, (fun x hx => by cases hx), fun _ _ _ => Nat.zero_le _⟩
    · haveI : Inhabited EvV := ⟨(each 0 h0).choose⟩
      obtain ⟨q, hq⟩ := choose_lt each
      obtain ⟨b, off, spot⟩ := a
      have hspot : spot = none := by simpa [Addr.add] using World.cell?_spot ((hq 0 h0).1 0 _ (EvV.row_ki _))
      subst hspot
      have hblk := World.block_lt_of_cell? w _ ((hq 0 h0).1 0 _ (EvV.row_ki _))
      simp only [Addr.add_lit] at hq hblk
      rw [h1]
      refine ⟨(List.range len).map q, ⟨some ⟨b, off, none⟩, cap, by simp, fun _ => ⟨b, off, rfl, hblk, fun k x hk j u hj => ?_⟩⟩, by simp; omega, fun x hx => ?_, ?_⟩
      · rw [List.getElem?_map] at hk
        by_cases hkl : k < len
        · rw [List.getElem?_range hkl] at hk
          simp at hk
          subst hk
          have := (hq k hkl).1 j u hj
          simp only [← Nat.add_assoc] at this
          exact this
        · rw [List.getElem?_eq_none (by simpa using hkl)] at hk
          simp at hk
      · obtain ⟨k, hk, rfl⟩ := List.mem_map.1 hx
        exact (hq k (by simpa using hk)).2
      · simpa using hlc
end
end Go.Proofs.Ytjphlhehhigpjaa
