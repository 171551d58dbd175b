/- Part 36 of what the statement wants. -/
import Derived.OpenShut
import Derived.Deep.Slices
import Derived.Deep.Strs
import Derived.Test.YtbnecckgapainaaGreatDoorPk00
import Derived.Test.YtbnecckgapainaaGreatDoorPk35
namespace Go.Proofs.YtbnecckgapainaaGreatDoor
open Go.RowKit Go.WideShapes Go.ChangeShapes Go.Deep

set_option maxHeartbeats 2000000 in
set_option maxRecDepth 100000 in
theorem SignHosts_long {w : World} (hg : TypeOfError w) {v : Value} {l : List MakeR} (hM : MakesAt w v l) (hlm : l.length ≤ maxLen) (hls : ∀ x ∈ l, x.s.length ≤ maxLen) (x0 x1 x2 a0 a1 : Int) (G0 G1 : ByteArray) (_m0 : G0.size ≤ maxLen) (_m1 : G1.size ≤ maxLen)
    (f r0 r1 : Bool) (hf : fewP l 20 = f) (h0 : decide ((G0.size : Int) > 200) = r0) (h1 : decide ((G1.size : Int) > 200) = r1) (hr : (!f || r0 || r1) = true) :
    Calls Tryz.prog 5 #[v, .agg #[.int .i64 x0, .int .i64 x1, .int .i64 x2], .agg #[.string G0, .int .i64 a0, .string G1, .int .i64 a1]] w fun e w' => e = .returned (.bool true) ∧ Below w.heap.size w w' := by
  have b0 : Below w.heap.size w ((w.alloc (.cells #[.int .i64 x0, .int .i64 x1, .int .i64 x2] 39)).alloc (.cells #[.string G0, .int .i64 a0, .string G1, .int .i64 a1] 58)) := ((Below.refl _ _).alloc (Nat.le_refl _) _).alloc (by simp) _
  have hY : Holds ((w.alloc (.cells #[.int .i64 x0, .int .i64 x1, .int .i64 x2] 39)).alloc (.cells #[.string G0, .int .i64 a0, .string G1, .int .i64 a1] 58)) (w.heap.size + 1) 58 #[.string G0, .int .i64 a0, .string G1, .int .i64 a1] := by
    have := Holds.new (w.alloc (.cells #[.int .i64 x0, .int .i64 x1, .int .i64 x2] 39)) 58 #[.string G0, .int .i64 a0, .string G1, .int .i64 a1]
    rwa [World.size_alloc] at this
  obtain ⟨W0, hW0⟩ : ∃ W0, Hid (W0 = (w.alloc (.cells #[.int .i64 x0, .int .i64 x1, .int .i64 x2] 39)).alloc (.cells #[.string G0, .int .i64 a0, .string G1, .int .i64 a1] 58)) := ⟨_, Lib.hid rfl⟩
  rw [← hW0.out] at b0 hY
  have hM0 := makes_below22 hM b0
  have HFw := few_any hM0 20 hls hlm
  rw [hf] at HFw
  have HFw := Lib.hid HFw
  have HAw : Hid (Calls Tryz.prog 22 #[] W0 fun e w' => e = .returned (.bool true) ∧ Below W0.heap.size W0 w') := awake22_any W0 (hg.later b0)
  obtain ⟨ao0, cap0, rfl, _⟩ := id hM0
  have y0 := hY.cell 0
  have y2 := hY.cell 2
  have HB0 := Lib.hid b0
  clear hM hM0 hls hlm hg hY b0 hf
  cases f with
  | false =>
    go_enter Tryz.func5, Tryz.ntmps5
    go_wp2_with (first
      | (go_at_call 9; rw [← hW0.out]; (with_reducible refine HFw.out.mono ?_); rintro e w' ⟨rfl, hw⟩; have hw := hw.symm; subst hw)
      | (go_at_call 22; (with_reducible refine HAw.out.mono ?_); rintro e w1 ⟨rfl, b1⟩))
    go_ret
    exact ⟨rfl, HB0.out.trans (b1.mono HB0.out.size)⟩
  | true =>
  cases r0 with
  | true =>
    go_enter Tryz.func5, Tryz.ntmps5
    go_wp2_with (first
      | (go_at_call 9; rw [← hW0.out]; (with_reducible refine HFw.out.mono ?_); rintro e w' ⟨rfl, hw⟩; have hw := hw.symm; subst hw)
      | (go_at_call 22; (with_reducible refine HAw.out.mono ?_); rintro e w1 ⟨rfl, b1⟩))
    go_ret
    exact ⟨rfl, HB0.out.trans (b1.mono HB0.out.size)⟩
  | false =>
  cases r1 with
  | true =>
    go_enter Tryz.func5, Tryz.ntmps5
    go_wp2_with (first
      | (go_at_call 9; rw [← hW0.out]; (with_reducible refine HFw.out.mono ?_); rintro e w' ⟨rfl, hw⟩; have hw := hw.symm; subst hw)
      | (go_at_call 22; (with_reducible refine HAw.out.mono ?_); rintro e w1 ⟨rfl, b1⟩))
    go_ret
    exact ⟨rfl, HB0.out.trans (b1.mono HB0.out.size)⟩
  | false => simp at hr
theorem SignHosts_any {w : World} (hg : TypeOfError w) {v : Value} {l : List MakeR} (hM : MakesAt w v l) (hlm : l.length ≤ maxLen) (hls : ∀ x ∈ l, x.s.length ≤ maxLen) (x0 x1 x2 a0 a1 : Int) (G0 G1 : ByteArray) (m0 : G0.size ≤ maxLen) (m1 : G1.size ≤ maxLen) :
    Calls Tryz.prog 5 #[v, .agg #[.int .i64 x0, .int .i64 x1, .int .i64 x2], .agg #[.string G0, .int .i64 a0, .string G1, .int .i64 a1]] w fun e w' => e = .returned (.bool true) ∧ Below w.heap.size w w' := by
  by_cases h : fewP l 20 = true ∧ G0.size ≤ 200 ∧ G1.size ≤ 200
  · obtain ⟨h1, h2, h3⟩ := h
    obtain ⟨h4, h5⟩ := of_decide_eq_true h1
    have := SignHosts_small hg hM (by omega) h5 x0 x1 x2 a0 a1 G0.data.toList G1.data.toList (by rw [Array.length_toList]; exact h2) (by rw [Array.length_toList]; exact h3)
    rwa [bs_list, bs_list] at this
  · refine SignHosts_long hg hM hlm hls x0 x1 x2 a0 a1 G0 G1 m0 m1 _ _ _ rfl rfl rfl ?_
    simp only [Bool.or_eq_true, Bool.not_eq_true', decide_eq_true_eq, ← Bool.not_eq_true]
    by_cases k1 : fewP l 20 = true
    · by_cases k2 : G0.size ≤ 200
      · refine .inr ?_
        have : ¬ G1.size ≤ 200 := fun k3 => h ⟨k1, k2, k3⟩
        omega
      · refine .inl (.inr ?_)
        omega
    · exact .inl (.inl k1)
section
variable {H : Type} {enc : TypeId × Value → H} {w : World} {base : Nat}
theorem okWide_arr22 {P : Program} {w : World} {r : Reach} {b0 : Nat} {t e : TypeId} {n : Nat} {v : Value} (ht : P.underlying t = some (.array n e)) (h : Value.okWide P w r b0 t v) : ∃ cs, v = .agg cs := by
  simp only [Value.okWide, ht] at h
  obtain ⟨cs, h1, _⟩ := h
  exact ⟨cs, h1⟩
set_option maxRecDepth 100000 in
theorem cells_int22 : Tryz.prog.cellsOf 3 = 1 := by kernel_rfl
set_option maxRecDepth 100000 in
theorem cells_str22 : Tryz.prog.cellsOf 9 = 1 := by kernel_rfl
set_option maxRecDepth 100000 in
theorem cells_name22 : Tryz.prog.cellsOf 57 = 2 := by kernel_rfl
set_option maxRecDepth 100000 in
theorem cells_name2 : Tryz.prog.cellsOf 58 = 4 := by kernel_rfl
set_option maxRecDepth 100000 in
theorem cells_ints3_22 : Tryz.prog.cellsOf 39 = 3 := by kernel_rfl
set_option maxRecDepth 100000 in
theorem one_name {held : Bool} {m : Nat} {c0 c1 : Value} {d : DataW H × List MemPlace} (h : DataW.trod enc Tryz.prog w base (fun _ => true) held m 57 [c0, c1] = some d) : ∃ (G : ByteArray) (a : Int), G.size ≤ maxLen ∧ c0 = .string G ∧ c1 = .int .i64 a := by
  obtain ⟨xs, m', _, hxe, hlen, hxl, hxs⟩ := DataW.trod_struct Tryz.underlying57 h
  have t0 : DataW.trod enc Tryz.prog w base (fun _ => true) held m' 9 ((([c0, c1] : List Value).drop 0).take (Tryz.prog.cellsOf 9)) = xs[0]? := hxs 0 _ rfl
  have t1 : DataW.trod enc Tryz.prog w base (fun _ => true) held m' 3 ((([c0, c1] : List Value).drop 1).take (Tryz.prog.cellsOf 3)) = xs[1]? := hxs 1 _ rfl
  rw [cells_str22] at t0
  rw [cells_int22] at t1
  match xs, hxl with
  | [y0, y1], _ =>
    simp at t0 t1
    obtain ⟨z0, e0, _, q0⟩ := DataW.trod_string Tryz.underlying9 t0
    obtain ⟨z1, e1, _, _⟩ := DataW.trod_int Tryz.underlying3 t1
    simp at e0 e1
    subst e0 e1
    exact ⟨z0, z1, q0, rfl, rfl⟩
set_option maxRecDepth 100000 in
theorem open_name2 {v : Value} {d : DataW H} {p : List MemPlace} (h : DataW.Trod enc Tryz.prog w base (fun _ => true) true 58 v d p) (hv : ∃ cs, v = .agg cs) : ∃ (G0 G1 : ByteArray) (a0 a1 : Int), G0.size ≤ maxLen ∧ G1.size ≤ maxLen ∧ v = .agg #[.string G0, .int .i64 a0, .string G1, .int .i64 a1] := by
  obtain ⟨cs, rfl⟩ := hv
  obtain ⟨fuel, hf⟩ := h
  obtain ⟨xs, m', _, _, hlen, hxl, hxs⟩ := DataW.trod_array Tryz.underlying58 hf
  rw [cells_name2] at hlen
  obtain ⟨l⟩ := cs
  simp only [Value.cells] at hlen hxs
  match l, hlen with
  | [c0, c1, c2, c3], _ =>
    have t0 := hxs 0 (by omega)
    have t1 := hxs 1 (by omega)
    simp only [cells_name22] at t0 t1
    match xs, hxl with
    | [y0, y1], _ =>
      simp at t0 t1
      obtain ⟨G0, a0, q0, rfl, rfl⟩ := one_name t0
      obtain ⟨G1, a1, q1, rfl, rfl⟩ := one_name t1
      exact ⟨G0, G1, a0, a1, q0, q1, rfl⟩
set_option maxRecDepth 100000 in
theorem open_ints22 {v : Value} {d : DataW H} {p : List MemPlace} (h : DataW.Trod enc Tryz.prog w base (fun _ => true) true 39 v d p) (hv : ∃ cs, v = .agg cs) : ∃ z0 z1 z2 : Int, v = .agg #[.int .i64 z0, .int .i64 z1, .int .i64 z2] := by
  obtain ⟨cs, rfl⟩ := hv
  obtain ⟨fuel, hf⟩ := h
  obtain ⟨xs, m', _, _, hlen, hxl, hxs⟩ := DataW.trod_array Tryz.underlying39 hf
  rw [cells_ints3_22] at hlen
  obtain ⟨l⟩ := cs
  simp only [Value.cells] at hlen hxs
  match l, hlen with
  | [c0, c1, c2], _ =>
    have t0 := hxs 0 (by omega)
    have t1 := hxs 1 (by omega)
    have t2 := hxs 2 (by omega)
    simp only [cells_int22] at t0 t1 t2
    match xs, hxl with
    | [y0, y1, y2], _ =>
      simp at t0 t1 t2
      obtain ⟨z0, e0, _, _⟩ := DataW.trod_int Tryz.underlying3 t0
      obtain ⟨z1, e1, _, _⟩ := DataW.trod_int Tryz.underlying3 t1
      obtain ⟨z2, e2, _, _⟩ := DataW.trod_int Tryz.underlying3 t2
      simp at e0 e1 e2
      subst e0 e1 e2
      exact ⟨z0, z1, z2, rfl⟩
end
end Go.Proofs.YtbnecckgapainaaGreatDoor
