/- Part 30 of what the statement wants. -/
import Derived.Test.YtobhpclemmhpoaaGreatDoorRows
import Derived.ProofKit
import Derived.Below
import Derived.ChangeSame
import Derived.OpenShut
import Derived.WideKeyArgs
import Derived.Deep.Slices
import Derived.Deep.Strs
import Derived.Test.YtobhpclemmhpoaaGreatDoorPk19
import Derived.Test.YtobhpclemmhpoaaGreatDoorPk29
namespace Go.Proofs.YtobhpclemmhpoaaGreatDoor
open Go.RowKit

set_option maxHeartbeats 2000000 in
set_option maxRecDepth 100000 in
theorem TransHashes_long {w : World} {v : Value} {l : List MakeR} (hM : MakesAt w v l) (hlm : l.length ≤ maxLen) (hls : ∀ x ∈ l, x.s.length ≤ maxLen) (V0 V1 V2 V3 GP GG : ByteArray) (x0 x1 x2 x3 : Int) (asks : Bool) (a0 a1 a2 : Nat) (f g : Bool) (hf : fewP l 15 = f) (hg : few20B V0 V1 V2 V3 GP GG = g) (hr : (!f || !g) = true) :
    Calls Tryz.prog 3 #[v, .agg #[.string V0, .string V1, .string V2, .string V3, .int .i64 x0, .int .i64 x1, .int .i64 x2, .int .i64 x3, .bool asks, .int .u32 (a0 : Int), .int .u32 (a1 : Int), .int .u32 (a2 : Int), .string GP, .string GG]] w fun e w' => e = .returned (.bool true) ∧ Below w.heap.size w w' := by
  have b0 : Below w.heap.size w (w.alloc (.cells #[.string V0, .string V1, .string V2, .string V3, .int .i64 x0, .int .i64 x1, .int .i64 x2, .int .i64 x3, .bool asks, .int .u32 (a0 : Int), .int .u32 (a1 : Int), .int .u32 (a2 : Int), .string GP, .string GG] 30)) := (Below.refl _ _).alloc (Nat.le_refl _) _
  have hX : Holds (w.alloc (.cells #[.string V0, .string V1, .string V2, .string V3, .int .i64 x0, .int .i64 x1, .int .i64 x2, .int .i64 x3, .bool asks, .int .u32 (a0 : Int), .int .u32 (a1 : Int), .int .u32 (a2 : Int), .string GP, .string GG] 30)) w.heap.size 30 #[.string V0, .string V1, .string V2, .string V3, .int .i64 x0, .int .i64 x1, .int .i64 x2, .int .i64 x3, .bool asks, .int .u32 (a0 : Int), .int .u32 (a1 : Int), .int .u32 (a2 : Int), .string GP, .string GG] := Holds.new w _ _
  obtain ⟨W0, hW0⟩ : ∃ W0, Hid (W0 = w.alloc (.cells #[.string V0, .string V1, .string V2, .string V3, .int .i64 x0, .int .i64 x1, .int .i64 x2, .int .i64 x3, .bool asks, .int .u32 (a0 : Int), .int .u32 (a1 : Int), .int .u32 (a2 : Int), .string GP, .string GG] 30)) := ⟨_, Lib.hid rfl⟩
  rw [← hW0.out] at b0 hX
  have hM0 := makes_below20 hM b0
  have HFw := few_any hM0 15 hls hlm
  rw [hf] at HFw
  have HFw := Lib.hid HFw
  have hF2 := fun W => few20_any V0 V1 V2 V3 GP GG x0 x1 x2 x3 (a0 : Int) (a1 : Int) (a2 : Int) asks W
  rw [hg] at hF2
  have HF2 := Lib.hid hF2
  have HAw := Lib.hid awake20_any
  obtain ⟨ao0, cap0, rfl, _⟩ := id hM0
  have y0 := hX.cell 0
  have y1 := hX.cell 1
  have y2 := hX.cell 2
  have y3 := hX.cell 3
  have y4 := hX.cell 4
  have y5 := hX.cell 5
  have y6 := hX.cell 6
  have y7 := hX.cell 7
  have y8 := hX.cell 8
  have y9 := hX.cell 9
  have y10 := hX.cell 10
  have y11 := hX.cell 11
  have y12 := hX.cell 12
  have y13 := hX.cell 13
  have HB0 := Lib.hid b0
  have BR : Hid (Below W0.heap.size W0 W0) := Below.refl _ _
  clear hM hM0 hls hlm b0 hF2 hX hf hg
  cases f with
  | false =>
    go_enter Tryz.func3, Tryz.ntmps3
    go_wp2_with (first
      | (go_at_call 5; rw [← hW0.out]; (with_reducible refine HFw.out.mono ?_); rintro e w' ⟨rfl, hw⟩; have hw := hw.symm; subst hw)
      | (go_at_call 7; (with_reducible refine (HAw.out _).mono ?_); rintro e w1 ⟨rfl, b1⟩; have B1 := BR.out.trans (b1.mono BR.out.size)))
    go_ret
    exact ⟨rfl, HB0.out.trans (B1.mono HB0.out.size)⟩
  | true =>
  cases g with
  | false =>
    go_enter Tryz.func3, Tryz.ntmps3
    go_wp2_with (first
      | (go_at_call 5; rw [← hW0.out]; (with_reducible refine HFw.out.mono ?_); rintro e w' ⟨rfl, hw⟩; have hw := hw.symm; subst hw)
      | (go_at_call 6; (with_reducible refine (HF2.out _).mono ?_); rintro e w3 ⟨rfl, b3⟩)
      | (go_at_call 7; (with_reducible refine (HAw.out _).mono ?_); rintro e w1 ⟨rfl, b1⟩; have B1 := b3.trans (b1.mono b3.size)))
    go_ret
    exact ⟨rfl, HB0.out.trans (B1.mono HB0.out.size)⟩
  | true => simp at hr
theorem TransHashes_any {w : World} {v : Value} {l : List MakeR} (hM : MakesAt w v l) (hlm : l.length ≤ maxLen) (hls : ∀ x ∈ l, x.s.length ≤ maxLen) (V0 V1 V2 V3 GP GG : ByteArray) (x0 x1 x2 x3 : Int) (asks : Bool) (a0 a1 a2 : Nat) (h0 : a0 < 4294967296) (h1 : a1 < 4294967296) (h2 : a2 < 4294967296) :
    Calls Tryz.prog 3 #[v, .agg #[.string V0, .string V1, .string V2, .string V3, .int .i64 x0, .int .i64 x1, .int .i64 x2, .int .i64 x3, .bool asks, .int .u32 (a0 : Int), .int .u32 (a1 : Int), .int .u32 (a2 : Int), .string GP, .string GG]] w fun e w' => e = .returned (.bool true) ∧ Below w.heap.size w w' := by
  by_cases h : fewP l 15 = true ∧ few20B V0 V1 V2 V3 GP GG = true
  · obtain ⟨h3, h4⟩ := h
    obtain ⟨h5, h6⟩ := of_decide_eq_true h3
    obtain ⟨g0, g1, g2, g3, g4, g5⟩ := of_decide_eq_true h4
    have := TransHashes_small hM (by omega) h6 V0.data.toList V1.data.toList V2.data.toList V3.data.toList GP.data.toList GG.data.toList ⟨by rw [Array.length_toList]; exact g0, by rw [Array.length_toList]; exact g1, by rw [Array.length_toList]; exact g2, by rw [Array.length_toList]; exact g3⟩ (by rw [Array.length_toList]; exact g4) (by rw [Array.length_toList]; exact g5) x0 x1 x2 x3 asks a0 a1 a2 h0 h1 h2
    rwa [bs_list, bs_list, bs_list, bs_list, bs_list, bs_list] at this
  · refine TransHashes_long hM hlm hls V0 V1 V2 V3 GP GG x0 x1 x2 x3 asks a0 a1 a2 _ _ rfl rfl ?_
    rw [← Bool.not_eq_false]
    intro hn
    simp only [Bool.or_eq_false_iff, Bool.not_eq_false'] at hn
    exact h hn
end Go.Proofs.YtobhpclemmhpoaaGreatDoor

namespace Go.Proofs.YtobhpclemmhpoaaGreatDoor
open Go.RowKit Go.WideShapes Go.ChangeShapes
theorem ownKnobOf : ownKnob Tryz.prog.godebug = none := by kernel_rfl
section
variable {H : Type} {enc : TypeId × Value → H} {P : Program}
theorem post_of_below {f : Func} {s : ChangeSpec} {apart fresh handsOn again : Bool} {W W' : World} {args : Array Value} {v : Value} {ds gs : List (DataW H)} {before pa pv : List MemPlace}
    (hW : DataW.Whole enc P f.params.toList s.vars apart W args.toList ds gs before)
    (hres : ∀ (b : Nat) (sp : Nat → Bool) (hd : Bool), DataW.TrodAll enc P W' b sp hd f.resultTypes.toList (v.resultList f.resultTypes.size) (s.fn H (ds ++ gs)).results [])
    (hargs : ∀ sp : Nat → Bool, (∀ p ∈ before, sp p.block = true) → DataW.TrodAll enc P W' 0 sp true f.params.toList args.toList (s.fn H (ds ++ gs)).args pa)
    (hvars : ∀ sp : Nat → Bool, (∀ p ∈ before, sp p.block = true) → DataW.TrodVars enc P W' sp s.vars (s.fn H (ds ++ gs)).vars pv)
    (hps : before = pa ++ pv) (hb : Below W.heap.size W W')
    (hok : ∀ (j : Nat) (t : TypeId) (r : Value), f.resultTypes[j]? = some t → (v.resultList f.resultTypes.size)[j]? = some r → Value.okWide P W' .any 0 t r) :
    s.post enc P f apart fresh handsOn again W args v W' := by
  have hlt : ∀ p ∈ before, p.block < W.heap.size := fun p hp => hW.lt p hp
  have hold : ∀ p ∈ before, (fun b => decide (b < W.heap.size)) p.block = true := fun p hp => by simpa using hlt p hp
  refine ⟨ds, gs, before, [], pa, pv, hW, hres _ _ _, hargs _ hold, hvars _ hold, World.keptBut_mono (fun p hp => ⟨hp, ?_⟩) (hb.frame (· ∈ before)), fun _ => ?_⟩
  · rw [hps, List.mem_append] at hp
    exact Or.inr hp
  · obtain ⟨_, _, _, _, _, hz, hn⟩ := hW
    refine ⟨hok, _, _, ([] ++ pa) ++ pv, ⟨[] ++ pa, pv, trodAll_append (hargs _ (fun _ _ => rfl)) (hres _ _ _), hvars _ (fun _ _ => rfl), rfl, ?_, ?_⟩, ?_⟩
    · intro b off hp
      have hin : MemPlace.cell b off ∈ before := by rw [hps]; simpa using hp
      rw [hb.frozen (hlt _ hin)]
      exact hz b off hin
    · intro ha
      have := hn ha
      rw [hps] at this
      simpa using this
    · intro p hp _
      rw [hps]
      simpa using hp
end
end Go.Proofs.YtobhpclemmhpoaaGreatDoor

namespace Go.Proofs.YtobhpclemmhpoaaGreatDoor
open Go.RowKit Go.WideShapes Go.ChangeShapes Go.Deep
theorem laidAll : laidOutB Tryz.prog = true := by kernel_rfl
section
variable {H : Type} {enc : TypeId × Value → H} {P : Program}
theorem trodAll_stays (hl : laidOutB P = true) {W W' : World} (hb : Below W.heap.size W W') : ∀ {ts : List TypeId} {vs : List Value} {ds : List (DataW H)} {ps : List MemPlace}, (∀ t ∈ ts, P.readableRec t = true ∧ t < P.types.size) →
    DataW.TrodAll enc P W 0 (fun _ => true) true ts vs ds ps → (∀ x ∈ ps, x.block < W.heap.size) → ∀ sp : Nat → Bool, (∀ x ∈ ps, sp x.block = true) → DataW.TrodAll enc P W' 0 sp true ts vs ds ps
  | [], [], [], ps, _, h, _, _, _ => h
  | t :: ts, v :: vs, d :: ds, ps, hr, h, hlt, sp, hsp => by
    obtain ⟨p, q, h1, h2, rfl⟩ := h
    exact ⟨p, q, WideElems.Trod_stays hl (hr t (by simp)).1 (hr t (by simp)).2 h1 (fun x hx => hb.same (hlt x (by simp [hx]))) (fun x hx => hsp x (by simp [hx])),
      trodAll_stays hl hb (fun u hu => hr u (by simp [hu])) h2 (fun x hx => hlt x (by simp [hx])) sp (fun x hx => hsp x (by simp [hx])), rfl⟩
  | [], _ :: _, _, _, _, h, _, _, _ => by cases h
  | [], [], _ :: _, _, _, h, _, _, _ => by cases h
  | _ :: _, [], _, _, _, h, _, _, _ => by cases h
  | _ :: _, _ :: _, [], _, _, h, _, _, _ => by cases h
end
end Go.Proofs.YtobhpclemmhpoaaGreatDoor

namespace Go.Proofs.YtobhpclemmhpoaaGreatDoor
open Go.RowKit Go.WideShapes Go.ChangeShapes Go.Deep

set_option maxRecDepth 100000 in
theorem cells_int20 : Tryz.prog.cellsOf 3 = 1 := by kernel_rfl
set_option maxRecDepth 100000 in
theorem cells_str20 : Tryz.prog.cellsOf 9 = 1 := by kernel_rfl
set_option maxRecDepth 100000 in
theorem cells_bool20 : Tryz.prog.cellsOf 4 = 1 := by kernel_rfl
set_option maxRecDepth 100000 in
theorem cells_u32_20 : Tryz.prog.cellsOf 25 = 1 := by kernel_rfl
set_option maxRecDepth 100000 in
theorem cells_strs4_20 : Tryz.prog.cellsOf 23 = 4 := by kernel_rfl
set_option maxRecDepth 100000 in
theorem cells_ints4_20 : Tryz.prog.cellsOf 24 = 4 := by kernel_rfl
set_option maxRecDepth 100000 in
theorem cells_u32s3_20 : Tryz.prog.cellsOf 26 = 3 := by kernel_rfl
set_option maxRecDepth 100000 in
theorem cells_group20 : Tryz.prog.cellsOf 28 = 2 := by kernel_rfl
set_option maxRecDepth 100000 in
theorem cells_raw20 : Tryz.prog.cellsOf 30 = 14 := by kernel_rfl
section
variable {H : Type} {enc : TypeId × Value → H} {w : World} {base : Nat}
set_option maxRecDepth 100000 in
theorem strs4_20 {held : Bool} {m : Nat} {c0 c1 c2 c3 : Value} {d : DataW H × List MemPlace} (h : DataW.trod enc Tryz.prog w base (fun _ => true) held m 23 [c0, c1, c2, c3] = some d) : ∃ (z0 z1 z2 z3 : ByteArray), z0.size ≤ maxLen ∧ z1.size ≤ maxLen ∧ z2.size ≤ maxLen ∧ z3.size ≤ maxLen ∧ c0 = .string z0 ∧ c1 = .string z1 ∧ c2 = .string z2 ∧ c3 = .string z3 := by
  obtain ⟨xs, m', _, _, hlen, hxl, hxs⟩ := DataW.trod_array Tryz.underlying23 h
  have t0 := hxs 0 (by omega)
  have t1 := hxs 1 (by omega)
  have t2 := hxs 2 (by omega)
  have t3 := hxs 3 (by omega)
  simp only [cells_str20] at t0 t1 t2 t3
  match xs, hxl with
  | [y0, y1, y2, y3], _ =>
    simp at t0 t1 t2 t3
    obtain ⟨z0, e0, _, q0⟩ := DataW.trod_string Tryz.underlying9 t0
    obtain ⟨z1, e1, _, q1⟩ := DataW.trod_string Tryz.underlying9 t1
    obtain ⟨z2, e2, _, q2⟩ := DataW.trod_string Tryz.underlying9 t2
    obtain ⟨z3, e3, _, q3⟩ := DataW.trod_string Tryz.underlying9 t3
    simp at e0 e1 e2 e3
    subst e0 e1 e2 e3
    exact ⟨z0, z1, z2, z3, q0, q1, q2, q3, rfl, rfl, rfl, rfl⟩
set_option maxRecDepth 100000 in
theorem ints4_20 {held : Bool} {m : Nat} {c0 c1 c2 c3 : Value} {d : DataW H × List MemPlace} (h : DataW.trod enc Tryz.prog w base (fun _ => true) held m 24 [c0, c1, c2, c3] = some d) : ∃ (z0 z1 z2 z3 : Int), c0 = .int .i64 z0 ∧ c1 = .int .i64 z1 ∧ c2 = .int .i64 z2 ∧ c3 = .int .i64 z3 := by
  obtain ⟨xs, m', _, _, hlen, hxl, hxs⟩ := DataW.trod_array Tryz.underlying24 h
  have t0 := hxs 0 (by omega)
  have t1 := hxs 1 (by omega)
  have t2 := hxs 2 (by omega)
  have t3 := hxs 3 (by omega)
  simp only [cells_int20] at t0 t1 t2 t3
  match xs, hxl with
  | [y0, y1, y2, y3], _ =>
    simp at t0 t1 t2 t3
    obtain ⟨z0, e0, _, _⟩ := DataW.trod_int Tryz.underlying3 t0
    obtain ⟨z1, e1, _, _⟩ := DataW.trod_int Tryz.underlying3 t1
    obtain ⟨z2, e2, _, _⟩ := DataW.trod_int Tryz.underlying3 t2
    obtain ⟨z3, e3, _, _⟩ := DataW.trod_int Tryz.underlying3 t3
    simp at e0 e1 e2 e3
    subst e0 e1 e2 e3
    exact ⟨z0, z1, z2, z3, rfl, rfl, rfl, rfl⟩
set_option maxRecDepth 100000 in
theorem u32s3_20 {held : Bool} {m : Nat} {c0 c1 c2 : Value} {d : DataW H × List MemPlace} (h : DataW.trod enc Tryz.prog w base (fun _ => true) held m 26 [c0, c1, c2] = some d) : ∃ (z0 z1 z2 : Nat), z0 < 4294967296 ∧ z1 < 4294967296 ∧ z2 < 4294967296 ∧ c0 = .int .u32 (z0 : Int) ∧ c1 = .int .u32 (z1 : Int) ∧ c2 = .int .u32 (z2 : Int) := by
  obtain ⟨xs, m', _, _, hlen, hxl, hxs⟩ := DataW.trod_array Tryz.underlying26 h
  have t0 := hxs 0 (by omega)
  have t1 := hxs 1 (by omega)
  have t2 := hxs 2 (by omega)
  simp only [cells_u32_20] at t0 t1 t2
  match xs, hxl with
  | [y0, y1, y2], _ =>
    simp at t0 t1 t2
    obtain ⟨w0, e0, _, g0⟩ := DataW.trod_int Tryz.underlying25 t0
    obtain ⟨w1, e1, _, g1⟩ := DataW.trod_int Tryz.underlying25 t1
    obtain ⟨w2, e2, _, g2⟩ := DataW.trod_int Tryz.underlying25 t2
    simp at e0 e1 e2
    have b0 := bounds_u32 g0
    obtain ⟨z0, rfl⟩ : ∃ n : Nat, w0 = n := ⟨w0.toNat, by omega⟩
    have b1 := bounds_u32 g1
    obtain ⟨z1, rfl⟩ : ∃ n : Nat, w1 = n := ⟨w1.toNat, by omega⟩
    have b2 := bounds_u32 g2
    obtain ⟨z2, rfl⟩ : ∃ n : Nat, w2 = n := ⟨w2.toNat, by omega⟩
    subst e0 e1 e2
    exact ⟨z0, z1, z2, by omega, by omega, by omega, rfl, rfl, rfl⟩
set_option maxRecDepth 100000 in
theorem group20 {held : Bool} {m : Nat} {c0 c1 : Value} {d : DataW H × List MemPlace} (h : DataW.trod enc Tryz.prog w base (fun _ => true) held m 28 [c0, c1] = some d) : ∃ (z0 z1 : ByteArray), z0.size ≤ maxLen ∧ z1.size ≤ maxLen ∧ c0 = .string z0 ∧ c1 = .string z1 := by
  obtain ⟨xs, m', _, hxe, hlen, hxl, hxs⟩ := DataW.trod_struct Tryz.underlying28 h
  have t0 : DataW.trod enc Tryz.prog w base (fun _ => true) held m' 9 ((([c0, c1] : List Value).drop 0).take (Tryz.prog.cellsOf 9)) = xs[0]? := hxs 0 _ rfl
  have t1 : DataW.trod enc Tryz.prog w base (fun _ => true) held m' 9 ((([c0, c1] : List Value).drop 1).take (Tryz.prog.cellsOf 9)) = xs[1]? := hxs 1 _ rfl
  rw [cells_str20] at t0 t1
  match xs, hxl with
  | [y0, y1], _ =>
    simp at t0 t1
    obtain ⟨z0, e0, _, q0⟩ := DataW.trod_string Tryz.underlying9 t0
    obtain ⟨z1, e1, _, q1⟩ := DataW.trod_string Tryz.underlying9 t1
    simp at e0 e1
    subst e0 e1
    exact ⟨z0, z1, q0, q1, rfl, rfl⟩
set_option maxRecDepth 100000 in
theorem open_raw20 {v : Value} {d : DataW H} {p : List MemPlace} {b0 : Nat} (hv : Value.okWide Tryz.prog w .any b0 30 v) (h : DataW.Trod enc Tryz.prog w base (fun _ => true) true 30 v d p) :
    ∃ (V0 V1 V2 V3 GP GG : ByteArray) (x0 x1 x2 x3 : Int) (asks : Bool) (a0 a1 a2 : Nat), (V0.size ≤ maxLen ∧ V1.size ≤ maxLen ∧ V2.size ≤ maxLen ∧ V3.size ≤ maxLen) ∧ (a0 < 4294967296 ∧ a1 < 4294967296 ∧ a2 < 4294967296) ∧ (GP.size ≤ maxLen ∧ GG.size ≤ maxLen) ∧ v = .agg #[.string V0, .string V1, .string V2, .string V3, .int .i64 x0, .int .i64 x1, .int .i64 x2, .int .i64 x3, .bool asks, .int .u32 (a0 : Int), .int .u32 (a1 : Int), .int .u32 (a2 : Int), .string GP, .string GG] := by
  obtain ⟨cs, rfl, hcs⟩ := okWide_struct Tryz.underlying30 hv
  obtain ⟨fuel, hf⟩ := h
  obtain ⟨xs, m', _, hxe, hlen, hxl, hxs⟩ := DataW.trod_struct Tryz.underlying30 hf
  rw [cells_raw20] at hlen
  obtain ⟨l⟩ := cs
  simp only [Value.cells] at hlen hxs
  match l, hlen with
  | [c0, c1, c2, c3, c4, c5, c6, c7, c8, c9, c10, c11, c12, c13], _ =>
    have t0 : DataW.trod enc Tryz.prog w base _ _ m' 23 ((([c0, c1, c2, c3, c4, c5, c6, c7, c8, c9, c10, c11, c12, c13] : List Value).drop 0).take (Tryz.prog.cellsOf 23)) = xs[0]? := hxs 0 _ rfl
    have t1 : DataW.trod enc Tryz.prog w base _ _ m' 24 ((([c0, c1, c2, c3, c4, c5, c6, c7, c8, c9, c10, c11, c12, c13] : List Value).drop 4).take (Tryz.prog.cellsOf 24)) = xs[1]? := hxs 1 _ rfl
    have t2 : DataW.trod enc Tryz.prog w base _ _ m' 4 ((([c0, c1, c2, c3, c4, c5, c6, c7, c8, c9, c10, c11, c12, c13] : List Value).drop 8).take (Tryz.prog.cellsOf 4)) = xs[2]? := hxs 2 _ rfl
    have t3 : DataW.trod enc Tryz.prog w base _ _ m' 26 ((([c0, c1, c2, c3, c4, c5, c6, c7, c8, c9, c10, c11, c12, c13] : List Value).drop 9).take (Tryz.prog.cellsOf 26)) = xs[3]? := hxs 3 _ rfl
    have t4 : DataW.trod enc Tryz.prog w base _ _ m' 28 ((([c0, c1, c2, c3, c4, c5, c6, c7, c8, c9, c10, c11, c12, c13] : List Value).drop 12).take (Tryz.prog.cellsOf 28)) = xs[4]? := hxs 4 _ rfl
    rw [cells_strs4_20] at t0
    rw [cells_ints4_20] at t1
    rw [cells_bool20] at t2
    rw [cells_u32s3_20] at t3
    rw [cells_group20] at t4
    match xs, hxl with
    | [y0, y1, y2, y3, y4], _ =>
      simp at t0 t1 t2 t3 t4
      obtain ⟨V0, V1, V2, V3, q0, q1, q2, q3, rfl, rfl, rfl, rfl⟩ := strs4_20 t0
      obtain ⟨x0, x1, x2, x3, rfl, rfl, rfl, rfl⟩ := ints4_20 t1
      obtain ⟨asks, e2, _⟩ := DataW.trod_bool Tryz.underlying4 t2
      simp at e2
      subst e2
      obtain ⟨a0, a1, a2, g0, g1, g2, rfl, rfl, rfl⟩ := u32s3_20 t3
      obtain ⟨GP, GG, q4, q5, rfl, rfl⟩ := group20 t4
      exact ⟨V0, V1, V2, V3, GP, GG, x0, x1, x2, x3, asks, a0, a1, a2, ⟨q0, q1, q2, q3⟩, ⟨g0, g1, g2⟩, ⟨q4, q5⟩, rfl⟩
end
end Go.Proofs.YtobhpclemmhpoaaGreatDoor

namespace Go.Proofs.YtobhpclemmhpoaaGreatDoor
open Go.RowKit Go.WideShapes Go.ChangeShapes Go.Deep
section
variable {H : Type} {enc : TypeId × Value → H} {w : World} {base : Nat} {spare : Nat → Bool} {held : Bool}
set_option maxRecDepth 100000 in
theorem cellsInt1 : Tryz.prog.cellsOf 3 = 1 := by kernel_rfl
set_option maxRecDepth 100000 in
theorem cellsMake : Tryz.prog.cellsOf 57 = 5 := by kernel_rfl
set_option maxRecDepth 100000 in
theorem cellsStrM : Tryz.prog.cellsOf 9 = 1 := by kernel_rfl

set_option maxRecDepth 100000 in
theorem open_makes {v : Value} {d : DataW H} {p : List MemPlace} {b0 : Nat} (hv : Value.okWide Tryz.prog w .any b0 22 v) (h : DataW.Trod enc Tryz.prog w base (fun _ => true) true 22 v d p) :
    ∃ l : List MakeR, MakesAt w v l ∧ l.length ≤ maxLen ∧ ∀ x ∈ l, x.s.length ≤ maxLen := by
  obtain ⟨ao, n, c, rfl⟩ := okWide_slice Tryz.underlying22 hv
  obtain ⟨fuel, hf⟩ := h
  rcases open_slice Tryz.underlying22 (by simpa [Value.cells] using hf) with ⟨h1, _⟩ | ⟨a, len, cap, m, k, D, Pl, h1, hb, hl, hc, hm, hx, hi⟩
  · simp only [List.cons.injEq, and_true] at h1
    rw [h1]
    exact ⟨[], ⟨none, 0, rfl, fun h => absurd rfl h⟩, by simp, by simp⟩
  · simp only [List.cons.injEq, and_true] at h1
    have hmc : m = cap := by simpa using hm
    have each : ∀ i, i < len → ∃ q : MakeR, (w.cell? (a.add (i * 5)) = some (.int .i64 q.kind) ∧ w.cell? (a.add (i * 5 + 1)) = some (.int .i64 q.a) ∧ w.cell? (a.add (i * 5 + 2)) = some (.int .i64 q.b) ∧ w.cell? (a.add (i * 5 + 3)) = some (.int .i64 q.c) ∧ w.cell? (a.add (i * 5 + 4)) = some (.string (bs q.s))) ∧ q.s.length ≤ maxLen := by
      intro i hil
      obtain ⟨cs', hcs, ht⟩ := hi i (by omega)
      rw [cellsMake] at hcs
      obtain ⟨hb2, hlen, hat⟩ := World.cells?_some hcs
      obtain ⟨xs, m', _, _, _, hxl, hxs⟩ := DataW.trod_struct Tryz.underlying57 ht
      match cs', hlen with
      | [c0, c1, c2, c3, c4], _ =>
        have t0 : DataW.trod enc Tryz.prog w base _ _ m' 3 ((([c0, c1, c2, c3, c4] : List Value).drop 0).take (Tryz.prog.cellsOf 3)) = xs[0]? := hxs 0 _ rfl
        have t1 : DataW.trod enc Tryz.prog w base _ _ m' 3 ((([c0, c1, c2, c3, c4] : List Value).drop 1).take (Tryz.prog.cellsOf 3)) = xs[1]? := hxs 1 _ rfl
        have t2 : DataW.trod enc Tryz.prog w base _ _ m' 3 ((([c0, c1, c2, c3, c4] : List Value).drop 2).take (Tryz.prog.cellsOf 3)) = xs[2]? := hxs 2 _ rfl
        have t3 : DataW.trod enc Tryz.prog w base _ _ m' 3 ((([c0, c1, c2, c3, c4] : List Value).drop 3).take (Tryz.prog.cellsOf 3)) = xs[3]? := hxs 3 _ rfl
        have t4 : DataW.trod enc Tryz.prog w base _ _ m' 9 ((([c0, c1, c2, c3, c4] : List Value).drop 4).take (Tryz.prog.cellsOf 9)) = xs[4]? := hxs 4 _ rfl
        simp only [cellsInt1, cellsStrM] at t0 t1 t2 t3 t4
        match xs, hxl with
        | [y0, y1, y2, y3, y4], _ =>
          simp at t0 t1 t2 t3 t4
          obtain ⟨z0, e0, _, _⟩ := DataW.trod_int Tryz.underlying3 t0
          obtain ⟨z1, e1, _, _⟩ := DataW.trod_int Tryz.underlying3 t1
          obtain ⟨z2, e2, _, _⟩ := DataW.trod_int Tryz.underlying3 t2
          obtain ⟨z3, e3, _, _⟩ := DataW.trod_int Tryz.underlying3 t3
          obtain ⟨z4, e4, _, hz⟩ := DataW.trod_string Tryz.underlying9 t4
          simp at e0 e1 e2 e3 e4
          subst e0 e1 e2 e3 e4
          have a0 := hat 0 (by omega)
          have a1 := hat 1 (by omega)
          have a2 := hat 2 (by omega)
          have a3 := hat 3 (by omega)
          have a4 := hat 4 (by omega)
          simp only [Go.Deep.add_add, Nat.add_zero] at a0 a1 a2 a3 a4
          exact ⟨⟨z0, z1, z2, z3, z4.data.toList⟩, ⟨by simpa using a0, by simpa using a1, by simpa using a2, by simpa using a3, by rw [bs_list]; simpa using a4⟩, by simpa using hz⟩
    rcases Nat.eq_zero_or_pos len with h0 | h0
    · subst h0
      rw [h1]
      exact ⟨[], ⟨some a, cap, rfl, fun h => absurd rfl h⟩, by simp, by simp⟩
    · haveI : Inhabited MakeR := ⟨⟨0, 0, 0, 0, []⟩⟩
      obtain ⟨q, hq⟩ := choose_lt each
      obtain ⟨b, off, spot⟩ := a
      have hspot : spot = none := by simpa [Addr.add] using World.cell?_spot (hq 0 h0).1.1
      subst hspot
      have hblk := World.block_lt_of_cell? w _ (hq 0 h0).1.1
      simp only [Addr.add_lit] at hq hblk
      refine ⟨(List.range len).map q, ⟨some ⟨b, off, none⟩, cap, by rw [h1]; simp, fun _ => ⟨b, off, rfl, hblk, fun k pr hk => ?_⟩⟩, by simp; omega, fun x hx => ?_⟩
      · rw [List.getElem?_map] at hk
        by_cases hkl : k < len
        · rw [List.getElem?_range hkl] at hk
          simp at hk
          subst hk
          have := (hq k hkl).1
          simp only [← Nat.add_assoc] at this
          exact this
        · rw [List.getElem?_eq_none (by simpa using hkl)] at hk
          simp at hk
      · obtain ⟨k, hk, rfl⟩ := List.mem_map.1 hx
        exact (hq k (by simpa using hk)).2
end
end Go.Proofs.YtobhpclemmhpoaaGreatDoor
