/- Layer 18: the law GexNames. -/
import Derived.Test.YtihkhcocfhbekaaDoorGx7
import Derived.Deep.RegionHeld3
namespace Go.Proofs.YtihkhcocfhbekaaDoor
open Go.RowKit

def curveS : ByteArray := ⟨#[99, 117, 114, 118, 101, 50, 53, 53, 49, 57]⟩
def nistS : ByteArray := ⟨#[110, 105, 115, 116, 112, 50, 53, 54]⟩
def curveP (m : Int) : ByteArray × Bool := if m = 1 then (curveS, true) else if m = 2 then (nistS, true) else (⟨#[]⟩, false)
set_option maxRecDepth 100000 in
theorem gxCurve_any (m : Int) (w : World) : Calls Tryd.prog 38 #[.int .i64 m] w fun e w' => e = .returned (.tuple #[.string (curveP m).1, .bool (curveP m).2]) ∧ w' = w := by
  unfold curveP
  by_cases h1 : m = 1
  · subst h1
    go_enter Tryd.func38, Tryd.ntmps38
    go_wp2_with fail
    go_ret2
    exact ⟨rfl, rfl⟩
  · rw [if_neg h1]
    have q1 : (m == 1) = false := by rw [beq_eq_false_iff_ne]; exact h1
    by_cases h2 : m = 2
    · subst h2
      go_enter Tryd.func38, Tryd.ntmps38
      go_wp2_with fail
      go_ret2
      exact ⟨rfl, rfl⟩
    · rw [if_neg h2]
      have q2 : (m == 2) = false := by rw [beq_eq_false_iff_ne]; exact h2
      clear h1 h2
      go_enter Tryd.func38, Tryd.ntmps38
      go_wp2_with fail
      go_ret2
      exact ⟨rfl, rfl⟩

theorem bs_beq (a b : List UInt8) : ((bs a).toList == (bs b).toList) = decide (a = b) := by
  rw [ByteArray.toList_eq, ByteArray.toList_eq]
  show (a.toArray.toList == b.toArray.toList) = _
  rw [List.toList_toArray, List.toList_toArray, Bool.eq_iff_iff, beq_iff_eq, decide_eq_true_iff]
theorem nameL_inj {p g p' g' : List UInt8} (h1 : p.length < 4294967296) (h2 : p'.length < 4294967296) : nameL p g = nameL p' g' ↔ p = p' ∧ g = g' := by
  constructor
  · intro h
    unfold nameL at h
    rw [List.append_assoc, List.append_assoc, List.append_assoc, List.append_assoc] at h
    have h := List.append_cancel_left h
    obtain ⟨e1, e2⟩ := List.append_inj h (by simp [pack4])
    have hl := pack4_inj h1 h2 e1
    obtain ⟨e3, e4⟩ := List.append_inj e2 hl
    exact ⟨e3, e4⟩
  · rintro ⟨rfl, rfl⟩
    rfl

set_option maxHeartbeats 2000000 in
set_option maxRecDepth 100000 in
theorem GexNames_small {w : World} (hS : Siz w) (p g p' g' : List UInt8) (h1 : p.length ≤ 500) (h2 : g.length ≤ 500) (h3 : p'.length ≤ 500) (h4 : g'.length ≤ 500) :
    Calls Tryd.prog 9 #[.agg #[.string (bs p), .string (bs g)], .agg #[.string (bs p'), .string (bs g')]] w fun e w' => e = .returned (.bool true) ∧ Below w.heap.size w w' := by
  have hs1 := bs_size p
  have hs2 := bs_size g
  have hs3 := bs_size p'
  have hs4 := bs_size g'
  have HAw : Hid (∀ W, Below w.heap.size w W → Calls Tryd.prog 29 #[] W fun e w' => e = .returned (.bool true) ∧ Below W.heap.size W w') := fun W hb => awake18_any (hS.below hb)
  have HN1 : Hid (∀ W : World, Calls Tryd.prog 34 #[.agg #[.string (bs p), .string (bs g)]] W fun e w' => e = .returned (.tuple #[.string (bs (nameL p g)), .int .i64 0]) ∧ Below W.heap.size W w') := fun W => (gxName_any p g (by omega) (by omega) W).mono fun e w' h => ⟨h.1 (by omega), h.2.2⟩
  have HN2 : Hid (∀ W : World, Calls Tryd.prog 34 #[.agg #[.string (bs p'), .string (bs g')]] W fun e w' => e = .returned (.tuple #[.string (bs (nameL p' g')), .int .i64 0]) ∧ Below W.heap.size W w') := fun W => (gxName_any p' g' (by omega) (by omega) W).mono fun e w' h => ⟨h.1 (by omega), h.2.2⟩
  have HC1 : Hid (∀ W : World, Calls Tryd.prog 38 #[.int .i64 1] W fun e w' => e = .returned (.tuple #[.string curveS, .bool true]) ∧ w' = W) := gxCurve_any 1
  have HC2 : Hid (∀ W : World, Calls Tryd.prog 38 #[.int .i64 2] W fun e w' => e = .returned (.tuple #[.string nistS, .bool true]) ∧ w' = W) := gxCurve_any 2
  obtain ⟨x, hx⟩ : ∃ x, x = decide (p = p') := ⟨_, rfl⟩
  obtain ⟨y, hy⟩ : ∃ y, y = decide (g = g') := ⟨_, rfl⟩
  have e1 := bs_beq p p'
  have e2 := bs_beq g g'
  have e3 := bs_beq (nameL p g) (nameL p' g')
  rw [show decide (nameL p g = nameL p' g') = (x && y) by rw [hx, hy, Bool.eq_iff_iff]; simp [nameL_inj (p := p) (g := g) (p' := p') (g' := g') (by omega) (by omega)]] at e3
  rw [← hx] at e1
  rw [← hy] at e2
  have e4 : ((bs (nameL p g)).toList == curveS.toList) = false := by
    rw [show curveS = bs [99, 117, 114, 118, 101, 50, 53, 53, 49, 57] from rfl, bs_beq]
    simp [nameL]
  have e5 : ((bs (nameL p g)).toList == nistS.toList) = false := by
    rw [show nistS = bs [110, 105, 115, 116, 112, 50, 53, 54] from rfl, bs_beq]
    simp [nameL]
  have e6 : (bs (nameL p g)).size = 8 + p.length + g.length := by rw [bs_size, nameL_len]
  have q6 : decide (((bs (nameL p g)).size : Int) ≥ 8) = true := decide_eq_true (by omega)
  obtain ⟨W0, hW0⟩ : ∃ W0, W0 = (w.alloc (.cells #[.string (bs p), .string (bs g)] 51)).alloc (.cells #[.string (bs p'), .string (bs g')] 51) := ⟨_, rfl⟩
  have hn1 : (w.alloc (.cells #[.string (bs p), .string (bs g)] 51)).heap.size = w.heap.size + 1 := World.size_alloc _ _
  have hr0 : Holds W0 w.heap.size 51 #[.string (bs p), .string (bs g)] := by
    rw [hW0]
    exact (Holds.new w 51 #[.string (bs p), .string (bs g)]).moves ((Moves.refl nobody _).alloc _) (fun h => h)
  have hr1 : Holds W0 (w.heap.size + 1) 51 #[.string (bs p'), .string (bs g')] := by
    have := Holds.new (w.alloc (.cells #[.string (bs p), .string (bs g)] 51)) 51 #[.string (bs p'), .string (bs g')]
    rw [hn1] at this
    rw [hW0]
    exact this
  have hb0 : Below w.heap.size w W0 := by rw [hW0]; exact ((Below.refl _ _).alloc (Nat.le_refl _) _).alloc (by rw [hn1]; omega) _
  have HX : Hid (∀ W, Below W0.heap.size W0 W → W.cell? ⟨w.heap.size, 0, none⟩ = some (.string (bs p)) ∧ W.cell? ⟨w.heap.size, 1, none⟩ = some (.string (bs g)) ∧ W.cell? ⟨w.heap.size + 1, 0, none⟩ = some (.string (bs p')) ∧ W.cell? ⟨w.heap.size + 1, 1, none⟩ = some (.string (bs g'))) := fun W hb => by
    have h0 := hr0.moves (Moves.ofBelow (S := nobody) hb) (fun h => h)
    have h1 := hr1.moves (Moves.ofBelow (S := nobody) hb) (fun h => h)
    exact ⟨(h0.cell 0).trans rfl, (h0.cell 1).trans rfl, (h1.cell 0).trans rfl, (h1.cell 1).trans rfl⟩
  have HB0 := Lib.hid hb0
  have HW0 := Lib.hid hW0.symm
  have BR : Hid (Below W0.heap.size W0 W0) := Below.refl _ _
  have u1 : decide (((bs p).size : Int) > 500) = false := decide_eq_false (by omega)
  have u2 : decide (((bs g).size : Int) > 500) = false := decide_eq_false (by omega)
  have u3 : decide (((bs p').size : Int) > 500) = false := decide_eq_false (by omega)
  have u4 : decide (((bs g').size : Int) > 500) = false := decide_eq_false (by omega)
  have hb1 : (bs p).size ≤ 500 := by omega
  have hb2 : (bs g).size ≤ 500 := by omega
  have hb3 : (bs p').size ≤ 500 := by omega
  have hb4 : (bs g').size ≤ 500 := by omega
  have eq4 : (x && y) == (x && y) := by simp
  clear hx hy hS hW0 hn1 hr0 hr1 hb0 e6 h1 h2 h3 h4 hs1 hs2 hs3 hs4
  generalize bs (nameL p g) = S at *
  generalize bs (nameL p' g') = T at *
  generalize curveS = CS at *
  generalize nistS = NS at *
  generalize bs p = P at *
  generalize bs g = G at *
  generalize bs p' = P' at *
  generalize bs g' = G' at *
  go_enter Tryd.func9, Tryd.ntmps9
  go_wp2_with (first
    | (go_at_call 34; rw [HW0.out]; (with_reducible refine (HN1.out _).mono ?_); rintro e w1 ⟨rfl, b1⟩; have B1 := Lib.hid (BR.out.trans (b1.mono BR.out.size)); obtain ⟨k0, k1, k2, k3⟩ := HX.out _ B1.out; clear b1)
    | (go_at_call 34; (with_reducible refine (HN2.out _).mono ?_); rintro e w2 ⟨rfl, b2⟩; have B2 := Lib.hid (B1.out.trans (b2.mono B1.out.size)); obtain ⟨m0, m1, m2, m3⟩ := HX.out _ B2.out; clear b2)
    | (go_at_call 38; (with_reducible refine (HC1.out _).mono ?_); rintro e w3 ⟨rfl, rfl⟩)
    | (go_at_call 38; (with_reducible refine (HC2.out _).mono ?_); rintro e w4 ⟨rfl, rfl⟩)
    | (go_at_call 29; (with_reducible refine (HAw.out _ (HB0.out.trans (B2.out.mono HB0.out.size))).mono ?_); rintro e w5 ⟨rfl, b5⟩; have B5 := Lib.hid (B2.out.trans (b5.mono B2.out.size)); obtain ⟨n0, n1, n2, n3⟩ := HX.out _ B5.out; clear b5))
  all_goals
    go_ret
    exact ⟨rfl, HB0.out.trans (B5.out.mono HB0.out.size)⟩

set_option maxHeartbeats 2000000 in
set_option maxRecDepth 100000 in
theorem GexNames_long {w : World} (hS : Siz w) (P G P' G' : ByteArray) (r1 r2 r3 r4 : Bool) (h1 : decide ((P.size : Int) > 500) = r1) (h2 : decide ((G.size : Int) > 500) = r2) (h3 : decide ((P'.size : Int) > 500) = r3) (h4 : decide ((G'.size : Int) > 500) = r4) (hr : (r1 || r2 || r3 || r4) = true)
    (m1 : P.size ≤ maxLen) (m2 : G.size ≤ maxLen) (m3 : P'.size ≤ maxLen) (m4 : G'.size ≤ maxLen) :
    Calls Tryd.prog 9 #[.agg #[.string P, .string G], .agg #[.string P', .string G']] w fun e w' => e = .returned (.bool true) ∧ Below w.heap.size w w' := by
  unfold maxLen at m1 m2 m3 m4
  have HB0 : Hid (Below w.heap.size w ((w.alloc (.cells #[.string P, .string G] 51)).alloc (.cells #[.string P', .string G'] 51))) := ((Below.refl _ _).alloc (Nat.le_refl _) _).alloc (by rw [World.size_alloc]; omega) _
  have HAw : Hid (∀ W, Below w.heap.size w W → Calls Tryd.prog 29 #[] W fun e w' => e = .returned (.bool true) ∧ Below W.heap.size W w') := fun W hb => awake18_any (hS.below hb)
  clear hS
  cases r1 with
  | true =>
    go_enter Tryd.func9, Tryd.ntmps9
    go_wp2_with (go_at_call 29; (with_reducible refine (HAw.out _ HB0.out).mono ?_); rintro e w5 ⟨rfl, b5⟩; have B5 := Lib.hid (HB0.out.trans (b5.mono HB0.out.size)); clear b5)
    go_ret
    exact ⟨rfl, B5.out⟩
  | false =>
  cases r2 with
  | true =>
    go_enter Tryd.func9, Tryd.ntmps9
    go_wp2_with (go_at_call 29; (with_reducible refine (HAw.out _ HB0.out).mono ?_); rintro e w5 ⟨rfl, b5⟩; have B5 := Lib.hid (HB0.out.trans (b5.mono HB0.out.size)); clear b5)
    go_ret
    exact ⟨rfl, B5.out⟩
  | false =>
  cases r3 with
  | true =>
    go_enter Tryd.func9, Tryd.ntmps9
    go_wp2_with (go_at_call 29; (with_reducible refine (HAw.out _ HB0.out).mono ?_); rintro e w5 ⟨rfl, b5⟩; have B5 := Lib.hid (HB0.out.trans (b5.mono HB0.out.size)); clear b5)
    go_ret
    exact ⟨rfl, B5.out⟩
  | false =>
  cases r4 with
  | true =>
    go_enter Tryd.func9, Tryd.ntmps9
    go_wp2_with (go_at_call 29; (with_reducible refine (HAw.out _ HB0.out).mono ?_); rintro e w5 ⟨rfl, b5⟩; have B5 := Lib.hid (HB0.out.trans (b5.mono HB0.out.size)); clear b5)
    go_ret
    exact ⟨rfl, B5.out⟩
  | false => simp at hr

theorem GexNames_any {w : World} (hS : Siz w) (P G P' G' : ByteArray) (m1 : P.size ≤ maxLen) (m2 : G.size ≤ maxLen) (m3 : P'.size ≤ maxLen) (m4 : G'.size ≤ maxLen) :
    Calls Tryd.prog 9 #[.agg #[.string P, .string G], .agg #[.string P', .string G']] w fun e w' => e = .returned (.bool true) ∧ Below w.heap.size w w' := by
  by_cases h : P.size ≤ 500 ∧ G.size ≤ 500 ∧ P'.size ≤ 500 ∧ G'.size ≤ 500
  · obtain ⟨h1, h2, h3, h4⟩ := h
    have := GexNames_small hS P.data.toList G.data.toList P'.data.toList G'.data.toList (by rw [Array.length_toList]; exact h1) (by rw [Array.length_toList]; exact h2) (by rw [Array.length_toList]; exact h3) (by rw [Array.length_toList]; exact h4)
    rwa [bs_list, bs_list, bs_list, bs_list] at this
  · refine GexNames_long hS P G P' G' _ _ _ _ rfl rfl rfl rfl ?_ m1 m2 m3 m4
    simp only [Bool.or_eq_true, decide_eq_true_eq]
    omega
end Go.Proofs.YtihkhcocfhbekaaDoor
