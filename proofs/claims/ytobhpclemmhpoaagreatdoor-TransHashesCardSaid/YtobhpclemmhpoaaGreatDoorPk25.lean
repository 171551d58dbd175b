/- Part 25 of what the statement wants. -/
import Derived.Test.YtobhpclemmhpoaaGreatDoorPk24
namespace Go.Proofs.YtobhpclemmhpoaaGreatDoor
open Go.RowKit

theorem refList_le (l : List (List UInt8)) : (refListL l).length ≤ 131072 := by
  unfold refListL
  split
  · rename_i h
    have h1 : (tagL 10).length = 1 := rfl
    have h2 : (pack4 l.length).length = 4 := rfl
    simp only [List.length_append, h1, h2]
    omega
  · simp
set_option maxRecDepth 100000 in
theorem r20Hash_any (asks : Bool) (v0 v1 v2 v3 tk te tf tt gp gg : List UInt8) (hv : v0.length ≤ 10000 ∧ v1.length ≤ 10000 ∧ v2.length ≤ 10000 ∧ v3.length ≤ 10000) (ht : tk.length ≤ 131072 ∧ te.length ≤ 131072 ∧ tf.length ≤ 131072 ∧ tt.length ≤ 131072) (hp : gp.length ≤ 10000) (hg : gg.length ≤ 10000) (a0 a1 a2 : Nat) (h0 : a0 < 4294967296) (h1 : a1 < 4294967296) (h2 : a2 < 4294967296) (w : World) :
    Calls Tryz.prog 15 #[.agg #[.string (bs v0), .string (bs v1), .string (bs v2), .string (bs v3), .string (bs tk), .bool asks, .int .i64 (a0 : Int), .int .i64 (a1 : Int), .int .i64 (a2 : Int), .string (bs gp), .string (bs gg), .string (bs te), .string (bs tf), .string (bs tt)]] w fun e w' => e = .returned (.string (bs (refHashL (refListL (listL20 [v0, v1, v2, v3] tk asks (askL a0 a1 a2 gp gg) te tf tt))))) ∧ Below w.heap.size w w' := by
  have HL : Hid (∀ W : World, Calls Tryz.prog 13 #[.agg #[.string (bs v0), .string (bs v1), .string (bs v2), .string (bs v3), .string (bs tk), .bool asks, .int .i64 (a0 : Int), .int .i64 (a1 : Int), .int .i64 (a2 : Int), .string (bs gp), .string (bs gg), .string (bs te), .string (bs tf), .string (bs tt)]] W fun e w' => e = .returned (.string (bs (refListL (listL20 [v0, v1, v2, v3] tk asks (askL a0 a1 a2 gp gg) te tf tt)))) ∧ Below W.heap.size W w') := fun W => by
    cases asks
    · exact r20List_false v0 v1 v2 v3 tk te tf tt gp gg hv ht hp hg a0 a1 a2 h0 h1 h2 W
    · exact r20List_true v0 v1 v2 v3 tk te tf tt gp gg hv ht hp hg a0 a1 a2 h0 h1 h2 W
  have HH := Lib.hid (refHash_any (refListL (listL20 [v0, v1, v2, v3] tk asks (askL a0 a1 a2 gp gg) te tf tt)) (by have := refList_le (listL20 [v0, v1, v2, v3] tk asks (askL a0 a1 a2 gp gg) te tf tt); omega))
  have b1 : Below w.heap.size w (w.alloc (.cells #[.string (bs v0), .string (bs v1), .string (bs v2), .string (bs v3), .string (bs tk), .bool asks, .int .i64 (a0 : Int), .int .i64 (a1 : Int), .int .i64 (a2 : Int), .string (bs gp), .string (bs gg), .string (bs te), .string (bs tf), .string (bs tt)] 41)) := (Below.refl _ _).alloc (Nat.le_refl _) _
  have HB := Lib.hid b1
  clear b1 hv ht hp hg h0 h1 h2
  generalize bs (refHashL (refListL (listL20 [v0, v1, v2, v3] tk asks (askL a0 a1 a2 gp gg) te tf tt))) = RH at *
  generalize bs (refListL (listL20 [v0, v1, v2, v3] tk asks (askL a0 a1 a2 gp gg) te tf tt)) = RL at *
  generalize bs v0 = V0 at *
  generalize bs v1 = V1 at *
  generalize bs v2 = V2 at *
  generalize bs v3 = V3 at *
  generalize bs tk = KK at *
  generalize bs te = EE at *
  generalize bs tf = FF at *
  generalize bs tt = TT at *
  generalize bs gp = GP at *
  generalize bs gg = GG at *
  go_enter Tryz.func15, Tryz.ntmps15
  go_wp2_with (first
    | (go_at_call 13; (with_reducible refine (HL.out _).mono ?_); rintro e w2 ⟨rfl, b2⟩)
    | (go_at_call 35; (with_reducible refine (HH.out _).mono ?_); rintro e w3 ⟨rfl, b3⟩))
  go_ret
  exact ⟨rfl, HB.out.trans ((b2.trans (b3.mono b2.size)).mono HB.out.size)⟩
/-- Few enough raw parts. -/
def few20B (V0 V1 V2 V3 GP GG : ByteArray) : Bool := decide (V0.size ≤ 300 ∧ V1.size ≤ 300 ∧ V2.size ≤ 300 ∧ V3.size ≤ 300 ∧ GP.size ≤ 300 ∧ GG.size ≤ 300)
set_option maxHeartbeats 4000000 in
set_option maxRecDepth 100000 in
theorem few20_any (V0 V1 V2 V3 GP GG : ByteArray) (x0 x1 x2 x3 a0 a1 a2 : Int) (asks : Bool) (w : World) :
    Calls Tryz.prog 6 #[.agg #[.string V0, .string V1, .string V2, .string V3, .int .i64 x0, .int .i64 x1, .int .i64 x2, .int .i64 x3, .bool asks, .int .u32 a0, .int .u32 a1, .int .u32 a2, .string GP, .string GG]] w fun e w' => e = .returned (.bool (few20B V0 V1 V2 V3 GP GG)) ∧ Below w.heap.size w w' := by
  obtain ⟨W1, hW1⟩ : ∃ W1, Hid (W1 = w.alloc (.cells #[.string V0, .string V1, .string V2, .string V3, .int .i64 x0, .int .i64 x1, .int .i64 x2, .int .i64 x3, .bool asks, .int .u32 a0, .int .u32 a1, .int .u32 a2, .string GP, .string GG] 30)) := ⟨_, Lib.hid rfl⟩
  have b1 : Below w.heap.size w W1 := by rw [hW1.out]; exact (Below.refl _ _).alloc (Nat.le_refl _) _
  have hBx : Holds W1 w.heap.size 30 #[.string V0, .string V1, .string V2, .string V3, .int .i64 x0, .int .i64 x1, .int .i64 x2, .int .i64 x3, .bool asks, .int .u32 a0, .int .u32 a1, .int .u32 a2, .string GP, .string GG] := by rw [hW1.out]; exact Holds.new w _ _
  have HB := Lib.hid b1
  have y0 := hBx.cell 0
  have y1 := hBx.cell 1
  have y2 := hBx.cell 2
  have y3 := hBx.cell 3
  have y12 := hBx.cell 12
  have y13 := hBx.cell 13
  have HY := Lib.hid (And.intro y0 (And.intro y1 (And.intro y2 (And.intro y3 (And.intro y12 y13)))))
  clear b1 hBx y0 y1 y2 y3 y12 y13
  obtain ⟨FB, hFB⟩ : ∃ FB, Hid (few20B V0 V1 V2 V3 GP GG = FB) := ⟨_, Lib.hid rfl⟩
  rw [hFB.out]
  go_enter Tryz.func6, Tryz.ntmps6
  go_wp2_with fail
  rw [← hW1.out]
  go_loopw [3] (fun i wr => ∃ k : Nat, k ≤ 4 ∧ i = .int .i64 (k : Int) ∧ (∀ j < k, (([V0, V1, V2, V3] : List ByteArray).getD j ⟨#[]⟩).size ≤ 300) ∧ wr = W1) (fun i _ => 4 - (intOf i).toNat)
  case atStart => exact ⟨0, by omega, rfl, fun j hj => by omega, rfl⟩
  case round =>
    obtain ⟨k, hk, rfl, hall, hw⟩ := hrel
    have hw := hw.symm
    subst hw
    obtain ⟨y0, y1, y2, y3, y12, y13⟩ := HY.out
    have hc : k = 0 ∨ k = 1 ∨ k = 2 ∨ k = 3 ∨ k = 4 := by omega
    rcases hc with rfl | rfl | rfl | rfl | rfl
    · by_cases hs : V0.size ≤ 300
      · have q : decide ((V0.size : Int) > 300) = false := decide_eq_false (by omega)
        have HN : Hid (∀ j < 1, (([V0, V1, V2, V3] : List ByteArray).getD j ⟨#[]⟩).size ≤ 300) := fun j hj => by
          by_cases h : j < 0
          · exact hall j h
          · have : j = 0 := by omega
            subst this
            exact hs
        clear hall hs hk
        go_wp2_with fail
        go_roundw
        case rel => exact ⟨1, by omega, by go_num, HN.out, trivial⟩
        case measure => simp [intOf]
      · have q : decide ((V0.size : Int) > 300) = true := decide_eq_true (by omega)
        have hf : Hid (FB = false) := hFB.out.symm.trans (decide_eq_false fun h => hs (by omega))
        clear hall hs hk
        go_wp2_with fail
        go_ret
        exact ⟨by rw [hf.out]; rfl, HB.out⟩
    · by_cases hs : V1.size ≤ 300
      · have q : decide ((V1.size : Int) > 300) = false := decide_eq_false (by omega)
        have HN : Hid (∀ j < 2, (([V0, V1, V2, V3] : List ByteArray).getD j ⟨#[]⟩).size ≤ 300) := fun j hj => by
          by_cases h : j < 1
          · exact hall j h
          · have : j = 1 := by omega
            subst this
            exact hs
        clear hall hs hk
        go_wp2_with fail
        go_roundw
        case rel => exact ⟨2, by omega, by go_num, HN.out, trivial⟩
        case measure => simp [intOf]
      · have q : decide ((V1.size : Int) > 300) = true := decide_eq_true (by omega)
        have hf : Hid (FB = false) := hFB.out.symm.trans (decide_eq_false fun h => hs (by omega))
        clear hall hs hk
        go_wp2_with fail
        go_ret
        exact ⟨by rw [hf.out]; rfl, HB.out⟩
    · by_cases hs : V2.size ≤ 300
      · have q : decide ((V2.size : Int) > 300) = false := decide_eq_false (by omega)
        have HN : Hid (∀ j < 3, (([V0, V1, V2, V3] : List ByteArray).getD j ⟨#[]⟩).size ≤ 300) := fun j hj => by
          by_cases h : j < 2
          · exact hall j h
          · have : j = 2 := by omega
            subst this
            exact hs
        clear hall hs hk
        go_wp2_with fail
        go_roundw
        case rel => exact ⟨3, by omega, by go_num, HN.out, trivial⟩
        case measure => simp [intOf]
      · have q : decide ((V2.size : Int) > 300) = true := decide_eq_true (by omega)
        have hf : Hid (FB = false) := hFB.out.symm.trans (decide_eq_false fun h => hs (by omega))
        clear hall hs hk
        go_wp2_with fail
        go_ret
        exact ⟨by rw [hf.out]; rfl, HB.out⟩
    · by_cases hs : V3.size ≤ 300
      · have q : decide ((V3.size : Int) > 300) = false := decide_eq_false (by omega)
        have HN : Hid (∀ j < 4, (([V0, V1, V2, V3] : List ByteArray).getD j ⟨#[]⟩).size ≤ 300) := fun j hj => by
          by_cases h : j < 3
          · exact hall j h
          · have : j = 3 := by omega
            subst this
            exact hs
        clear hall hs hk
        go_wp2_with fail
        go_roundw
        case rel => exact ⟨4, by omega, by go_num, HN.out, trivial⟩
        case measure => simp [intOf]
      · have q : decide ((V3.size : Int) > 300) = true := decide_eq_true (by omega)
        have hf : Hid (FB = false) := hFB.out.symm.trans (decide_eq_false fun h => hs (by omega))
        clear hall hs hk
        go_wp2_with fail
        go_ret
        exact ⟨by rw [hf.out]; rfl, HB.out⟩
    · have e0 : V0.size ≤ 300 := hall 0 (by omega)
      have e1 : V1.size ≤ 300 := hall 1 (by omega)
      have e2 : V2.size ≤ 300 := hall 2 (by omega)
      have e3 : V3.size ≤ 300 := hall 3 (by omega)
      by_cases hp : GP.size ≤ 300
      · have q : decide ((GP.size : Int) ≤ 300) = true := decide_eq_true (by omega)
        by_cases hg : GG.size ≤ 300
        · have q2 : decide ((GG.size : Int) ≤ 300) = true := decide_eq_true (by omega)
          have hf : Hid (FB = true) := hFB.out.symm.trans (decide_eq_true ⟨e0, e1, e2, e3, hp, hg⟩)
          clear hall hp hg hk e0 e1 e2 e3
          go_wp2_with fail
          go_ret
          exact ⟨by rw [hf.out]; rfl, HB.out⟩
        · have q2 : decide ((GG.size : Int) ≤ 300) = false := decide_eq_false (by omega)
          have hf : Hid (FB = false) := hFB.out.symm.trans (decide_eq_false fun h => hg h.2.2.2.2.2)
          clear hall hp hg hk e0 e1 e2 e3
          go_wp2_with fail
          go_ret
          exact ⟨by rw [hf.out]; rfl, HB.out⟩
      · have q : decide ((GP.size : Int) ≤ 300) = false := decide_eq_false (by omega)
        have hf : Hid (FB = false) := hFB.out.symm.trans (decide_eq_false fun h => hp h.2.2.2.2.1)
        clear hall hp hk e0 e1 e2 e3
        go_wp2_with fail
        go_ret
        exact ⟨by rw [hf.out]; rfl, HB.out⟩
end Go.Proofs.YtobhpclemmhpoaaGreatDoor
