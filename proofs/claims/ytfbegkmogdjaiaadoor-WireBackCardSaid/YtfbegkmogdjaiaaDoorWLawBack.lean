/- The walk of the law WireBack. -/
import Derived.Test.YtfbegkmogdjaiaaDoorWRef
import Derived.Deep.RegionHeld3
namespace Go.Proofs.YtfbegkmogdjaiaaDoor
open Go.RowKit

theorem plainL_whole (l : List UInt8) : plainL (wholeL l) = plainL l := by
  unfold wholeL
  split
  · rw [plainL_cons, if_pos rfl, plainL_idem]
  · exact plainL_idem l
theorem wholeR_whole (l : List UInt8) : wholeR (wholeL l) = true := by
  rw [wholeR_iff]
  refine decide_eq_true ?_
  have : ∀ a : List UInt8, wholeL a = if 128 ≤ (hd0 (plainL a)).toNat then 0 :: plainL a else plainL a := fun _ => rfl
  rw [this (wholeL l), plainL_whole, ← this]
theorem byteP_ok (b : UInt8) (r : List UInt8) : byteP (b :: r) 0 = (b.toNat, r, 0) := by
  have : fixedP anyR 1 (b :: r) 0 = ([b], r, 0) := fixedP_ok anyR [b] r rfl
  unfold byteP
  rw [this]
  rfl
theorem boolP_ok (x : Bool) (r : List UInt8) : boolP (boolL x ++ r) 0 = (x, r, 0) := by
  have : fixedP boolR 1 (boolL x ++ r) 0 = (boolL x, r, 0) := by
    cases x
    · exact fixedP_ok boolR [0] r rfl
    · exact fixedP_ok boolR [1] r rfl
  unfold boolP
  rw [this]
  cases x <;> rfl
theorem boolL_len (x : Bool) : (boolL x).length = 1 := by cases x <;> rfl

set_option maxHeartbeats 2000000 in
set_option maxRecDepth 100000 in
theorem WireBack_small (s t : List UInt8) (hs : s.length ≤ 300) (ht : t.length ≤ 300) (b0 b1 : UInt8) (w : World) :
    Calls Tryd.prog 4 #[.string (bs s), .string (bs t), .agg #[.int .u8 (b0.toNat : Int), .int .u8 (b1.toNat : Int)]] w fun e w' => e = .returned (.bool true) ∧ Below w.heap.size w w' := by
  have HA := Lib.hid awake3_any
  have z1 := bs_size s
  have z2 := bs_size t
  have hwl := wholeL_le t
  obtain ⟨is, his⟩ : ∃ is : Bool, is = ((b1.toNat : Int) % 2 == 1) := ⟨_, rfl⟩
  have T1 := Lib.hid (fun W => wText_any s (by omega) W)
  have T2 := Lib.hid (fun W => wByte_any b0 W)
  have T3 := Lib.hid (fun W => wWhole_any t (by omega) W)
  have T4 := Lib.hid (fun W => wBool_any is W)
  have T5 := Lib.hid (fun W => wText_any t (by omega) W)
  have TP := Lib.hid (fun W => qPlain_any t (by omega) W)
  obtain ⟨L4, hL4⟩ : ∃ L, L = cnt t := ⟨_, rfl⟩
  obtain ⟨L3, hL3⟩ : ∃ L, L = boolL is ++ L4 := ⟨_, rfl⟩
  obtain ⟨L2, hL2⟩ : ∃ L, L = cnt (wholeL t) ++ L3 := ⟨_, rfl⟩
  obtain ⟨L1, hL1⟩ : ∃ L, L = b0 :: L2 := ⟨_, rfl⟩
  obtain ⟨L0, hL0⟩ : ∃ L, L = cnt s ++ L1 := ⟨_, rfl⟩
  have k4 : L4.length ≤ 304 := by rw [hL4, cnt_length]; omega
  have k3 : L3.length ≤ 305 := by rw [hL3, List.length_append, boolL_len]; omega
  have k2 : L2.length ≤ 700 := by rw [hL2, List.length_append, cnt_length]; omega
  have k1 : L1.length ≤ 800 := by rw [hL1, List.length_cons]; omega
  have k0 : L0.length ≤ 2000 := by rw [hL0, List.length_append, cnt_length]; omega
  have e0 : countedP anyR L0 0 = (s, L1, 0) := by rw [hL0]; exact countedP_ok anyR s L1 (by omega) rfl
  have e1 : byteP L1 0 = (b0.toNat, L2, 0) := by rw [hL1]; exact byteP_ok b0 L2
  have e2 : countedP wholeR L2 0 = (wholeL t, L3, 0) := by rw [hL2]; exact countedP_ok wholeR (wholeL t) L3 (by omega) (wholeR_whole t)
  have e3 : boolP L3 0 = (is, L4, 0) := by rw [hL3]; exact boolP_ok is L4
  have e4 : countedP anyR L4 0 = (t, [], 0) := by
    rw [hL4]
    have := countedP_ok anyR t [] (by omega) rfl
    simpa using this
  have R0 := Lib.hid (fun (W : World) (R : Nat) (h : WAt W R L0 0) => rText_any h (by omega))
  have R1 := Lib.hid (fun (W : World) (R : Nat) (h : WAt W R L1 0) => rByte_any h (by omega))
  have R2 := Lib.hid (fun (W : World) (R : Nat) (h : WAt W R L2 0) => rWhole_any h (by omega))
  have R3 := Lib.hid (fun (W : World) (R : Nat) (h : WAt W R L3 0) => rBool_any h (by omega))
  have R4 := Lib.hid (fun (W : World) (R : Nat) (h : WAt W R L4 0) => rText_any h (by omega))
  have R5 := Lib.hid (fun (W : World) (R : Nat) (h : WAt W R [] 0) => end_any h)
  rw [e0] at R0
  rw [e1] at R1
  rw [e2, plainL_whole] at R2
  rw [e3] at R3
  rw [e4] at R4
  rw [show endP [] 0 = 0 from rfl] at R5
  simp only at R0 R1 R2 R3 R4
  have a1 : (bs (cnt s)).size ≤ 400 := by rw [bs_size, cnt_length]; omega
  have a2 : (bs [b0]).size ≤ 1 := by rw [bs_size]; simp
  have a3 : (bs (cnt (wholeL t))).size ≤ 400 := by rw [bs_size, cnt_length]; omega
  have a4 : (bs (boolL is)).size ≤ 1 := by rw [bs_size, boolL_len]; omega
  have a5 : (bs (cnt t)).size ≤ 400 := by rw [bs_size, cnt_length]; omega
  have HN := Lib.hid (fun W => wNew_any L0 W)
  have hcat : bs L0 = (((bs (cnt s) ++ bs [b0]) ++ bs (cnt (wholeL t))) ++ bs (boolL is)) ++ bs (cnt t) := by
    rw [bs_append, bs_append, bs_append, bs_append, hL0, hL1, hL2, hL3, hL4]
    simp
  rw [hcat] at HN
  clear hcat hL0 hL1 hL2 hL3 hL4 k0 k1 k2 k3 k4 e0 e1 e2 e3 e4 hwl
  generalize bs (cnt s) = A1 at *
  generalize bs [b0] = A2 at *
  generalize bs (cnt (wholeL t)) = A3 at *
  generalize bs (boolL is) = A4 at *
  generalize bs (cnt t) = A5 at *
  generalize bs (plainL t) = P at *
  have g1 : ∀ W : World, (Op.stringOp .add A1 A2).run Tryd.prog W = .ok (.string (A1 ++ A2)) W := fun W => run_string_add_sum W _ _ (by omega)
  have g2 : ∀ W : World, (Op.stringOp .add (A1 ++ A2) A3).run Tryd.prog W = .ok (.string (A1 ++ A2 ++ A3)) W := fun W => run_string_add_sum W _ _ (by rw [ByteArray.size_append]; omega)
  have g3 : ∀ W : World, (Op.stringOp .add (A1 ++ A2 ++ A3) A4).run Tryd.prog W = .ok (.string (A1 ++ A2 ++ A3 ++ A4)) W := fun W => run_string_add_sum W _ _ (by rw [ByteArray.size_append, ByteArray.size_append]; omega)
  have g4 : ∀ W : World, (Op.stringOp .add (A1 ++ A2 ++ A3 ++ A4) A5).run Tryd.prog W = .ok (.string (A1 ++ A2 ++ A3 ++ A4 ++ A5)) W := fun W => run_string_add_sum W _ _ (by rw [ByteArray.size_append, ByteArray.size_append, ByteArray.size_append]; omega)
  clear a1 a2 a3 a4 a5
  generalize A1 ++ A2 ++ A3 ++ A4 ++ A5 = C5 at *
  generalize A1 ++ A2 ++ A3 ++ A4 = C4 at *
  generalize A1 ++ A2 ++ A3 = C3 at *
  generalize A1 ++ A2 = C2 at *
  have S1 : (bs s).size ≤ 300 := by omega
  have S2 : (bs t).size ≤ 300 := by omega
  clear z1 z2
  generalize bs s = S at *
  generalize bs t = T at *
  have hb1 := UInt8.toNat_lt b1
  generalize b0.toNat = n0 at *
  generalize b1.toNat = n1 at *
  have HX : Hid (∀ W : World, Holds (W.alloc (.cells #[.int .u8 (n0 : Int), .int .u8 (n1 : Int)] 39)) W.heap.size 39 #[.int .u8 (n0 : Int), .int .u8 (n1 : Int)]) := fun W => Holds.new W _ _
  go_enter Tryd.func4, Tryd.ntmps4
  go_wp2_with fail
  rw [← his]
  obtain ⟨W0, hW0⟩ : ∃ W0, W0 = w.alloc (.cells #[.int .u8 (n0 : Int), .int .u8 (n1 : Int)] 39) := ⟨_, rfl⟩
  have hX0 := HX.out w
  have hbw : Below w.heap.size w W0 := by rw [hW0]; exact (Below.refl _ _).alloc (Nat.le_refl _) _
  have hbd := hbw.drew
  rw [← hW0] at hX0 ⊢
  clear hW0 HX his hb1
  have hXl : w.heap.size < W0.drew.heap.size := hX0.lt
  have hXd : Holds W0.drew w.heap.size 39 #[.int .u8 (n0 : Int), .int .u8 (n1 : Int)] := hX0
  have y0 := Holds.cell hXd 0
  simp only [List.getElem?_toArray, List.getElem?_cons_zero] at y0
  generalize hXg : w.heap.size = X at *
  have HXK : Hid (∀ W W' : World, Holds W X 39 #[.int .u8 (n0 : Int), .int .u8 (n1 : Int)] → Below W.heap.size W W' → Holds W' X 39 #[.int .u8 (n0 : Int), .int .u8 (n1 : Int)] ∧ W'.cell? ⟨X, 0, none⟩ = some (.int .u8 (n0 : Int))) := fun W W' h hb => by
    have h2 := Holds.moves h (Moves.ofBelow (S := nobody) hb) (fun h => h)
    exact ⟨h2, by simpa using Holds.cell h2 0⟩
  go_region_held3 (fun w' => w'.cell? ⟨X, 0, none⟩ = some (.int .u8 (n0 : Int)))
    (first | with_reducible exact y0 | with_reducible exact y1 | with_reducible exact y2 | with_reducible exact y3 | with_reducible exact y4 | with_reducible exact y5 | with_reducible exact y6 | go_keep)
    (first
      | (go_at_call 26; with_reducible refine (T1.out _).mono ?_; rintro e w1 ⟨rfl, b1⟩; obtain ⟨x1, y1⟩ := HXK.out _ _ hXd b1)
      | (go_at_call 27; with_reducible refine (T2.out _).mono ?_; rintro e w2 ⟨rfl, b2⟩; obtain ⟨x2, y2⟩ := HXK.out _ _ x1 b2)
      | (go_at_call 28; with_reducible refine (T3.out _).mono ?_; rintro e w3 ⟨rfl, b3⟩; obtain ⟨x3, y3⟩ := HXK.out _ _ x2 b3)
      | (go_at_call 29; with_reducible refine (T4.out _).mono ?_; rintro e w4 ⟨rfl, b4⟩; obtain ⟨x4, y4⟩ := HXK.out _ _ x3 b4)
      | (go_at_call 26; with_reducible refine (T5.out _).mono ?_; rintro e w5 ⟨rfl, b5⟩; obtain ⟨x5, y5⟩ := HXK.out _ _ x4 b5)
      | (go_at_call 9; with_reducible refine (HN.out _).mono ?_; rintro e w6 ⟨rfl, h6, b6⟩; obtain ⟨x6, y6⟩ := HXK.out _ _ x5 b6))
  have s1 := b1.size; have s2 := b2.size; have s3 := b3.size; have s4 := b4.size; have s5 := b5.size; have s6 := b6.size
  have HB6 : Hid (Below X w w6) := ((((((hbd.trans (b1.mono (by omega))).trans (b2.mono (by omega))).trans (b3.mono (by omega))).trans (b4.mono (by omega))).trans (b5.mono (by omega))).trans (b6.mono (by omega)))
  obtain ⟨R, hR⟩ : ∃ R, R = w5.heap.size := ⟨_, rfl⟩
  have hXR : X ≠ R := by omega
  have hXR2 : X ≤ R := by omega
  have hR6 : R < w6.heap.size := by have := h6.lt; omega
  rw [← hR] at h6 ⊢
  have HX6 := Lib.hid x6
  clear T1 T2 T3 T4 T5 HN hR b1 b2 b3 b4 b5 b6 s1 s2 s3 s4 s5 s6 x1 x2 x3 x4 x5 x6 hbd hbw hX0 hXl hXd y0 y1 y2 y3 y4 y5 y6 g1 g2 g3 g4
  go_wp2_with (first
    | (go_at_call 16; have hh := h10; with_reducible refine (R4.out _ _ h10).mono ?_; rintro e w11 ⟨rfl, h11, m11⟩)
    | (go_at_call 16; with_reducible refine (R0.out _ _ h6).mono ?_; rintro e w7 ⟨rfl, h7, m7⟩)
    | (go_at_call 10; with_reducible refine (R1.out _ _ h7).mono ?_; rintro e w8 ⟨rfl, h8, m8⟩)
    | (go_at_call 18; with_reducible refine (R2.out _ _ h8).mono ?_; rintro e w9 ⟨rfl, h9, m9⟩)
    | (go_at_call 12; with_reducible refine (R3.out _ _ h9).mono ?_; rintro e w10 ⟨rfl, h10, m10⟩)
    | (go_at_call 8; refine (HA.out _).mono ?_; rintro e w12 ⟨rfl, b12⟩
       have h12 : WAt w12 R [] 0 := Holds.moves h11 (Moves.ofBelow (S := nobody) b12) (fun h => h)
       have mm := ((((m7.trans m8 (fun i hi => .inl hi)).trans m9 (fun i hi => .inl hi)).trans m10 (fun i hi => .inl hi)).trans m11 (fun i hi => .inl hi))
       obtain ⟨x12, y12⟩ := HXK.out _ _ (Holds.moves HX6.out mm hXR) b12)
    | (go_at_call 30; refine (TP.out _).mono ?_; rintro e w13 ⟨rfl, rfl⟩)
    | (go_at_call 24; refine (R5.out _ _ h12).mono ?_; rintro e w14 ⟨rfl, rfl⟩))
  go_ret
  have s6 := HB6.out.size
  have s7 := mm.size
  exact ⟨rfl, by rw [hXg]; exact (HB6.out.trans (mm.below (by omega) fun i hi => by omega)).trans (b12.mono (by omega))⟩
end Go.Proofs.YtfbegkmogdjaiaaDoor
