/- The walk of MsgLong. -/
import Derived.Test.YtkdbmfgbokbnfaaGreatDoorZeros
import Derived.Test.YtkdbmfgbokbnfaaGreatDoorMe2
import Derived.Test.YtkdbmfgbokbnfaaGreatDoorMe3
import Derived.Test.YtkdbmfgbokbnfaaGreatDoorMd1
import Derived.Test.YtkdbmfgbokbnfaaGreatDoorWr2
import Derived.Deep.RegionWith
import Derived.Deep.RegionHeld3
namespace Go.Proofs.YtkdbmfgbokbnfaaGreatDoor
open Go.RowKit

def longF (k : Nat) : FieldR := ⟨115, 0, List.replicate k 0, []⟩
theorem longF_at {w : World} {b k : Nat} (hk : k ≤ 1000000) (h : Holds w b 47 #[.int .u8 115, .int .i64 0, .string (zeros7 k), .slice none 0 0]) : FieldsAt w (.slice (some ⟨b, 0, none⟩) 1 1) [longF k] := by
  refine ⟨_, 1, rfl, Nat.le_refl _, by simp, ?_, fun _ => ⟨b, 0, rfl, h.lt, fun i x hi => ?_⟩⟩
  · intro x hx
    simp only [List.mem_singleton] at hx
    subst hx
    exact ⟨by simp [longF], by simp [longF]; omega, by simp [longF], by simp [longF]⟩
  · obtain ⟨rfl, rfl⟩ : i = 0 ∧ x = longF k := by
      cases i with
      | zero => exact ⟨rfl, by simpa using hi.symm⟩
      | succ i => simp at hi
    exact ⟨h.cell 0, h.cell 1, h.cell 2, none, 0, h.cell 3, Nat.le_refl _, TextsAt.nil _⟩
theorem longF_ok {k : Nat} (hk : k ≤ 100000) : FieldOk (longF k) := ⟨by simp [longF], by simp [longF]; omega, by simp [longF], by simp [longF]⟩

set_option maxHeartbeats 1000000 in
set_option maxRecDepth 100000 in
theorem long_encodes {w : World} {b k : Nat} (hk : k + 5 ≤ 32768) (h : Holds w b 47 #[.int .u8 115, .int .i64 0, .string (zeros7 k), .slice none 0 0]) (hT : TabAt w) :
    Calls Tryz.prog 8 #[.agg #[.int .i64 2, .slice (some ⟨b, 0, none⟩) 1 1]] w fun e w' => (∃ s : ByteArray, s.size = k + 5 ∧ e = .returned (.tuple #[.string s, .nilIface])) ∧ Below w.heap.size w w' := by
  have hw : writeP 115 (longF k) = (cnt (List.replicate k 0), 0) := by simp [writeP, longF, onlyP, usesP, wrBytes]
  have hc : (cnt (List.replicate k 0)).length = k + 4 := by simp [cnt, pack4]
  have he : encK [115] [longF k] 1 = cnt (List.replicate k 0) := by
    show [] ++ (writeP 115 (longF k)).1 = _
    rw [hw]
    rfl
  have := encode_ok (longF_at (by omega) h) hT 2 [115] (by rfl) rfl (by simp) (fun x hx => by
    simp only [List.mem_singleton] at hx
    subst hx
    exact longF_ok (by omega)) (fun i hi => by
    have : i = 0 := by simpa using hi
    subst this
    show (writeP 115 (longF k)).2 = 0
    rw [hw]) (by
    show 1 + (encK [115] [longF k] 1).length ≤ 32768
    rw [he, hc]
    omega)
  refine this.mono fun e w' ⟨h1, h2⟩ => ⟨⟨_, ?_, h1⟩, h2⟩
  rw [bs_size]
  show (encK [115] [longF k] 1).length + 1 = _
  rw [he, hc]
theorem long_fails {w : World} {b k : Nat} (hk : 32768 < k + 5) (hk2 : k ≤ 100000) (h : Holds w b 47 #[.int .u8 115, .int .i64 0, .string (zeros7 k), .slice none 0 0]) (hT : TabAt w) :
    Calls Tryz.prog 8 #[.agg #[.int .i64 2, .slice (some ⟨b, 0, none⟩) 1 1]] w fun e w' => ∃ t u, e = .returned (.tuple #[.string ⟨#[]⟩, .iface t u]) ∧ ErrAt w' (.iface t u) [wordP 2] (some 2) ∧ Below w.heap.size w w' := by
  have hw : writeP 115 (longF k) = (cnt (List.replicate k 0), 0) := by simp [writeP, longF, onlyP, usesP, wrBytes]
  have hc : (cnt (List.replicate k 0)).length = k + 4 := by simp [cnt, pack4]
  have he : encK [115] [longF k] 1 = cnt (List.replicate k 0) := by
    show [] ++ (writeP 115 (longF k)).1 = _
    rw [hw]
    rfl
  exact encode_long (longF_at (by omega) h) hT 2 [115] (by rfl) rfl (by simp) (fun x hx => by
    simp only [List.mem_singleton] at hx
    subst hx
    exact longF_ok (by omega)) 0 (by simp) (fun i hi => by
    have : i = 0 := by omega
    subst this
    show (writeP 115 (longF k)).2 = 0
    rw [hw]) (by show 1 + 0 ≤ 32768; omega) (by
    show (writeP 115 (longF k)).1.length ≤ _
    rw [hw]
    show (cnt (List.replicate k 0)).length ≤ _
    omega) (by
    show 32768 < 1 + (encK [115] [longF k] 1).length
    rw [he, hc]
    omega)

set_option maxHeartbeats 1000000 in
set_option maxRecDepth 100000 in
theorem msgLong_any {w : World} (hT : TabAt w) (hg : TypeOfError w) (n : Nat) (hn : n ≤ 255) :
    Calls Tryz.prog 5 #[.int .u8 n] w fun e w' => e = .returned (.bool true) ∧ Below w.heap.size w w' := by
  obtain ⟨k, hk, hk5, hk1, hk2⟩ : ∃ k : Nat, 32755 + (n : Int) % 21 - 5 = (k : Int) ∧ 32755 + (n : Int) % 21 = (k : Int) + 5 ∧ 32750 ≤ k ∧ k ≤ 32770 := ⟨(32750 + (n : Int) % 21).toNat, by omega, by omega, by omega, by omega⟩
  have hmk := make_zeros7 k (by omega)
  have hmk2 := make_zeros7 (k + 5) (by omega)
  have hcv := fun W => string_zeros7 k (by omega) (W.alloc (.cells (byteCells (List.replicate k 0)).toArray 5)) W.heap.size (Holds.new W _ _)
  have hcv2 := fun W => string_zeros7 (k + 5) (by omega) (W.alloc (.cells (byteCells (List.replicate (k + 5) 0)).toArray 5)) W.heap.size (Holds.new W _ _)
  have e5 : ((k + 5 : Nat) : Int) = (k : Int) + 5 := by omega
  rw [e5] at hmk2
  have hz2 : (zeros7 (k + 5)).size = k + 5 := by unfold zeros7; rw [bs_size, List.length_replicate]
  have hz0 : (zeros7 (k + 5)).data[0]? = some 0 := by simp [zeros7, bs]
  generalize (byteCells (List.replicate k 0)).toArray = Z at *
  generalize (byteCells (List.replicate (k + 5) 0)).toArray = Z2 at *
  have hbA : Below w.heap.size w (((w.alloc (.cells Z 5)).alloc (.cells #[.int .u8 115, .int .i64 0, .string (zeros7 k), .slice none 0 0] 47)).alloc (.cells #[.int .i64 2, .slice (some ⟨w.heap.size + 1, 0, none⟩) 1 1] 24)) :=
    (((Below.refl w.heap.size w).alloc (Nat.le_refl _) _).alloc (by simp) _).alloc (by simp; omega) _
  have hHA := (Holds.new (w.alloc (.cells Z 5)) 47 #[.int .u8 115, .int .i64 0, .string (zeros7 k), .slice none 0 0]).moves ((Moves.refl nobody _).alloc (.cells #[.int .i64 2, .slice (some ⟨w.heap.size + 1, 0, none⟩) 1 1] 24)) (fun h => h)
  rw [World.size_alloc] at hHA
  have HAw := Lib.hid (fun (W : World) (hb : Below w.heap.size w W) => awake7_any (hT.below hb))
  have HZ2 := Lib.hid (fun (W : World) => decode_long (w := W) (s := zeros7 (k + 5)))
  have HZ3 := Lib.hid (fun (W : World) => decode_none (w := W) (s := zeros7 (k + 5)) (b := 0))
  have HWr := Lib.hid (fun (W : World) (hb : Below w.heap.size w W) (t : TypeId) (u : Value) (p : ByteArray) (n : Int) (he : ErrAt W (.iface t u) [p] (some n)) (hp : p.size ≤ 1000) => wrong_any (hg.later hb) he (by simp) (by intro x hx; simp only [List.mem_singleton] at hx; rw [hx]; exact hp))
  have HBA := Lib.hid hbA
  have hA1 : atP [wordP 2] = ⟨#[105, 103, 110, 111, 114, 101, 32]⟩ := by decide +kernel
  have hA2 : atP [messageS] = ⟨#[109, 101, 115, 115, 97, 103, 101, 32]⟩ := by decide +kernel
  have HW1 : Hid (∀ (W : World) (hb : Below w.heap.size w W) (t : TypeId) (u : Value), ErrAt W (.iface t u) [wordP 2] (some 2) → Calls Tryz.prog 10 #[.iface t u, .agg #[.int .i64 2, .string ⟨#[105, 103, 110, 111, 114, 101, 32]⟩]] W fun r w' => r = .returned (.bool true) ∧ Below W.heap.size W w') := fun W hb t u he => by
    have := HWr.out W hb t u (wordP 2) 2 he (by decide +kernel)
    rw [hA1] at this
    exact this
  have HW2 : Hid (∀ (W : World) (hb : Below w.heap.size w W) (t : TypeId) (u : Value) (n : Int), ErrAt W (.iface t u) [messageS] (some n) → Calls Tryz.prog 10 #[.iface t u, .agg #[.int .i64 n, .string ⟨#[109, 101, 115, 115, 97, 103, 101, 32]⟩]] W fun r w' => r = .returned (.bool true) ∧ Below W.heap.size W w') := fun W hb t u n he => by
    have := HWr.out W hb t u messageS n he (by decide +kernel)
    rw [hA2] at this
    exact this
  clear HWr hA1 hA2
  by_cases hbig : 32768 < k + 5
  · have HEn := Lib.hid (long_fails hbig (by omega) hHA (hT.below hbA))
    have HDe := Lib.hid (fun W => HZ2.out W (by rw [hz2]; exact hbig) (by rw [hz2]; omega))
    have q1 : (k : Int) + 5 > 32768 := by omega
    unfold zeroM at HDe
    clear hHA hbA hz0 HZ2 HZ3 hbig hz2 hT hg
    generalize zeros7 (k + 5) = S2 at *
    generalize zeros7 k = S1 at *
    go_enter Tryz.func5, Tryz.ntmps5
    go_wp2_with (first
      | (go_at_call 8; with_reducible refine HEn.out.mono ?_; rintro r w1 ⟨t1, u1, rfl, he1, b1⟩; have hb1 := HBA.out.trans (b1.mono HBA.out.size))
      | (go_at_call 11; with_reducible refine (HDe.out _).mono ?_; rintro r w2 ⟨t2, u2, rfl, he2, b2⟩; have hZ := Holds.new w2 24 #[.int .i64 0, .slice none 0 0]; have z0 := hZ.cell 0; have z1 := hZ.cell 1; have s0 := hZ.frozen 0; have s1 := hZ.frozen 1))
    have hb2 : Below w.heap.size w w2 := (hb1.alloc hb1.size (.cells Z2 5)).trans (b2.mono (by have := hb1.size; simp; omega))
    have he1b := (he1.later ((Below.refl w1.heap.size w1).alloc (Nat.le_refl _) (.cells Z2 5))).later b2
    have b3 : Below w2.heap.size w2 (w2.alloc (.cells #[.int .i64 0, .slice none 0 0] 24)) := (Below.refl w2.heap.size w2).alloc (Nat.le_refl _) _
    have he1c := he1b.later b3
    have he2c := he2.later b3
    have hb3 := hb2.trans (b3.mono hb2.size)
    clear hb1 hb2 he1 he1b he2 b1 b2 b3 hZ z0 z1 s0 s1
    generalize w2.alloc (.cells #[.int .i64 0, .slice none 0 0] 24) = W3 at *
    refine (HAw.out _ hb3).mono ?_
    rintro r w4 ⟨rfl, b4⟩
    have hb4 := hb3.trans (b4.mono hb3.size)
    have he1d := he1c.later b4
    have he2d := he2c.later b4
    go_wp2_with (first
      | (go_at_call 10; with_reducible refine (HW2.out _ hb5 _ _ _ he2e).mono ?_; rintro r w6 ⟨rfl, b6⟩)
      | (go_at_call 10; with_reducible refine (HW1.out _ hb4 _ _ he1d).mono ?_; rintro r w5 ⟨rfl, b5⟩; have hb5 := hb4.trans (b5.mono hb4.size); have he2e := he2d.later b5))
    go_ret
    exact ⟨rfl, hb5.trans (b6.mono hb5.size)⟩
  · have HEn := Lib.hid (long_encodes (by omega) hHA (hT.below hbA))
    have HDe := Lib.hid (fun W => HZ3.out W (by rw [hz2]; omega) hz0 (by rfl))
    have q1 : decide ((32768 : Int) < (k : Int) + 5) = false := by simp; omega
    unfold zeroM at HDe
    clear hHA hbA hz0 HZ2 HZ3 hbig hz2 hT hg
    generalize zeros7 (k + 5) = S2 at *
    generalize zeros7 k = S1 at *
    go_enter Tryz.func5, Tryz.ntmps5
    go_wp2_with (first
      | (go_at_call 8; with_reducible refine HEn.out.mono ?_; rintro r w1 ⟨⟨S, hS, rfl⟩, b1⟩; have hS2 : (S.size : Int) = (k : Int) + 5 := (by omega); have hb1 := HBA.out.trans (b1.mono HBA.out.size))
      | (go_at_call 11; with_reducible refine (HDe.out _).mono ?_; rintro r w2 ⟨t2, u2, rfl, he2, b2⟩; have hZ := Holds.new w2 24 #[.int .i64 0, .slice none 0 0]; have z0 := hZ.cell 0; have z1 := hZ.cell 1; have s0 := hZ.frozen 0; have s1 := hZ.frozen 1))
    have hb2 : Below w.heap.size w w2 := (hb1.alloc hb1.size (.cells Z2 5)).trans (b2.mono (by have := hb1.size; simp; omega))
    have b3 : Below w2.heap.size w2 (w2.alloc (.cells #[.int .i64 0, .slice none 0 0] 24)) := (Below.refl w2.heap.size w2).alloc (Nat.le_refl _) _
    have he2c := he2.later b3
    have hb3 := hb2.trans (b3.mono hb2.size)
    clear hb1 hb2 he2 b1 b2 b3 hZ z0 z1 s0 s1
    generalize w2.alloc (.cells #[.int .i64 0, .slice none 0 0] 24) = W3 at *
    refine (HAw.out _ hb3).mono ?_
    rintro r w4 ⟨rfl, b4⟩
    have hb4 := hb3.trans (b4.mono hb3.size)
    have he2d := he2c.later b4
    go_wp2_with (first
      | (go_at_call 10; with_reducible refine (HW2.out _ hb4 _ _ _ he2d).mono ?_; rintro r w6 ⟨rfl, b6⟩))
    go_ret
    exact ⟨rfl, hb4.trans (b6.mono hb4.size)⟩
end Go.Proofs.YtkdbmfgbokbnfaaGreatDoor
