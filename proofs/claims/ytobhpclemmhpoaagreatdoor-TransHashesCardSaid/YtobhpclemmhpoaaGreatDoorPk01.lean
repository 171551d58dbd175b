/- Part 1 of what the statement wants. -/
import Derived.Laws.Concat
import Derived.Deep.RegionHeld3
import Derived.Deep.RegionWith
import Derived.Test.YtobhpclemmhpoaaGreatDoorPk00
namespace Go.Proofs.YtobhpclemmhpoaaGreatDoor
open Go.RowKit

theorem add_ok (a b : List UInt8) (h : a.length + b.length ≤ 10000000) : ∀ W : World, (Op.stringOp .add (bs a) (bs b)).run Tryz.prog W = .ok (.string (bs (a ++ b))) W := fun W => by
  have := run_string_add_sum (P := Tryz.prog) W (bs a) (bs b) (by rw [bs_size, bs_size]; omega)
  rw [bs_append] at this
  exact this
theorem bs_none (x : List UInt8) : (bs x).toList.isEmpty = x.isEmpty := by
  rw [ByteArray.toList_eq]
  simp [bs]
theorem none_yes {x : List UInt8} (h : x = []) : (bs x).toList.isEmpty = true := by rw [bs_none, h]; rfl
theorem none_no {x : List UInt8} (h : x ≠ []) : (bs x).toList.isEmpty = false := by rw [bs_none]; simpa using h

def tagL (k : Nat) : List UInt8 := [UInt8.ofNat (240 + k)]
def fitsL (l : List UInt8) : List UInt8 := if 131072 < l.length then [] else l
def numZ (n : Int) : Bool := decide (0 ≤ n ∧ n ≤ 2147483647)
def textL (l : List UInt8) (m : Int) : Bool := decide (1 ≤ l.length ∧ (l.length : Int) ≤ m)

theorem Tag_int (z : Int) (h0 : 0 ≤ z) (h1 : z ≤ 10) (w : World) : Calls Tryz.prog 66 #[.int .i64 z] w fun e w' => e = .returned (.string (bs (tagL z.toNat))) ∧ Below w.heap.size w w' := by
  have hm : (240 + z) % 256 = ((UInt8.ofNat (240 + z.toNat)).toNat : Int) := by
    rw [UInt8.toNat_ofNat']
    omega
  have hcv := run_string_new w (tagL z.toNat) (by simp [tagL]) #[.int .u8 ((240 + z) % 256)] (by rw [hm]; rfl)
  have hl : (tagL z.toNat).length = 1 := rfl
  rw [hl] at hcv
  have hcv2 : (convert 71 9 (.slice (some ⟨w.heap.size, 0, none⟩) 1 1)).run Tryz.prog (w.alloc (.cells #[.int .u8 ((240 + z) % 256)] 5)) = .ok (.string (bs (tagL z.toNat))) (w.alloc (.cells #[.int .u8 ((240 + z) % 256)] 5)) := hcv
  have he : (240 + z) % 256 = 240 + z := by omega
  rw [he] at hcv2
  clear hcv hm hl he
  generalize bs (tagL z.toNat) = T at *
  go_enter Tryz.func66, Tryz.ntmps66
  go_wp2
  go_ret
  exact ⟨rfl, (Below.refl _ _).alloc (Nat.le_refl _) _⟩
theorem Tag_any (k : Nat) (hk : k ≤ 10) (w : World) : Calls Tryz.prog 66 #[.int .i64 (k : Int)] w fun e w' => e = .returned (.string (bs (tagL k))) ∧ Below w.heap.size w w' :=
  Tag_int (k : Int) (by omega) (by omega) w

set_option maxRecDepth 100000 in
theorem fits_any (l : List UInt8) (hl : l.length ≤ 10000000) (w : World) : Calls Tryz.prog 65 #[.string (bs l)] w fun e w' => e = .returned (.string (bs (fitsL l))) ∧ w' = w := by
  have hsz := bs_size l
  by_cases h : 131072 < l.length
  · have HE : Hid (bs (fitsL l) = ⟨#[]⟩) := by
      show bs (fitsL l) = _
      unfold fitsL
      rw [if_pos h]
      rfl
    rw [← hsz] at h hl
    clear hsz
    generalize bs l = S at *
    go_enter Tryz.func65, Tryz.ntmps65
    go_wp2
    go_ret
    exact ⟨by rw [HE.out]; rfl, rfl⟩
  · have HE : Hid (bs (fitsL l) = bs l) := by
      show bs (fitsL l) = _
      unfold fitsL
      rw [if_neg h]
    rw [← hsz] at h hl
    clear hsz
    have q : decide ((131072 : Int) < ((bs l).size : Int)) = false := decide_eq_false (by omega)
    clear h
    generalize bs (fitsL l) = F at *
    generalize bs l = S at *
    go_enter Tryz.func65, Tryz.ntmps65
    go_wp2
    go_ret
    exact ⟨by rw [HE.out]; rfl, rfl⟩

theorem rnumber_any (n : Int) (w : World) : Calls Tryz.prog 74 #[.int .i64 n] w fun e w' => e = .returned (.bool (numZ n)) ∧ w' = w := by
  by_cases h0 : 0 ≤ n
  · by_cases h1 : n ≤ 2147483647
    · have HE : Hid (numZ n = true) := decide_eq_true ⟨h0, h1⟩
      go_enter Tryz.func74, Tryz.ntmps74
      go_wp2
      go_ret
      exact ⟨by rw [HE.out]; rfl, rfl⟩
    · have HE : Hid (numZ n = false) := decide_eq_false fun h => h1 h.2
      have hq : decide (n ≤ 2147483647) = false := decide_eq_false h1
      go_enter Tryz.func74, Tryz.ntmps74
      go_wp2
      go_ret
      exact ⟨by rw [HE.out]; rfl, rfl⟩
  · have HE : Hid (numZ n = false) := decide_eq_false fun h => h0 h.1
    have hq : decide (n ≥ 0) = false := decide_eq_false h0
    go_enter Tryz.func74, Tryz.ntmps74
    go_wp2
    go_ret
    exact ⟨by rw [HE.out]; rfl, rfl⟩

theorem text_any (l : List UInt8) (m : Int) (w : World) : Calls Tryz.prog 76 #[.string (bs l), .int .i64 m] w fun e w' => e = .returned (.bool (textL l m)) ∧ w' = w := by
  have hsz := bs_size l
  generalize bs l = S at *
  by_cases h0 : 1 ≤ l.length
  · have q0 : decide ((l.length : Int) ≥ 1) = true := decide_eq_true (by omega)
    by_cases h1 : (l.length : Int) ≤ m
    · have HE : Hid (textL l m = true) := decide_eq_true ⟨h0, h1⟩
      have q1 : decide ((l.length : Int) ≤ m) = true := decide_eq_true h1
      go_enter Tryz.func76, Tryz.ntmps76
      go_wp2
      go_ret
      exact ⟨by rw [HE.out]; rfl, rfl⟩
    · have HE : Hid (textL l m = false) := decide_eq_false fun h => h1 h.2
      have q1 : decide ((l.length : Int) ≤ m) = false := decide_eq_false h1
      go_enter Tryz.func76, Tryz.ntmps76
      go_wp2
      go_ret
      exact ⟨by rw [HE.out]; rfl, rfl⟩
  · have HE : Hid (textL l m = false) := decide_eq_false fun h => h0 h.1
    have q0 : decide ((l.length : Int) ≥ 1) = false := decide_eq_false (by omega)
    go_enter Tryz.func76, Tryz.ntmps76
    go_wp2
    go_ret
    exact ⟨by rw [HE.out]; rfl, rfl⟩

end Go.Proofs.YtobhpclemmhpoaaGreatDoor

namespace Go.Proofs.YtobhpclemmhpoaaGreatDoor
open Go.RowKit

/-! ### the constructors -/
def refDataL (s : List UInt8) : List UInt8 := if 131072 < s.length then [] else fitsL (tagL 1 ++ pack4 s.length ++ s)
def refNonceL (x y : Int) : List UInt8 := if numZ x = true ∧ numZ y = true then tagL 2 ++ pack4 x.toNat ++ pack4 y.toNat else []
def refKeyL (x : Int) : List UInt8 := if numZ x = true then tagL 3 ++ pack4 x.toNat else []
def refPubL (k : List UInt8) : List UInt8 := if kindL k = 3 then tagL 4 ++ k else []
def refHashL (t : List UInt8) : List UInt8 := if t = [] then [] else fitsL (tagL 7 ++ t)
def refSignL (a k t : List UInt8) : List UInt8 := if textL a 64 = true ∧ kindL k = 3 ∧ t ≠ [] then fitsL (tagL 6 ++ pack4 a.length ++ a ++ k ++ t) else []
def refSealL (k : List UInt8) (n : Nat) (t : List UInt8) : List UInt8 := if k ≠ [] ∧ t ≠ [] then fitsL (tagL 9 ++ pack4 n ++ k ++ t) else []
def refDeriveL (c : UInt8) (x y z : List UInt8) : List UInt8 := if x ≠ [] ∧ y ≠ [] ∧ z ≠ [] then fitsL (tagL 8 ++ [c] ++ x ++ y ++ z) else []
theorem numZ_nat {x : Int} (h : numZ x = true) : ∃ n : Nat, x = n ∧ n ≤ 2147483647 ∧ x.toNat = n := by
  have := of_decide_eq_true h
  exact ⟨x.toNat, by omega, by omega, rfl⟩
theorem tag_len (k : Nat) : (tagL k).length = 1 := rfl

set_option maxRecDepth 100000 in
theorem refHash_any (t : List UInt8) (ht : t.length ≤ 1000000) (w : World) : Calls Tryz.prog 35 #[.string (bs t)] w fun e w' => e = .returned (.string (bs (refHashL t))) ∧ Below w.heap.size w w' := by
  by_cases h0 : t = []
  · have hn := none_yes h0
    have HE : Hid (bs (refHashL t) = ⟨#[]⟩) := by
      show bs (refHashL t) = _
      unfold refHashL
      rw [if_pos h0]; rfl
    generalize bs t = T at *
    go_enter Tryz.func35, Tryz.ntmps35
    go_wp2
    go_ret
    exact ⟨by rw [HE.out]; rfl, Below.refl _ _⟩
  · have hn := none_no h0
    have HT : Hid (∀ W : World, Calls Tryz.prog 66 #[.int .i64 7] W fun e w' => e = .returned (.string (bs (tagL 7))) ∧ Below W.heap.size W w') := fun W => Tag_any 7 (by omega) W
    have g1 := add_ok (tagL 7) t (by rw [tag_len]; omega)
    have HF := Lib.hid (fun W => fits_any (tagL 7 ++ t) (by rw [List.length_append, tag_len]; omega) W)
    have HE : Hid (refHashL t = fitsL (tagL 7 ++ t)) := if_neg h0
    rw [HE.out]
    generalize bs (fitsL (tagL 7 ++ t)) = F at *
    generalize bs (tagL 7 ++ t) = C at *
    generalize bs (tagL 7) = G at *
    generalize bs t = T at *
    go_enter Tryz.func35, Tryz.ntmps35
    go_wp2_with (first
      | (go_at_call 66; refine (HT.out _).mono ?_; rintro e w1 ⟨rfl, b1⟩)
      | (go_at_call 65; refine (HF.out _).mono ?_; rintro e w2 ⟨rfl, rfl⟩))
    go_ret
    exact ⟨rfl, b1⟩

set_option maxRecDepth 100000 in
theorem refPub_any (k : List UInt8) (hk : k.length ≤ 1000000) (w : World) : Calls Tryz.prog 53 #[.string (bs k)] w fun e w' => e = .returned (.string (bs (refPubL k))) ∧ Below w.heap.size w w' := by
  have HK := Lib.hid (fun W => refKind_any k W)
  by_cases h0 : kindL k = 3
  · have HT : Hid (∀ W : World, Calls Tryz.prog 66 #[.int .i64 4] W fun e w' => e = .returned (.string (bs (tagL 4))) ∧ Below W.heap.size W w') := fun W => Tag_any 4 (by omega) W
    have g1 := add_ok (tagL 4) k (by rw [tag_len]; omega)
    have HE : Hid (refPubL k = tagL 4 ++ k) := if_pos h0
    rw [HE.out]
    rw [h0] at HK
    generalize bs (tagL 4 ++ k) = C at *
    generalize bs (tagL 4) = G at *
    generalize bs k = T at *
    go_enter Tryz.func53, Tryz.ntmps53
    go_wp2_with (first
      | (go_at_call 66; refine (HT.out _).mono ?_; rintro e w1 ⟨rfl, b1⟩)
      | (go_at_call 75; refine (HK.out _).mono ?_; rintro e w2 ⟨rfl, rfl⟩))
    go_ret
    exact ⟨rfl, b1⟩
  · have HE : Hid (bs (refPubL k) = ⟨#[]⟩) := by
      show bs (refPubL k) = _
      unfold refPubL
      rw [if_neg h0]; rfl
    have hq : ((kindL k : Int) != 3) = true := by rw [bne_iff_ne]; omega
    generalize bs k = T at *
    go_enter Tryz.func53, Tryz.ntmps53
    go_wp2_with (go_at_call 75; refine (HK.out _).mono ?_; rintro e w2 ⟨rfl, rfl⟩)
    go_ret
    exact ⟨by rw [HE.out]; rfl, Below.refl _ _⟩

set_option maxRecDepth 100000 in
theorem refKey_any (x : Int) (w : World) : Calls Tryz.prog 52 #[.int .i64 x] w fun e w' => e = .returned (.string (bs (refKeyL x))) ∧ Below w.heap.size w w' := by
  have HK := Lib.hid (fun W => rnumber_any x W)
  cases h0 : numZ x with
  | true =>
    obtain ⟨n, rfl, hn, hx⟩ := numZ_nat h0
    have HT : Hid (∀ W : World, Calls Tryz.prog 66 #[.int .i64 3] W fun e w' => e = .returned (.string (bs (tagL 3))) ∧ Below W.heap.size W w') := fun W => Tag_any 3 (by omega) W
    have HU := Lib.hid (fun W => refU32_any n (by omega) W)
    have g1 := add_ok (tagL 3) (pack4 n) (by rw [tag_len]; simp [pack4])
    have HE : Hid (refKeyL n = tagL 3 ++ pack4 n) := by
      show refKeyL n = _
      unfold refKeyL
      rw [if_pos h0, hx]
    rw [HE.out]
    rw [h0] at HK
    generalize bs (tagL 3 ++ pack4 n) = C at *
    generalize bs (tagL 3) = G at *
    generalize bs (pack4 n) = T at *
    go_enter Tryz.func52, Tryz.ntmps52
    go_wp2_with (first
      | (go_at_call 66; refine (HT.out _).mono ?_; rintro e w1 ⟨rfl, b1⟩)
      | (go_at_call 31; refine (HU.out _).mono ?_; rintro e w3 ⟨rfl, b3⟩)
      | (go_at_call 74; refine (HK.out _).mono ?_; rintro e w2 ⟨rfl, rfl⟩))
    go_ret
    exact ⟨rfl, b1.trans (b3.mono b1.size)⟩
  | false =>
    have HE : Hid (bs (refKeyL x) = ⟨#[]⟩) := by
      show bs (refKeyL x) = _
      unfold refKeyL
      rw [if_neg (by rw [h0]; simp)]; rfl
    rw [h0] at HK
    go_enter Tryz.func52, Tryz.ntmps52
    go_wp2_with (go_at_call 74; refine (HK.out _).mono ?_; rintro e w2 ⟨rfl, rfl⟩)
    go_ret
    exact ⟨by rw [HE.out]; rfl, Below.refl _ _⟩

set_option maxRecDepth 100000 in
theorem refNonce_any (x y : Int) (w : World) : Calls Tryz.prog 51 #[.int .i64 x, .int .i64 y] w fun e w' => e = .returned (.string (bs (refNonceL x y))) ∧ Below w.heap.size w w' := by
  have HK := Lib.hid (fun W => rnumber_any x W)
  have HL := Lib.hid (fun W => rnumber_any y W)
  by_cases hh : numZ x = true ∧ numZ y = true
  · obtain ⟨h0, h1⟩ := hh
    obtain ⟨n, rfl, hn, hx⟩ := numZ_nat h0
    obtain ⟨m, rfl, hm, hy⟩ := numZ_nat h1
    have HT : Hid (∀ W : World, Calls Tryz.prog 66 #[.int .i64 2] W fun e w' => e = .returned (.string (bs (tagL 2))) ∧ Below W.heap.size W w') := fun W => Tag_any 2 (by omega) W
    have HU := Lib.hid (fun W => refU32_any n (by omega) W)
    have HV := Lib.hid (fun W => refU32_any m (by omega) W)
    have g1 := add_ok (tagL 2) (pack4 n) (by rw [tag_len]; simp [pack4])
    have g2 := add_ok (tagL 2 ++ pack4 n) (pack4 m) (by rw [List.length_append, tag_len]; simp [pack4])
    have HE : Hid (refNonceL n m = tagL 2 ++ pack4 n ++ pack4 m) := by
      show refNonceL n m = _
      unfold refNonceL
      rw [if_pos ⟨h0, h1⟩, hx, hy]
    rw [HE.out]
    rw [h0] at HK
    rw [h1] at HL
    generalize bs (tagL 2 ++ pack4 n ++ pack4 m) = D at *
    generalize bs (tagL 2 ++ pack4 n) = C at *
    generalize bs (tagL 2) = G at *
    generalize bs (pack4 n) = T at *
    generalize bs (pack4 m) = U at *
    go_enter Tryz.func51, Tryz.ntmps51
    go_wp2_with (first
      | (go_at_call 74; with_reducible refine (HK.out _).mono ?_; rintro e w2 ⟨rfl, rfl⟩)
      | (go_at_call 74; with_reducible refine (HL.out _).mono ?_; rintro e w2 ⟨rfl, rfl⟩)
      | (go_at_call 66; refine (HT.out _).mono ?_; rintro e w1 ⟨rfl, b1⟩)
      | (go_at_call 31; have hh := b3; with_reducible refine (HV.out _).mono ?_; rintro e w4 ⟨rfl, b4⟩)
      | (go_at_call 31; with_reducible refine (HU.out _).mono ?_; rintro e w3 ⟨rfl, b3⟩))
    go_ret
    exact ⟨rfl, (b1.trans (b3.mono b1.size)).trans (b4.mono (Nat.le_trans b1.size b3.size))⟩
  · have HE : Hid (bs (refNonceL x y) = ⟨#[]⟩) := by
      show bs (refNonceL x y) = _
      unfold refNonceL
      rw [if_neg hh]; rfl
    cases h0 : numZ x with
    | true =>
      have h1 : numZ y = false := by
        cases h : numZ y
        · rfl
        · exact absurd ⟨h0, h⟩ hh
      rw [h0] at HK
      rw [h1] at HL
      go_enter Tryz.func51, Tryz.ntmps51
      go_wp2_with (first
        | (go_at_call 74; with_reducible refine (HK.out _).mono ?_; rintro e w2 ⟨rfl, rfl⟩)
        | (go_at_call 74; with_reducible refine (HL.out _).mono ?_; rintro e w2 ⟨rfl, rfl⟩))
      go_ret
      exact ⟨by rw [HE.out]; rfl, Below.refl _ _⟩
    | false =>
      rw [h0] at HK
      go_enter Tryz.func51, Tryz.ntmps51
      go_wp2_with (first
        | (go_at_call 74; with_reducible refine (HK.out _).mono ?_; rintro e w2 ⟨rfl, rfl⟩))
      go_ret
      exact ⟨by rw [HE.out]; rfl, Below.refl _ _⟩
end Go.Proofs.YtobhpclemmhpoaaGreatDoor

namespace Go.Proofs.YtobhpclemmhpoaaGreatDoor
open Go.RowKit

set_option maxRecDepth 100000 in
theorem refData_any (s : List UInt8) (hs : s.length ≤ 1000000) (w : World) : Calls Tryz.prog 30 #[.string (bs s)] w fun e w' => e = .returned (.string (bs (refDataL s))) ∧ Below w.heap.size w w' := by
  have hsz := bs_size s
  by_cases h0 : 131072 < s.length
  · have HE : Hid (bs (refDataL s) = ⟨#[]⟩) := by
      show bs (refDataL s) = _
      unfold refDataL
      rw [if_pos h0]; rfl
    rw [← hsz] at h0 hs
    clear hsz
    generalize bs s = S at *
    go_enter Tryz.func30, Tryz.ntmps30
    go_wp2
    go_ret
    exact ⟨by rw [HE.out]; rfl, Below.refl _ _⟩
  · have HT : Hid (∀ W : World, Calls Tryz.prog 66 #[.int .i64 1] W fun e w' => e = .returned (.string (bs (tagL 1))) ∧ Below W.heap.size W w') := fun W => Tag_any 1 (by omega) W
    have HU := Lib.hid (fun W => refU32_any s.length (by omega) W)
    have g1 := add_ok (tagL 1) (pack4 s.length) (by rw [tag_len]; simp [pack4])
    have g2 := add_ok (tagL 1 ++ pack4 s.length) s (by rw [List.length_append, tag_len]; simp [pack4]; omega)
    have HF := Lib.hid (fun W => fits_any (tagL 1 ++ pack4 s.length ++ s) (by rw [List.length_append, List.length_append, tag_len]; simp [pack4]; omega) W)
    have HE : Hid (refDataL s = fitsL (tagL 1 ++ pack4 s.length ++ s)) := if_neg h0
    rw [HE.out]
    have q : decide ((131072 : Int) < ((bs s).size : Int)) = false := decide_eq_false (by omega)
    clear HE h0
    rw [← hsz] at *
    generalize bs (fitsL (tagL 1 ++ pack4 (bs s).size ++ s)) = F at *
    generalize bs (tagL 1 ++ pack4 (bs s).size ++ s) = D at *
    generalize bs (tagL 1 ++ pack4 (bs s).size) = C at *
    generalize bs (pack4 (bs s).size) = P at *
    generalize bs (tagL 1) = G at *
    clear hsz
    generalize bs s = S at *
    go_enter Tryz.func30, Tryz.ntmps30
    go_wp2_with (first
      | (go_at_call 66; refine (HT.out _).mono ?_; rintro e w1 ⟨rfl, b1⟩)
      | (go_at_call 31; refine (HU.out _).mono ?_; rintro e w2 ⟨rfl, b2⟩)
      | (go_at_call 65; refine (HF.out _).mono ?_; rintro e w3 ⟨rfl, rfl⟩))
    go_ret
    exact ⟨rfl, b1.trans (b2.mono b1.size)⟩

set_option maxRecDepth 100000 in
theorem refSeal_any (k t : List UInt8) (n : Nat) (hk : k.length ≤ 1000000) (ht : t.length ≤ 1000000) (hn : n < 4294967296) (w : World) : Calls Tryz.prog 58 #[.string (bs k), .int .u32 (n : Int), .string (bs t)] w fun e w' => e = .returned (.string (bs (refSealL k n t))) ∧ Below w.heap.size w w' := by
  by_cases hh : k ≠ [] ∧ t ≠ []
  · have n1 := none_no hh.1
    have n2 := none_no hh.2
    have HT : Hid (∀ W : World, Calls Tryz.prog 66 #[.int .i64 9] W fun e w' => e = .returned (.string (bs (tagL 9))) ∧ Below W.heap.size W w') := fun W => Tag_any 9 (by omega) W
    have HU := Lib.hid (fun W => refU32_any n hn W)
    have g1 := add_ok (tagL 9) (pack4 n) (by rw [tag_len]; simp [pack4])
    have g2 := add_ok (tagL 9 ++ pack4 n) k (by rw [List.length_append, tag_len]; simp [pack4]; omega)
    have g3 := add_ok (tagL 9 ++ pack4 n ++ k) t (by rw [List.length_append, List.length_append, tag_len]; simp [pack4]; omega)
    have HF := Lib.hid (fun W => fits_any (tagL 9 ++ pack4 n ++ k ++ t) (by rw [List.length_append, List.length_append, List.length_append, tag_len]; simp [pack4]; omega) W)
    have HE : Hid (refSealL k n t = fitsL (tagL 9 ++ pack4 n ++ k ++ t)) := if_pos hh
    rw [HE.out]
    clear HE hh
    generalize bs (fitsL (tagL 9 ++ pack4 n ++ k ++ t)) = F at *
    generalize bs (tagL 9 ++ pack4 n ++ k ++ t) = E4 at *
    generalize bs (tagL 9 ++ pack4 n ++ k) = D at *
    generalize bs (tagL 9 ++ pack4 n) = C at *
    generalize bs (pack4 n) = P at *
    generalize bs (tagL 9) = G at *
    generalize bs k = K at *
    generalize bs t = T at *
    obtain ⟨z, hz⟩ : ∃ z : Int, z = n := ⟨_, rfl⟩
    have hz1 : 0 ≤ z := by omega
    have hz2 : z ≤ 4294967295 := by omega
    rw [← hz] at HU ⊢
    clear hz hn
    go_enter Tryz.func58, Tryz.ntmps58
    go_wp2_with (first
      | (go_at_call 66; refine (HT.out _).mono ?_; rintro e w1 ⟨rfl, b1⟩)
      | (go_at_call 31; refine (HU.out _).mono ?_; rintro e w2 ⟨rfl, b2⟩)
      | (go_at_call 65; refine (HF.out _).mono ?_; rintro e w3 ⟨rfl, rfl⟩))
    go_ret
    exact ⟨rfl, b1.trans (b2.mono b1.size)⟩
  · have HE : Hid (bs (refSealL k n t) = ⟨#[]⟩) := by
      show bs (refSealL k n t) = _
      unfold refSealL
      rw [if_neg hh]; rfl
    by_cases h1 : k = []
    · have n1 := none_yes h1
      generalize bs k = K at *
      generalize bs t = T at *
      clear hn
      go_enter Tryz.func58, Tryz.ntmps58
      go_wp2
      go_ret
      exact ⟨by rw [HE.out]; rfl, Below.refl _ _⟩
    · have n1 := none_no h1
      have n2 := none_yes (x := t) (by
        by_cases h : t = []
        · exact h
        · exact absurd ⟨h1, h⟩ hh)
      generalize bs k = K at *
      generalize bs t = T at *
      clear hn
      go_enter Tryz.func58, Tryz.ntmps58
      go_wp2
      go_ret
      exact ⟨by rw [HE.out]; rfl, Below.refl _ _⟩

set_option maxRecDepth 100000 in
theorem refSign_any (a k t : List UInt8) (ha : a.length ≤ 1000000) (hk : k.length ≤ 1000000) (ht : t.length ≤ 1000000) (w : World) : Calls Tryz.prog 56 #[.string (bs a), .string (bs k), .string (bs t)] w fun e w' => e = .returned (.string (bs (refSignL a k t))) ∧ Below w.heap.size w w' := by
  have hsz := bs_size a
  have HX := Lib.hid (fun W => text_any a 64 W)
  have HK := Lib.hid (fun W => refKind_any k W)
  by_cases hh : textL a 64 = true ∧ kindL k = 3 ∧ t ≠ []
  · have n2 := none_no hh.2.2
    have HT : Hid (∀ W : World, Calls Tryz.prog 66 #[.int .i64 6] W fun e w' => e = .returned (.string (bs (tagL 6))) ∧ Below W.heap.size W w') := fun W => Tag_any 6 (by omega) W
    have HU := Lib.hid (fun W => refU32_any a.length (by omega) W)
    have g1 := add_ok (tagL 6) (pack4 a.length) (by rw [tag_len]; simp [pack4])
    have g2 := add_ok (tagL 6 ++ pack4 a.length) a (by rw [List.length_append, tag_len]; simp [pack4]; omega)
    have g3 := add_ok (tagL 6 ++ pack4 a.length ++ a) k (by rw [List.length_append, List.length_append, tag_len]; simp [pack4]; omega)
    have g4 := add_ok (tagL 6 ++ pack4 a.length ++ a ++ k) t (by rw [List.length_append, List.length_append, List.length_append, tag_len]; simp [pack4]; omega)
    have HF := Lib.hid (fun W => fits_any (tagL 6 ++ pack4 a.length ++ a ++ k ++ t) (by rw [List.length_append, List.length_append, List.length_append, List.length_append, tag_len]; simp [pack4]; omega) W)
    have HE : Hid (refSignL a k t = fitsL (tagL 6 ++ pack4 a.length ++ a ++ k ++ t)) := if_pos hh
    rw [HE.out]
    rw [hh.1] at HX
    rw [hh.2.1] at HK
    clear HE hh
    generalize bs (fitsL (tagL 6 ++ pack4 a.length ++ a ++ k ++ t)) = F at *
    generalize bs (tagL 6 ++ pack4 a.length ++ a ++ k ++ t) = E4 at *
    generalize bs (tagL 6 ++ pack4 a.length ++ a ++ k) = D at *
    generalize bs (tagL 6 ++ pack4 a.length ++ a) = C2 at *
    generalize bs (tagL 6 ++ pack4 a.length) = C at *
    generalize bs (pack4 a.length) = P at *
    generalize bs (tagL 6) = G at *
    generalize bs k = K at *
    generalize bs t = T at *
    rw [← hsz] at HU
    clear hsz ha
    generalize bs a = S at *
    go_enter Tryz.func56, Tryz.ntmps56
    go_wp2_with (first
      | (go_at_call 76; refine (HX.out _).mono ?_; rintro e w5 ⟨rfl, rfl⟩)
      | (go_at_call 75; refine (HK.out _).mono ?_; rintro e w6 ⟨rfl, rfl⟩)
      | (go_at_call 66; refine (HT.out _).mono ?_; rintro e w1 ⟨rfl, b1⟩)
      | (go_at_call 31; refine (HU.out _).mono ?_; rintro e w2 ⟨rfl, b2⟩)
      | (go_at_call 65; refine (HF.out _).mono ?_; rintro e w3 ⟨rfl, rfl⟩))
    go_ret
    exact ⟨rfl, b1.trans (b2.mono b1.size)⟩
  · have HE : Hid (bs (refSignL a k t) = ⟨#[]⟩) := by
      show bs (refSignL a k t) = _
      unfold refSignL
      rw [if_neg hh]; rfl
    clear hsz
    cases h1 : textL a 64 with
    | false =>
      rw [h1] at HX
      generalize bs a = S at *
      generalize bs k = K at *
      generalize bs t = T at *
      go_enter Tryz.func56, Tryz.ntmps56
      go_wp2_with (first
        | (go_at_call 76; refine (HX.out _).mono ?_; rintro e w5 ⟨rfl, rfl⟩))
      go_ret
      exact ⟨by rw [HE.out]; rfl, Below.refl _ _⟩
    | true =>
      rw [h1] at HX
      by_cases h2 : kindL k = 3
      · have n2 := none_yes (x := t) (by
          by_cases h : t = []
          · exact h
          · exact absurd ⟨h1, h2, h⟩ hh)
        rw [h2] at HK
        generalize bs a = S at *
        generalize bs k = K at *
        generalize bs t = T at *
        go_enter Tryz.func56, Tryz.ntmps56
        go_wp2_with (first
          | (go_at_call 76; refine (HX.out _).mono ?_; rintro e w5 ⟨rfl, rfl⟩)
          | (go_at_call 75; refine (HK.out _).mono ?_; rintro e w6 ⟨rfl, rfl⟩))
        go_ret
        exact ⟨by rw [HE.out]; rfl, Below.refl _ _⟩
      · have hq : ((kindL k : Int) != 3) = true := by rw [bne_iff_ne]; omega
        generalize bs a = S at *
        generalize bs k = K at *
        generalize bs t = T at *
        go_enter Tryz.func56, Tryz.ntmps56
        go_wp2_with (first
          | (go_at_call 76; refine (HX.out _).mono ?_; rintro e w5 ⟨rfl, rfl⟩)
          | (go_at_call 75; refine (HK.out _).mono ?_; rintro e w6 ⟨rfl, rfl⟩))
        go_ret
        exact ⟨by rw [HE.out]; rfl, Below.refl _ _⟩
end Go.Proofs.YtobhpclemmhpoaaGreatDoor

namespace Go.Proofs.YtobhpclemmhpoaaGreatDoor
open Go.RowKit

def refShareL (g : List UInt8) (es : List (List UInt8)) : List UInt8 := fitsL (tagL 5 ++ pack4 g.length ++ g ++ pack4 es.length ++ es.flatten)
def refBaseL (g : List UInt8) : List UInt8 := if textL g 2100 = true then refShareL g [] else []
def refListL (l : List (List UInt8)) : List UInt8 := if l.length ≤ 32 ∧ (∀ x ∈ l, x ≠ []) ∧ 5 + l.flatten.length ≤ 131072 then tagL 10 ++ pack4 l.length ++ l.flatten else []

theorem flat_take (l : List (List UInt8)) {k : Nat} (hk : k < l.length) : (l.take (k + 1)).flatten = (l.take k).flatten ++ l[k] := by
  rw [List.take_succ_eq_append_getElem hk, List.flatten_append, List.flatten_cons, List.flatten_nil, List.append_nil]
theorem flat_len (m : Nat) : ∀ l : List (List UInt8), (∀ x ∈ l, x.length ≤ m) → l.flatten.length ≤ l.length * m
  | [], _ => by simp
  | a :: r, h => by
    have h1 := h a (by simp)
    have h2 := flat_len m r (fun x hx => h x (by simp [hx]))
    rw [List.flatten_cons, List.length_append, List.length_cons, Nat.succ_mul]
    omega

set_option maxRecDepth 100000 in
theorem refShare_any {w : World} {v : Value} (g : List UInt8) {es : List (List UInt8)} (h : TextsAt w v (es.map bs)) (hg : g.length ≤ 10000) (hl : es.length ≤ 100) (hs : ∀ x ∈ es, x.length ≤ 10000) :
    Calls Tryz.prog 77 #[.string (bs g), v] w fun e w' => e = .returned (.string (bs (refShareL g es))) ∧ Below w.heap.size w w' := by
  have hsz := bs_size g
  have hfl : ∀ k, (es.take k).flatten.length ≤ 1000000 := fun k => by
    have h1 := flat_len 10000 (es.take k) (fun x hx => hs x (List.mem_of_mem_take hx))
    have h2 : (es.take k).length ≤ 100 := by simp; omega
    have := Nat.mul_le_mul h2 (Nat.le_refl 10000)
    omega
  obtain ⟨ao, cap, rfl, hc⟩ := h
  rw [List.length_map]
  have HT : Hid (∀ W : World, Calls Tryz.prog 66 #[.int .i64 5] W fun e w' => e = .returned (.string (bs (tagL 5))) ∧ Below W.heap.size W w') := fun W => Tag_any 5 (by omega) W
  have HU := Lib.hid (fun W => refU32_any g.length (by omega) W)
  have HV := Lib.hid (fun W => refU32_any es.length (by omega) W)
  have g1 := add_ok (tagL 5) (pack4 g.length) (by rw [tag_len]; simp [pack4])
  have g2 := add_ok (tagL 5 ++ pack4 g.length) g (by rw [List.length_append, tag_len]; simp [pack4]; omega)
  have g3 := add_ok (tagL 5 ++ pack4 g.length ++ g) (pack4 es.length) (by rw [List.length_append, List.length_append, tag_len]; simp [pack4]; omega)
  obtain ⟨base, hbase⟩ : ∃ base, base = tagL 5 ++ pack4 g.length ++ g ++ pack4 es.length := ⟨_, rfl⟩
  have hbl : base.length ≤ 10009 := by rw [hbase]; simp [pack4, tag_len]; omega
  have HF := Lib.hid (fun W => fits_any (base ++ es.flatten) (by have := hfl es.length; rw [List.take_length] at this; rw [List.length_append]; omega) W)
  have HE : Hid (refShareL g es = fitsL (base ++ es.flatten)) := by
    show refShareL g es = _
    unfold refShareL
    rw [hbase]
  rw [HE.out]
  rw [← hbase] at g3
  have H0 : Hid (base ++ (es.take 0).flatten = base) := by show base ++ (es.take 0).flatten = base; simp
  have HFL := Lib.hid hfl
  clear HE hbase hfl
  generalize bs (fitsL (base ++ es.flatten)) = F at *
  generalize bs (tagL 5 ++ pack4 g.length ++ g) = C2 at *
  generalize bs (tagL 5 ++ pack4 g.length) = C at *
  generalize bs (pack4 g.length) = P at *
  generalize bs (pack4 es.length) = P2 at *
  generalize bs (tagL 5) = G at *
  rw [← hsz] at HU
  clear hsz hg
  generalize bs g = S at *
  go_enter Tryz.func77, Tryz.ntmps77
  go_wp2_with (first
    | (go_at_call 66; refine (HT.out _).mono ?_; rintro e w1 ⟨rfl, b1⟩)
    | (go_at_call 31; have hh := b2; with_reducible refine (HV.out _).mono ?_; rintro e w3 ⟨rfl, b3⟩)
    | (go_at_call 31; with_reducible refine (HU.out _).mono ?_; rintro e w2 ⟨rfl, b2⟩))
  have hb3 : Below w.heap.size w w3 := (b1.trans (b2.mono b1.size)).trans (b3.mono (Nat.le_trans b1.size b2.size))
  clear b1 b2 b3 g1 g2 g3
  go_loopw [5, 6] (fun u i wr => ∃ k : Nat, k ≤ es.length ∧ i = .int .i64 k ∧ u = .string (bs (base ++ (es.take k).flatten)) ∧ wr = w3) (fun _ i _ => es.length - (intOf i).toNat)
  case atStart => exact ⟨0, Nat.zero_le _, rfl, by rw [H0.out], rfl⟩
  case round =>
    obtain ⟨k, hk, rfl, rfl, rfl⟩ := hrel
    by_cases hlt : k < es.length
    · obtain ⟨b, off, rfl, hb, hcell⟩ := hc (by intro h; simp at h; simp [h] at hlt)
      obtain ⟨y, hy⟩ : ∃ y, y = es[k] := ⟨_, rfl⟩
      have c1 : wr.cell? ⟨b, off + k, none⟩ = some (.string (bs y)) := (hb3.cell (p := ⟨b, off + k, none⟩) hb).trans (hcell k (bs y) (by simp [hlt, hy]))
      have hys := hs y (by rw [hy]; exact List.getElem_mem hlt)
      have g1 := add_ok (base ++ (es.take k).flatten) y (by have := HFL.out k; rw [List.length_append]; omega)
      have HN : Hid (bs (base ++ (es.take (k + 1)).flatten) = bs (base ++ (es.take k).flatten ++ y)) := by
        show bs (base ++ (es.take (k + 1)).flatten) = _
        rw [flat_take es hlt, hy, List.append_assoc]
      clear hc hcell hy HFL hys
      generalize bs (base ++ (es.take k).flatten ++ y) = J2 at *
      generalize bs (base ++ (es.take k).flatten) = J1 at *
      generalize bs y = Y at *
      go_wp2_with fail
      go_roundw
      case rel => exact ⟨k + 1, by omega, by go_num, by rw [HN.out], trivial⟩
      case measure => simp [intOf]; omega
    · have hkl : k = es.length := by omega
      subst hkl
      rw [List.take_length]
      clear hlt hc HFL
      generalize bs (base ++ es.flatten) = J at *
      go_wp2_with (go_at_call 65; refine (HF.out _).mono ?_; rintro e w4 ⟨rfl, rfl⟩)
      go_ret
      exact ⟨rfl, hb3⟩

set_option maxRecDepth 100000 in
theorem refBase_any (g : List UInt8) (hg : g.length ≤ 1000000) (w : World) : Calls Tryz.prog 54 #[.string (bs g)] w fun e w' => e = .returned (.string (bs (refBaseL g))) ∧ Below w.heap.size w w' := by
  have HX := Lib.hid (fun W => text_any g 2100 W)
  cases h0 : textL g 2100 with
  | true =>
    have hb := of_decide_eq_true h0
    have HS : Hid (∀ W : World, Calls Tryz.prog 77 #[.string (bs g), .slice none 0 0] W fun e w' => e = .returned (.string (bs (refShareL g []))) ∧ Below W.heap.size W w') := fun W => refShare_any g (es := []) (TextsAt.nil W) (by omega) (by simp) (by simp)
    have HE : Hid (refBaseL g = refShareL g []) := if_pos h0
    rw [HE.out]
    rw [h0] at HX
    clear hb hg
    generalize bs (refShareL g []) = F at *
    generalize bs g = S at *
    go_enter Tryz.func54, Tryz.ntmps54
    go_wp2_with (first
      | (go_at_call 76; refine (HX.out _).mono ?_; rintro e w5 ⟨rfl, rfl⟩)
      | (go_at_call 77; refine (HS.out _).mono ?_; rintro e w1 ⟨rfl, b1⟩))
    go_ret
    exact ⟨rfl, b1⟩
  | false =>
    have HE : Hid (bs (refBaseL g) = ⟨#[]⟩) := by
      show bs (refBaseL g) = _
      unfold refBaseL
      rw [if_neg (by rw [h0]; simp)]; rfl
    rw [h0] at HX
    generalize bs g = S at *
    go_enter Tryz.func54, Tryz.ntmps54
    go_wp2_with (first
      | (go_at_call 76; refine (HX.out _).mono ?_; rintro e w5 ⟨rfl, rfl⟩))
    go_ret
    exact ⟨by rw [HE.out]; rfl, Below.refl _ _⟩

theorem refList_no {l : List (List UInt8)} (h : ¬ (l.length ≤ 32 ∧ (∀ x ∈ l, x ≠ []) ∧ 5 + l.flatten.length ≤ 131072)) : bs (refListL l) = ⟨#[]⟩ := by
  unfold refListL
  rw [if_neg h]; rfl
theorem take_flat_le (l : List (List UInt8)) (k : Nat) : (l.take k).flatten.length ≤ l.flatten.length := by
  have h := congrArg (fun x => x.flatten.length) (List.take_append_drop k l)
  simp only [List.flatten_append, List.length_append] at h
  omega
theorem take_ne {l : List (List UInt8)} {k : Nat} (hlt : k < l.length) (h : ∀ x ∈ l.take k, x ≠ []) (hr : l[k] ≠ []) : ∀ x ∈ l.take (k + 1), x ≠ [] := by
  intro x hx
  rw [List.take_succ_eq_append_getElem hlt, List.mem_append] at hx
  rcases hx with hx | hx
  · exact h x hx
  · simp at hx
    rw [hx]; exact hr

set_option maxRecDepth 100000 in
theorem refList_any {w : World} {v : Value} {l : List (List UInt8)} (h : TextsAt w v (l.map bs)) (hl : l.length ≤ 1000) (hs : ∀ x ∈ l, x.length ≤ 200000) :
    Calls Tryz.prog 33 #[v] w fun e w' => e = .returned (.string (bs (refListL l))) ∧ Below w.heap.size w w' := by
  obtain ⟨ao, cap, rfl, hc⟩ := h
  rw [List.length_map]
  by_cases h32 : 32 < l.length
  · have HE := Lib.hid (refList_no (l := l) (fun h => by omega))
    clear hc hs
    go_enter Tryz.func33, Tryz.ntmps33
    go_wp2
    go_ret
    exact ⟨by rw [HE.out]; rfl, Below.refl _ _⟩
  · have HT : Hid (∀ W : World, Calls Tryz.prog 66 #[.int .i64 10] W fun e w' => e = .returned (.string (bs (tagL 10))) ∧ Below W.heap.size W w') := fun W => Tag_any 10 (by omega) W
    have HV := Lib.hid (fun W => refU32_any l.length (by omega) W)
    have g1 := add_ok (tagL 10) (pack4 l.length) (by rw [tag_len]; simp [pack4])
    obtain ⟨base, hbase⟩ : ∃ base, base = tagL 10 ++ pack4 l.length := ⟨_, rfl⟩
    have hbl : base.length = 5 := by rw [hbase]; simp [pack4, tag_len]
    have HE : Hid ((∀ x ∈ l, x ≠ []) → 5 + l.flatten.length ≤ 131072 → refListL l = base ++ l.flatten) := fun h1 h2 => by
      unfold refListL
      rw [if_pos ⟨by omega, h1, h2⟩, hbase]
    have HN0 : Hid (¬ (l.length ≤ 32 ∧ (∀ x ∈ l, x ≠ []) ∧ 5 + l.flatten.length ≤ 131072) → bs (refListL l) = ⟨#[]⟩) := refList_no
    rw [← hbase] at g1
    have H0 : Hid (base ++ (l.take 0).flatten = base) := by show base ++ (l.take 0).flatten = base; simp
    clear hbase
    generalize bs (pack4 l.length) = P at *
    generalize bs (tagL 10) = G at *
    go_enter Tryz.func33, Tryz.ntmps33
    go_wp2_with (first
      | (go_at_call 66; refine (HT.out _).mono ?_; rintro e w1 ⟨rfl, b1⟩)
      | (go_at_call 31; refine (HV.out _).mono ?_; rintro e w2 ⟨rfl, b2⟩))
    have hb2 : Below w.heap.size w w2 := b1.trans (b2.mono b1.size)
    clear b1 b2 g1 HT HV
    go_loopw [3, 4] (fun u i wr => ∃ k : Nat, k ≤ l.length ∧ i = .int .i64 k ∧ u = .string (bs (base ++ (l.take k).flatten)) ∧ (∀ x ∈ l.take k, x ≠ []) ∧ 5 + (l.take k).flatten.length ≤ 131072 ∧ wr = w2) (fun _ i _ => l.length - (intOf i).toNat)
    case atStart => exact ⟨0, Nat.zero_le _, rfl, by rw [H0.out], by simp, by simp, rfl⟩
    case round =>
      obtain ⟨k, hk, rfl, rfl, hne, hle, rfl⟩ := hrel
      by_cases hlt : k < l.length
      · obtain ⟨b, off, rfl, hb, hcell⟩ := hc (by intro h; simp at h; simp [h] at hlt)
        obtain ⟨y, hy⟩ : ∃ y, y = l[k] := ⟨_, rfl⟩
        have c1 : wr.cell? ⟨b, off + k, none⟩ = some (.string (bs y)) := (hb2.cell (p := ⟨b, off + k, none⟩) hb).trans (hcell k (bs y) (by simp [hlt, hy]))
        have hys := hs y (by rw [hy]; exact List.getElem_mem hlt)
        by_cases hy0 : y = []
        · have n1 := none_yes hy0
          have HX := Lib.hid (HN0.out (fun h => h.2.1 y (by rw [hy]; exact List.getElem_mem hlt) hy0))
          clear hc hcell hy hys hy0 hne hle
          generalize bs (base ++ (l.take k).flatten) = J1 at *
          generalize bs y = Y at *
          go_wp2_with fail
          go_ret
          exact ⟨by rw [HX.out]; rfl, hb2⟩
        · have n1 := none_no hy0
          have g1 := add_ok (base ++ (l.take k).flatten) y (by rw [List.length_append]; omega)
          have HN : Hid (bs (base ++ (l.take (k + 1)).flatten) = bs (base ++ (l.take k).flatten ++ y)) := by
            show bs (base ++ (l.take (k + 1)).flatten) = _
            rw [flat_take l hlt, hy, List.append_assoc]
          have hlen : (base ++ (l.take k).flatten ++ y).length = 5 + (l.take (k + 1)).flatten.length := by
            rw [flat_take l hlt, ← hy]
            simp only [List.length_append, hbl]
            omega
          have hszJ := bs_size (base ++ (l.take k).flatten ++ y)
          have HNE := Lib.hid (take_ne hlt hne (by rw [← hy]; exact hy0))
          have htf := take_flat_le l (k + 1)
          by_cases hbig : 131072 < (base ++ (l.take k).flatten ++ y).length
          · have HX := Lib.hid (HN0.out (fun h => by have := h.2.2; omega))
            have q : decide ((131072 : Int) < ((bs (base ++ (l.take k).flatten ++ y)).size : Int)) = true := decide_eq_true (by omega)
            clear hc hcell hy hys hy0 hne hle hlen hszJ htf hbig
            generalize bs (base ++ (l.take k).flatten ++ y) = J2 at *
            generalize bs (base ++ (l.take k).flatten) = J1 at *
            generalize bs y = Y at *
            go_wp2_with fail
            go_ret
            exact ⟨by rw [HX.out]; rfl, hb2⟩
          · have q : decide ((131072 : Int) < ((bs (base ++ (l.take k).flatten ++ y)).size : Int)) = false := decide_eq_false (by omega)
            have HL : Hid (5 + (l.take (k + 1)).flatten.length ≤ 131072) := by show 5 + (l.take (k + 1)).flatten.length ≤ 131072; omega
            clear hc hcell hy hys hy0 hne hle hlen hszJ htf hbig
            generalize bs (base ++ (l.take k).flatten ++ y) = J2 at *
            generalize bs (base ++ (l.take k).flatten) = J1 at *
            generalize bs y = Y at *
            go_wp2_with fail
            go_roundw
            case rel => exact ⟨k + 1, by omega, by go_num, by rw [HN.out], HNE.out, HL.out, trivial⟩
            case measure => simp [intOf]; omega
      · have hkl : k = l.length := by omega
        subst hkl
        rw [List.take_length] at hne hle ⊢
        have HY : Hid (bs (refListL l) = bs (base ++ l.flatten)) := by
          show bs (refListL l) = _
          rw [HE.out hne hle]
        clear hlt hc hne hle HN0 HE
        generalize bs (base ++ l.flatten) = J at *
        go_wp2_with fail
        go_ret
        exact ⟨by rw [HY.out]; rfl, hb2⟩
end Go.Proofs.YtobhpclemmhpoaaGreatDoor

namespace Go.Proofs.YtobhpclemmhpoaaGreatDoor
open Go.RowKit

theorem conv_one (c : UInt8) (W : World) (g : Nat) (h : Holds W g 5 #[.int .u8 (c.toNat : Int)]) : (convert 71 9 (.slice (some ⟨g, 0, none⟩) 1 1)).run Tryz.prog W = .ok (.string (bs [c])) W :=
  run_string_own (base := 0) (l := [c]) ⟨by simp [byteCells], .inr ⟨g, 1, _, rfl, Nat.zero_le _, h, Nat.le_refl _, by unfold maxLen; omega, by simp, by simp [byteCells]⟩⟩

set_option maxHeartbeats 8000000 in
set_option maxRecDepth 100000 in
theorem refDerive_any (c : UInt8) (x y z : List UInt8) (hx : x.length ≤ 1000000) (hy : y.length ≤ 1000000) (hz : z.length ≤ 1000000) (w : World) : Calls Tryz.prog 57 #[.int .u8 (c.toNat : Int), .string (bs x), .string (bs y), .string (bs z)] w fun e w' => e = .returned (.string (bs (refDeriveL c x y z))) ∧ Below w.heap.size w w' := by
  by_cases hh : x ≠ [] ∧ y ≠ [] ∧ z ≠ []
  · have n1 := none_no hh.1
    have n2 := none_no hh.2.1
    have n3 := none_no hh.2.2
    have HT : Hid (∀ W : World, Calls Tryz.prog 66 #[.int .i64 8] W fun e w' => e = .returned (.string (bs (tagL 8))) ∧ Below W.heap.size W w') := fun W => Tag_any 8 (by omega) W
    have g1 := add_ok (tagL 8) [c] (by rw [tag_len]; simp)
    have g2 := add_ok (tagL 8 ++ [c]) x (by rw [List.length_append, tag_len]; simp; omega)
    have g3 := add_ok (tagL 8 ++ [c] ++ x) y (by rw [List.length_append, List.length_append, tag_len]; simp; omega)
    have g4 := add_ok (tagL 8 ++ [c] ++ x ++ y) z (by rw [List.length_append, List.length_append, List.length_append, tag_len]; simp; omega)
    have HF := Lib.hid (fun W => fits_any (tagL 8 ++ [c] ++ x ++ y ++ z) (by rw [List.length_append, List.length_append, List.length_append, List.length_append, tag_len]; simp; omega) W)
    have HE : Hid (refDeriveL c x y z = fitsL (tagL 8 ++ [c] ++ x ++ y ++ z)) := if_pos hh
    rw [HE.out]
    clear HE hh
    have hcv := conv_one c
    generalize bs (fitsL (tagL 8 ++ [c] ++ x ++ y ++ z)) = F at *
    generalize bs (tagL 8 ++ [c] ++ x ++ y ++ z) = E5 at *
    generalize bs (tagL 8 ++ [c] ++ x ++ y) = E4 at *
    generalize bs (tagL 8 ++ [c] ++ x) = D at *
    generalize bs (tagL 8 ++ [c]) = C at *
    generalize bs [c] = P at *
    generalize bs (tagL 8) = G at *
    generalize bs x = X at *
    generalize bs y = Y at *
    generalize bs z = Z at *
    generalize c.toNat = n at *
    have hcn : ∀ W : World, (convert 71 9 (.slice (some ⟨W.heap.size, 0, none⟩) 1 1)).run Tryz.prog (W.alloc (.cells #[.int .u8 (n : Int)] 5)) = .ok (.string P) (W.alloc (.cells #[.int .u8 (n : Int)] 5)) := fun W => hcv _ _ (Holds.new W _ _)
    have hcn2 : ∀ W : World, (convert 71 9 (.slice (some ⟨W.heap.size, 0, none⟩) 1 1)).run Tryz.prog ((W.alloc (.cells #[.int .u8 (n : Int)] 5)).drew) = .ok (.string P) ((W.alloc (.cells #[.int .u8 (n : Int)] 5)).drew) := fun W => hcv _ _ (show Holds _ _ _ _ from Holds.new W _ _)
    have HCV := Lib.hid hcv
    have HNW : Hid (∀ W : World, Holds ((W.alloc (.cells #[.int .u8 (n : Int)] 5)).drew) W.heap.size 5 #[.int .u8 (n : Int)]) := fun W => show Holds _ _ _ _ from Holds.new W _ _
    clear hcv
    go_enter Tryz.func57, Tryz.ntmps57
    go_wp2_with fail
    go_region_with
      (first
        | (go_at_call 66; with_reducible refine (HT.out _).mono ?_; rintro e w1 ⟨rfl, b1⟩; (try have hk1 := HCV.out _ _ (Holds.moves (HNW.out w) (Moves.ofBelow (S := nobody) b1) (fun h => h))))
        | (go_at_call 65; with_reducible refine (HF.out _).mono ?_; rintro e w2 ⟨rfl, rfl⟩))
    all_goals
      go_wp2_with fail
      go_ret
      refine ⟨rfl, ?_⟩
      first
        | exact (((Below.refl w.heap.size w).drew.trans b1).alloc (by have := b1.size; simpa using this) _)
        | exact ((((Below.refl w.heap.size w).alloc (Nat.le_refl _) _).drew).trans (b1.mono (by simp)))
  · have HE : Hid (bs (refDeriveL c x y z) = ⟨#[]⟩) := by
      show bs (refDeriveL c x y z) = _
      unfold refDeriveL
      rw [if_neg hh]; rfl
    generalize c.toNat = n at *
    by_cases h1 : x = []
    · have n1 := none_yes h1
      generalize bs x = X at *
      generalize bs y = Y at *
      generalize bs z = Z at *
      go_enter Tryz.func57, Tryz.ntmps57
      go_wp2
      go_ret
      exact ⟨by rw [HE.out]; rfl, Below.refl _ _⟩
    · have n1 := none_no h1
      by_cases h2 : y = []
      · have n2 := none_yes h2
        generalize bs x = X at *
        generalize bs y = Y at *
        generalize bs z = Z at *
        go_enter Tryz.func57, Tryz.ntmps57
        go_wp2
        go_ret
        exact ⟨by rw [HE.out]; rfl, Below.refl _ _⟩
      · have n2 := none_no h2
        have n3 := none_yes (x := z) (by
          by_cases h : z = []
          · exact h
          · exact absurd ⟨h1, h2, h⟩ hh)
        generalize bs x = X at *
        generalize bs y = Y at *
        generalize bs z = Z at *
        go_enter Tryz.func57, Tryz.ntmps57
        go_wp2
        go_ret
        exact ⟨by rw [HE.out]; rfl, Below.refl _ _⟩
end Go.Proofs.YtobhpclemmhpoaaGreatDoor
