/- Part 10 of what the statement wants. -/
import Derived.Laws.Concat
import Derived.Deep.RegionHeld3
import Derived.Deep.RegionWith
import Derived.Test.YtjlbifpbdocahaaPk01
import Derived.Test.YtjlbifpbdocahaaPk09
namespace Go.Proofs.Ytjlbifpbdocahaa
open Go.RowKit

theorem add_ok (a b : List UInt8) (h : a.length + b.length ≤ 10000000) : ∀ W : World, (Op.stringOp .add (bs a) (bs b)).run Try.prog W = .ok (.string (bs (a ++ b))) W := fun W => by
  have := run_string_add_sum (P := Try.prog) W (bs a) (bs b) (by rw [bs_size, bs_size]; omega)
  rw [bs_append] at this
  exact this
def tagL (k : Nat) : List UInt8 := [UInt8.ofNat (240 + k)]
def fitsL (l : List UInt8) : List UInt8 := if 131072 < l.length then [] else l
def numZ (n : Int) : Bool := decide (0 ≤ n ∧ n ≤ 2147483647)
def textL (l : List UInt8) (m : Int) : Bool := decide (1 ≤ l.length ∧ (l.length : Int) ≤ m)

theorem Tag_int (z : Int) (h0 : 0 ≤ z) (h1 : z ≤ 10) (w : World) : Calls Try.prog 76 #[.int .i64 z] w fun e w' => e = .returned (.string (bs (tagL z.toNat))) ∧ Below w.heap.size w w' := by
  have hm : (240 + z) % 256 = ((UInt8.ofNat (240 + z.toNat)).toNat : Int) := by
    rw [UInt8.toNat_ofNat']
    omega
  have hcv := run_string_new w (tagL z.toNat) (by simp [tagL]) #[.int .u8 ((240 + z) % 256)] (by rw [hm]; rfl)
  have hl : (tagL z.toNat).length = 1 := rfl
  rw [hl] at hcv
  have hcv2 : (convert 83 9 (.slice (some ⟨w.heap.size, 0, none⟩) 1 1)).run Try.prog (w.alloc (.cells #[.int .u8 ((240 + z) % 256)] 5)) = .ok (.string (bs (tagL z.toNat))) (w.alloc (.cells #[.int .u8 ((240 + z) % 256)] 5)) := hcv
  have he : (240 + z) % 256 = 240 + z := by omega
  rw [he] at hcv2
  clear hcv hm hl he
  generalize bs (tagL z.toNat) = T at *
  go_enter Try.func76, Try.ntmps76
  go_wp2
  go_ret
  exact ⟨rfl, (Below.refl _ _).alloc (Nat.le_refl _) _⟩
theorem Tag_any (k : Nat) (hk : k ≤ 10) (w : World) : Calls Try.prog 76 #[.int .i64 (k : Int)] w fun e w' => e = .returned (.string (bs (tagL k))) ∧ Below w.heap.size w w' :=
  Tag_int (k : Int) (by omega) (by omega) w

theorem rnumber_any (n : Int) (w : World) : Calls Try.prog 87 #[.int .i64 n] w fun e w' => e = .returned (.bool (numZ n)) ∧ w' = w := by
  by_cases h0 : 0 ≤ n
  · by_cases h1 : n ≤ 2147483647
    · have HE : Hid (numZ n = true) := decide_eq_true ⟨h0, h1⟩
      go_enter Try.func87, Try.ntmps87
      go_wp2
      go_ret
      exact ⟨by rw [HE.out]; rfl, rfl⟩
    · have HE : Hid (numZ n = false) := decide_eq_false fun h => h1 h.2
      have hq : decide (n ≤ 2147483647) = false := decide_eq_false h1
      go_enter Try.func87, Try.ntmps87
      go_wp2
      go_ret
      exact ⟨by rw [HE.out]; rfl, rfl⟩
  · have HE : Hid (numZ n = false) := decide_eq_false fun h => h0 h.1
    have hq : decide (n ≥ 0) = false := decide_eq_false h0
    go_enter Try.func87, Try.ntmps87
    go_wp2
    go_ret
    exact ⟨by rw [HE.out]; rfl, rfl⟩

theorem text_any (l : List UInt8) (m : Int) (w : World) : Calls Try.prog 90 #[.string (bs l), .int .i64 m] w fun e w' => e = .returned (.bool (textL l m)) ∧ w' = w := by
  have hsz := bs_size l
  generalize bs l = S at *
  by_cases h0 : 1 ≤ l.length
  · have q0 : decide ((l.length : Int) ≥ 1) = true := decide_eq_true (by omega)
    by_cases h1 : (l.length : Int) ≤ m
    · have HE : Hid (textL l m = true) := decide_eq_true ⟨h0, h1⟩
      have q1 : decide ((l.length : Int) ≤ m) = true := decide_eq_true h1
      go_enter Try.func90, Try.ntmps90
      go_wp2
      go_ret
      exact ⟨by rw [HE.out]; rfl, rfl⟩
    · have HE : Hid (textL l m = false) := decide_eq_false fun h => h1 h.2
      have q1 : decide ((l.length : Int) ≤ m) = false := decide_eq_false h1
      go_enter Try.func90, Try.ntmps90
      go_wp2
      go_ret
      exact ⟨by rw [HE.out]; rfl, rfl⟩
  · have HE : Hid (textL l m = false) := decide_eq_false fun h => h0 h.1
    have q0 : decide ((l.length : Int) ≥ 1) = false := decide_eq_false (by omega)
    go_enter Try.func90, Try.ntmps90
    go_wp2
    go_ret
    exact ⟨by rw [HE.out]; rfl, rfl⟩

end Go.Proofs.Ytjlbifpbdocahaa

namespace Go.Proofs.Ytjlbifpbdocahaa
open Go.RowKit

/-! ### the constructors -/
def refDataL (s : List UInt8) : List UInt8 := if 131072 < s.length then [] else fitsL (tagL 1 ++ pack4 s.length ++ s)
def refNonceL (x y : Int) : List UInt8 := if numZ x = true ∧ numZ y = true then tagL 2 ++ pack4 x.toNat ++ pack4 y.toNat else []
def refKeyL (x : Int) : List UInt8 := if numZ x = true then tagL 3 ++ pack4 x.toNat else []
def refPubL (k : List UInt8) : List UInt8 := if kindL k = 3 then tagL 4 ++ k else []
def refHashL (t : List UInt8) : List UInt8 := if t = [] then [] else fitsL (tagL 7 ++ t)
def refSignL (a k t : List UInt8) : List UInt8 := if textL a 64 = true ∧ kindL k = 3 ∧ t ≠ [] then fitsL (tagL 6 ++ pack4 a.length ++ a ++ k ++ t) else []
def refSealL (k : List UInt8) (n : Nat) (t : List UInt8) : List UInt8 := if k ≠ [] ∧ t ≠ [] then fitsL (tagL 9 ++ pack4 n ++ k ++ t) else []
def refDeriveL (c : UInt8) (x y z : List UInt8) : List UInt8 := if x ≠ [] ∧ y ≠ [] ∧ z ≠ [] then fitsL (tagL 8 ++ [c] ++ x ++ y ++ z) else []
theorem numZ_nat {x : Int} (h : numZ x = true) : ∃ n : Nat, x = n ∧ n ≤ 2147483647 ∧ x.toNat = n := by
  have := of_decide_eq_true h
  exact ⟨x.toNat, by omega, by omega, rfl⟩
theorem tag_len (k : Nat) : (tagL k).length = 1 := rfl

set_option maxRecDepth 100000 in
theorem refPub_any (k : List UInt8) (hk : k.length ≤ 1000000) (w : World) : Calls Try.prog 54 #[.string (bs k)] w fun e w' => e = .returned (.string (bs (refPubL k))) ∧ Below w.heap.size w w' := by
  have HK := Lib.hid (fun W => refKind_any k W)
  by_cases h0 : kindL k = 3
  · have HT : Hid (∀ W : World, Calls Try.prog 76 #[.int .i64 4] W fun e w' => e = .returned (.string (bs (tagL 4))) ∧ Below W.heap.size W w') := fun W => Tag_any 4 (by omega) W
    have g1 := add_ok (tagL 4) k (by rw [tag_len]; omega)
    have HE : Hid (refPubL k = tagL 4 ++ k) := if_pos h0
    rw [HE.out]
    rw [h0] at HK
    generalize bs (tagL 4 ++ k) = C at *
    generalize bs (tagL 4) = G at *
    generalize bs k = T at *
    go_enter Try.func54, Try.ntmps54
    go_wp2_with (first
      | (go_at_call 76; refine (HT.out _).mono ?_; rintro e w1 ⟨rfl, b1⟩)
      | (go_at_call 85; refine (HK.out _).mono ?_; rintro e w2 ⟨rfl, rfl⟩))
    go_ret
    exact ⟨rfl, b1⟩
  · have HE : Hid (bs (refPubL k) = ⟨#[]⟩) := by
      show bs (refPubL k) = _
      unfold refPubL
      rw [if_neg h0]; rfl
    have hq : ((kindL k : Int) != 3) = true := by rw [bne_iff_ne]; omega
    generalize bs k = T at *
    go_enter Try.func54, Try.ntmps54
    go_wp2_with (go_at_call 85; refine (HK.out _).mono ?_; rintro e w2 ⟨rfl, rfl⟩)
    go_ret
    exact ⟨by rw [HE.out]; rfl, Below.refl _ _⟩

set_option maxRecDepth 100000 in
theorem refKey_any (x : Int) (w : World) : Calls Try.prog 55 #[.int .i64 x] w fun e w' => e = .returned (.string (bs (refKeyL x))) ∧ Below w.heap.size w w' := by
  have HK := Lib.hid (fun W => rnumber_any x W)
  cases h0 : numZ x with
  | true =>
    obtain ⟨n, rfl, hn, hx⟩ := numZ_nat h0
    have HT : Hid (∀ W : World, Calls Try.prog 76 #[.int .i64 3] W fun e w' => e = .returned (.string (bs (tagL 3))) ∧ Below W.heap.size W w') := fun W => Tag_any 3 (by omega) W
    have HU := Lib.hid (fun W => refU32_any n (by omega) W)
    have g1 := add_ok (tagL 3) (pack4 n) (by rw [tag_len]; simp [pack4])
    have HE : Hid (refKeyL n = tagL 3 ++ pack4 n) := by
      show refKeyL n = _
      unfold refKeyL
      rw [if_pos h0, hx]
    rw [HE.out]
    rw [h0] at HK
    generalize bs (tagL 3 ++ pack4 n) = C at *
    generalize bs (tagL 3) = G at *
    generalize bs (pack4 n) = T at *
    go_enter Try.func55, Try.ntmps55
    go_wp2_with (first
      | (go_at_call 76; refine (HT.out _).mono ?_; rintro e w1 ⟨rfl, b1⟩)
      | (go_at_call 77; refine (HU.out _).mono ?_; rintro e w3 ⟨rfl, b3⟩)
      | (go_at_call 87; refine (HK.out _).mono ?_; rintro e w2 ⟨rfl, rfl⟩))
    go_ret
    exact ⟨rfl, b1.trans (b3.mono b1.size)⟩
  | false =>
    have HE : Hid (bs (refKeyL x) = ⟨#[]⟩) := by
      show bs (refKeyL x) = _
      unfold refKeyL
      rw [if_neg (by rw [h0]; simp)]; rfl
    rw [h0] at HK
    go_enter Try.func55, Try.ntmps55
    go_wp2_with (go_at_call 87; refine (HK.out _).mono ?_; rintro e w2 ⟨rfl, rfl⟩)
    go_ret
    exact ⟨by rw [HE.out]; rfl, Below.refl _ _⟩

end Go.Proofs.Ytjlbifpbdocahaa

namespace Go.Proofs.Ytjlbifpbdocahaa
open Go.RowKit

end Go.Proofs.Ytjlbifpbdocahaa

namespace Go.Proofs.Ytjlbifpbdocahaa
open Go.RowKit

def refShareL (g : List UInt8) (es : List (List UInt8)) : List UInt8 := fitsL (tagL 5 ++ pack4 g.length ++ g ++ pack4 es.length ++ es.flatten)
def refBaseL (g : List UInt8) : List UInt8 := if textL g 2100 = true then refShareL g [] else []
def refListL (l : List (List UInt8)) : List UInt8 := if l.length ≤ 32 ∧ (∀ x ∈ l, x ≠ []) ∧ 5 + l.flatten.length ≤ 131072 then tagL 10 ++ pack4 l.length ++ l.flatten else []

end Go.Proofs.Ytjlbifpbdocahaa

namespace Go.Proofs.Ytjlbifpbdocahaa
open Go.RowKit

end Go.Proofs.Ytjlbifpbdocahaa
