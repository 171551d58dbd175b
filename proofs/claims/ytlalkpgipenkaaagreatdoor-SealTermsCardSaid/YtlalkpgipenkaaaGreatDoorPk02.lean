/- Part 2 of what the statement wants. -/
import Derived.Laws.Concat
import Derived.Deep.RegionHeld3
import Derived.Deep.RegionWith
import Derived.Test.YtlalkpgipenkaaaGreatDoorPk00
import Derived.Test.YtlalkpgipenkaaaGreatDoorPk01
namespace Go.Proofs.YtlalkpgipenkaaaGreatDoor
open Go.RowKit

set_option maxRecDepth 100000 in
theorem rfBody_any (s : List UInt8) (hs : s.length ≤ 1000000) (w : World) : Calls Tryz.prog 42 #[.string (bs s)] w fun e w' => e = .returned (.tuple #[.string (bs (frBodyP s).1), .int .i64 ((frBodyP s).2 : Int)]) ∧ Below w.heap.size w w' := by
  have hsz := bs_size s
  have HN := Lib.hid (fun W => rfNeed_any s hs W)
  have HZ : Hid (bs ([] : List UInt8) = ⟨#[]⟩) := rfl
  have hB : frBodyP s = if (frNeedP s).2 ≠ 0 then ([], (frNeedP s).2) else if s.length < (frNeedP s).1 then ([], 4) else if (frNeedP s).1 < s.length then ([], 3) else (s.drop 4, 0) := rfl
  have hd := bs_drop s 4
  have hle : (bs s).size ≤ 1000000 := by omega
  have hb := frNeedP_two s
  generalize frNeedP s = p at *
  obtain ⟨n, e0⟩ := p
  simp only at HN hB hb
  by_cases h0 : e0 = 0
  · subst h0
    have hn4 := hb rfl
    simp only [ne_eq, not_true_eq_false, if_false] at hB
    clear hb
    by_cases h1 : s.length < n
    · rw [if_pos h1] at hB
      have HB := Lib.hid hB
      have q1 : decide ((s.length : Int) < (n : Int)) = true := decide_eq_true (by omega)
      clear hB hd
      generalize bs s = S at *
      go_enter Tryz.func42, Tryz.ntmps42
      go_wp2_with (go_at_call 103; refine (HN.out _).mono ?_; rintro e w1 ⟨rfl, b1⟩)
      go_ret2
      exact ⟨by rw [HB.out, HZ.out]; rfl, b1⟩
    · rw [if_neg h1] at hB
      have q1 : decide ((s.length : Int) < (n : Int)) = false := decide_eq_false (by omega)
      by_cases h2 : n < s.length
      · rw [if_pos h2] at hB
        have HB := Lib.hid hB
        have q2 : decide ((s.length : Int) > (n : Int)) = true := decide_eq_true (by omega)
        clear hB hd
        generalize bs s = S at *
        go_enter Tryz.func42, Tryz.ntmps42
        go_wp2_with (go_at_call 103; refine (HN.out _).mono ?_; rintro e w1 ⟨rfl, b1⟩)
        go_ret2
        exact ⟨by rw [HB.out, HZ.out]; rfl, b1⟩
      · rw [if_neg h2] at hB
        have HB := Lib.hid hB
        have q2 : decide ((s.length : Int) > (n : Int)) = false := decide_eq_false (by omega)
        have q4 : 4 ≤ s.length := by omega
        obtain ⟨D, hD⟩ : ∃ D, D = bs (s.drop 4) := ⟨_, rfl⟩
        rw [← hD, hsz] at hd
        have HD := Lib.hid hD
        clear hB hD
        generalize bs s = S at *
        go_enter Tryz.func42, Tryz.ntmps42
        go_wp2_with (go_at_call 103; refine (HN.out _).mono ?_; rintro e w1 ⟨rfl, b1⟩)
        go_ret2
        exact ⟨by rw [HB.out, ← HD.out]; rfl, b1⟩
  · rw [if_pos h0] at hB
    have HB := Lib.hid hB
    have q0 : ((e0 : Int) != 0) = true := by simp; omega
    clear hB hb hd
    generalize bs s = S at *
    go_enter Tryz.func42, Tryz.ntmps42
    go_wp2_with (go_at_call 103; refine (HN.out _).mono ?_; rintro e w1 ⟨rfl, b1⟩)
    go_ret2
    exact ⟨by rw [HB.out, HZ.out]; rfl, b1⟩
end Go.Proofs.YtlalkpgipenkaaaGreatDoor

namespace Go.Proofs.YtlalkpgipenkaaaGreatDoor
open Go.RowKit

theorem ba_beq (a b : ByteArray) : (a == b) = (a.data == b.data) := rfl
instance ba_law : LawfulBEq ByteArray where
  eq_of_beq := by
    intro a b h
    rw [ba_beq] at h
    cases a; cases b
    exact congrArg _ (eq_of_beq h)
  rfl := by
    intro a
    rw [ba_beq]
    exact beq_self_eq_true _

theorem ba_toList (a : ByteArray) : a.toList = a.data.toList := ByteArray.toList_eq a
/-- The model's test of two strings. -/
theorem same_yes {a b : ByteArray} (h : a = b) : (a.toList == b.toList) = true := by simp [h]
theorem same_no {a b : ByteArray} (h : a ≠ b) : (a.toList == b.toList) = false := by
  rw [beq_eq_false_iff_ne, ba_toList, ba_toList]
  intro e
  apply h
  cases a; cases b
  simpa using e
end Go.Proofs.YtlalkpgipenkaaaGreatDoor

namespace Go.Proofs.YtlalkpgipenkaaaGreatDoor
open Go.RowKit

/-- A slice value that reads as the strings l. -/
def TextsAt (w : World) (v : Value) (l : List ByteArray) : Prop :=
  ∃ ao cap, v = .slice ao l.length cap ∧ (l ≠ [] → ∃ b off, ao = some ⟨b, off, none⟩ ∧ b < w.heap.size ∧ ∀ k x, l[k]? = some x → w.cell? ⟨b, off + k, none⟩ = some (.string x))

theorem TextsAt.nil (w : World) : TextsAt w (.slice none 0 0) [] := ⟨none, 0, rfl, fun h => absurd rfl h⟩
theorem TextsAt.keep {w w' : World} {v : Value} {l : List ByteArray} (h : TextsAt w v l) (hs : w.heap.size ≤ w'.heap.size) (hc : ∀ b off cap i, v = .slice (some ⟨b, off, none⟩) l.length cap → b < w.heap.size → w'.cell? ⟨b, i, none⟩ = w.cell? ⟨b, i, none⟩) : TextsAt w' v l := by
  obtain ⟨ao, cap, rfl, h⟩ := h
  refine ⟨ao, cap, rfl, fun hne => ?_⟩
  obtain ⟨b, off, rfl, hb, hk⟩ := h hne
  exact ⟨b, off, rfl, by omega, fun k x hx => (hc b off cap _ rfl hb).trans (hk k x hx)⟩
theorem TextsAt.below {w w' : World} {v : Value} {l : List ByteArray} (h : TextsAt w v l) (hb : Below w.heap.size w w') : TextsAt w' v l :=
  h.keep hb.size fun _ _ _ _ _ hlt => hb.cell hlt
theorem TextsAt.drew {w : World} {v : Value} {l : List ByteArray} (h : TextsAt w v l) : TextsAt w.drew v l := h
/-- The slice of the first n. -/
theorem TextsAt.take {w : World} {ao : Option Addr} {cap : Nat} {l : List ByteArray} (h : TextsAt w (.slice ao l.length cap) l) {n : Nat} (hn : n ≤ l.length) (c : Nat) : TextsAt w (.slice ao n c) (l.take n) := by
  obtain ⟨ao', cap', hv, h⟩ := h
  simp only [Value.slice.injEq] at hv
  obtain ⟨rfl, _, rfl⟩ := hv
  refine ⟨ao, c, by simp [Nat.min_eq_left hn], fun hne => ?_⟩
  obtain ⟨b, off, rfl, hb, hk⟩ := h (by rintro rfl; simp at hne)
  refine ⟨b, off, rfl, hb, fun k x hx => hk k x ?_⟩
  have hk' : k < n := by
    have := (List.getElem?_eq_some_iff.1 hx).1
    simp at this
    omega
  rw [List.getElem?_take] at hx
  simpa [hk'] using hx
end Go.Proofs.YtlalkpgipenkaaaGreatDoor

namespace Go.Proofs.YtlalkpgipenkaaaGreatDoor
open Go.RowKit

theorem add_ok (a b : List UInt8) (h : a.length + b.length ≤ 10000000) : ∀ W : World, (Op.stringOp .add (bs a) (bs b)).run Tryz.prog W = .ok (.string (bs (a ++ b))) W := fun W => by
  have := run_string_add_sum (P := Tryz.prog) W (bs a) (bs b) (by rw [bs_size, bs_size]; omega)
  rw [bs_append] at this
  exact this
theorem bs_none (x : List UInt8) : (bs x).toList.isEmpty = x.isEmpty := by
  rw [ByteArray.toList_eq]
  simp [bs]
theorem none_no {x : List UInt8} (h : x ≠ []) : (bs x).toList.isEmpty = false := by rw [bs_none]; simpa using h

def tagL (k : Nat) : List UInt8 := [UInt8.ofNat (240 + k)]
def fitsL (l : List UInt8) : List UInt8 := if 131072 < l.length then [] else l
def numZ (n : Int) : Bool := decide (0 ≤ n ∧ n ≤ 2147483647)
def textL (l : List UInt8) (m : Int) : Bool := decide (1 ≤ l.length ∧ (l.length : Int) ≤ m)
def kindL : List UInt8 → Nat
  | [] => 0
  | b :: _ => if b.toNat < 241 ∨ 250 < b.toNat then 0 else b.toNat - 240

theorem Tag_int (z : Int) (h0 : 0 ≤ z) (h1 : z ≤ 10) (w : World) : Calls Tryz.prog 109 #[.int .i64 z] w fun e w' => e = .returned (.string (bs (tagL z.toNat))) ∧ Below w.heap.size w w' := by
  have hm : (240 + z) % 256 = ((UInt8.ofNat (240 + z.toNat)).toNat : Int) := by
    rw [UInt8.toNat_ofNat']
    omega
  have hcv := run_string_new w (tagL z.toNat) (by simp [tagL]) #[.int .u8 ((240 + z) % 256)] (by rw [hm]; rfl)
  have hl : (tagL z.toNat).length = 1 := rfl
  rw [hl] at hcv
  have hcv2 : (convert 89 9 (.slice (some ⟨w.heap.size, 0, none⟩) 1 1)).run Tryz.prog (w.alloc (.cells #[.int .u8 ((240 + z) % 256)] 5)) = .ok (.string (bs (tagL z.toNat))) (w.alloc (.cells #[.int .u8 ((240 + z) % 256)] 5)) := hcv
  have he : (240 + z) % 256 = 240 + z := by omega
  rw [he] at hcv2
  clear hcv hm hl he
  generalize bs (tagL z.toNat) = T at *
  go_enter Tryz.func109, Tryz.ntmps109
  go_wp2
  go_ret
  exact ⟨rfl, (Below.refl _ _).alloc (Nat.le_refl _) _⟩
theorem Tag_any (k : Nat) (hk : k ≤ 10) (w : World) : Calls Tryz.prog 109 #[.int .i64 (k : Int)] w fun e w' => e = .returned (.string (bs (tagL k))) ∧ Below w.heap.size w w' :=
  Tag_int (k : Int) (by omega) (by omega) w

set_option maxRecDepth 100000 in
theorem fits_any (l : List UInt8) (hl : l.length ≤ 10000000) (w : World) : Calls Tryz.prog 108 #[.string (bs l)] w fun e w' => e = .returned (.string (bs (fitsL l))) ∧ w' = w := by
  have hsz := bs_size l
  by_cases h : 131072 < l.length
  · have HE : Hid (bs (fitsL l) = ⟨#[]⟩) := by
      show bs (fitsL l) = _
      unfold fitsL
      rw [if_pos h]
      rfl
    rw [← hsz] at h hl
    clear hsz
    generalize bs l = S at *
    go_enter Tryz.func108, Tryz.ntmps108
    go_wp2
    go_ret
    exact ⟨by rw [HE.out]; rfl, rfl⟩
  · have HE : Hid (bs (fitsL l) = bs l) := by
      show bs (fitsL l) = _
      unfold fitsL
      rw [if_neg h]
    rw [← hsz] at h hl
    clear hsz
    have q : decide ((131072 : Int) < ((bs l).size : Int)) = false := decide_eq_false (by omega)
    clear h
    generalize bs (fitsL l) = F at *
    generalize bs l = S at *
    go_enter Tryz.func108, Tryz.ntmps108
    go_wp2
    go_ret
    exact ⟨by rw [HE.out]; rfl, rfl⟩

theorem rnumber_any (n : Int) (w : World) : Calls Tryz.prog 111 #[.int .i64 n] w fun e w' => e = .returned (.bool (numZ n)) ∧ w' = w := by
  by_cases h0 : 0 ≤ n
  · by_cases h1 : n ≤ 2147483647
    · have HE : Hid (numZ n = true) := decide_eq_true ⟨h0, h1⟩
      go_enter Tryz.func111, Tryz.ntmps111
      go_wp2
      go_ret
      exact ⟨by rw [HE.out]; rfl, rfl⟩
    · have HE : Hid (numZ n = false) := decide_eq_false fun h => h1 h.2
      have hq : decide (n ≤ 2147483647) = false := decide_eq_false h1
      go_enter Tryz.func111, Tryz.ntmps111
      go_wp2
      go_ret
      exact ⟨by rw [HE.out]; rfl, rfl⟩
  · have HE : Hid (numZ n = false) := decide_eq_false fun h => h0 h.1
    have hq : decide (n ≥ 0) = false := decide_eq_false h0
    go_enter Tryz.func111, Tryz.ntmps111
    go_wp2
    go_ret
    exact ⟨by rw [HE.out]; rfl, rfl⟩

theorem text_any (l : List UInt8) (m : Int) (w : World) : Calls Tryz.prog 112 #[.string (bs l), .int .i64 m] w fun e w' => e = .returned (.bool (textL l m)) ∧ w' = w := by
  have hsz := bs_size l
  generalize bs l = S at *
  by_cases h0 : 1 ≤ l.length
  · have q0 : decide ((l.length : Int) ≥ 1) = true := decide_eq_true (by omega)
    by_cases h1 : (l.length : Int) ≤ m
    · have HE : Hid (textL l m = true) := decide_eq_true ⟨h0, h1⟩
      have q1 : decide ((l.length : Int) ≤ m) = true := decide_eq_true h1
      go_enter Tryz.func112, Tryz.ntmps112
      go_wp2
      go_ret
      exact ⟨by rw [HE.out]; rfl, rfl⟩
    · have HE : Hid (textL l m = false) := decide_eq_false fun h => h1 h.2
      have q1 : decide ((l.length : Int) ≤ m) = false := decide_eq_false h1
      go_enter Tryz.func112, Tryz.ntmps112
      go_wp2
      go_ret
      exact ⟨by rw [HE.out]; rfl, rfl⟩
  · have HE : Hid (textL l m = false) := decide_eq_false fun h => h0 h.1
    have q0 : decide ((l.length : Int) ≥ 1) = false := decide_eq_false (by omega)
    go_enter Tryz.func112, Tryz.ntmps112
    go_wp2
    go_ret
    exact ⟨by rw [HE.out]; rfl, rfl⟩

set_option maxRecDepth 100000 in
theorem refKind_any (l : List UInt8) (w : World) : Calls Tryz.prog 27 #[.string (bs l)] w fun e w' => e = .returned (.int .i64 (kindL l : Int)) ∧ w' = w := by
  cases l with
  | nil =>
    rw [show bs ([] : List UInt8) = ⟨#[]⟩ from rfl]
    go_enter Tryz.func27, Tryz.ntmps27
    go_wp2
    go_ret
    exact ⟨rfl, rfl⟩
  | cons b r =>
    have hi0 : ∀ W : World, (Instr.index 9 (.string (bs (b :: r))) (.int .i64 0)).run Tryz.prog W = .ok (.int .u8 (b.toNat : Int)) W := fun W => index_bs (b :: r) 0 (by simp) W
    have hsz := bs_size (b :: r)
    simp only [List.length_cons] at hsz
    have hq0 : ((bs (b :: r)).size : Int) ≠ 0 := by omega
    have hb := UInt8.toNat_lt b
    have HK : Hid (kindL (b :: r) = if b.toNat < 241 ∨ 250 < b.toNat then 0 else b.toNat - 240) := rfl
    clear hsz
    generalize bs (b :: r) = S at *
    generalize kindL (b :: r) = kk at *
    generalize b.toNat = n at *
    have hqz : ((S.size : Int) == 0) = false := by rw [beq_eq_false_iff_ne]; exact hq0
    clear hq0
    by_cases h1 : n < 241
    · have HE : Hid (kk = 0) := by show kk = 0; rw [HK.out, if_pos (.inl h1)]
      have q1 : decide ((n : Int) < 241) = true := decide_eq_true (by omega)
      go_enter Tryz.func27, Tryz.ntmps27
      go_wp2
      go_ret
      exact ⟨by rw [HE.out]; rfl, rfl⟩
    · have q1 : decide ((n : Int) < 241) = false := decide_eq_false (by omega)
      by_cases h2 : 250 < n
      · have HE : Hid (kk = 0) := by show kk = 0; rw [HK.out, if_pos (.inr h2)]
        have q2 : decide ((n : Int) > 250) = true := decide_eq_true (by omega)
        go_enter Tryz.func27, Tryz.ntmps27
        go_wp2
        go_ret
        exact ⟨by rw [HE.out]; rfl, rfl⟩
      · have HE : Hid ((kk : Int) = (n : Int) - 240) := by show (kk : Int) = _; rw [HK.out, if_neg (by omega)]; omega
        have q2 : decide ((n : Int) > 250) = false := decide_eq_false (by omega)
        go_enter Tryz.func27, Tryz.ntmps27
        go_wp2
        go_ret
        exact ⟨by rw [HE.out]; rfl, rfl⟩
end Go.Proofs.YtlalkpgipenkaaaGreatDoor

namespace Go.Proofs.YtlalkpgipenkaaaGreatDoor
open Go.RowKit

/-! ### the constructors -/
def refDataL (s : List UInt8) : List UInt8 := if 131072 < s.length then [] else fitsL (tagL 1 ++ pack4 s.length ++ s)
def refNonceL (x y : Int) : List UInt8 := if numZ x = true ∧ numZ y = true then tagL 2 ++ pack4 x.toNat ++ pack4 y.toNat else []
def refKeyL (x : Int) : List UInt8 := if numZ x = true then tagL 3 ++ pack4 x.toNat else []
def refPubL (k : List UInt8) : List UInt8 := if kindL k = 3 then tagL 4 ++ k else []
def refHashL (t : List UInt8) : List UInt8 := if t = [] then [] else fitsL (tagL 7 ++ t)
def refSignL (a k t : List UInt8) : List UInt8 := if textL a 64 = true ∧ kindL k = 3 ∧ t ≠ [] then fitsL (tagL 6 ++ pack4 a.length ++ a ++ k ++ t) else []
def refSealL (k : List UInt8) (n : Nat) (t : List UInt8) : List UInt8 := if k ≠ [] ∧ t ≠ [] then fitsL (tagL 9 ++ pack4 n ++ k ++ t) else []
def refDeriveL (c : UInt8) (x y z : List UInt8) : List UInt8 := if x ≠ [] ∧ y ≠ [] ∧ z ≠ [] then fitsL (tagL 8 ++ [c] ++ x ++ y ++ z) else []
theorem numZ_nat {x : Int} (h : numZ x = true) : ∃ n : Nat, x = n ∧ n ≤ 2147483647 ∧ x.toNat = n := by
  have := of_decide_eq_true h
  exact ⟨x.toNat, by omega, by omega, rfl⟩
theorem tag_len (k : Nat) : (tagL k).length = 1 := rfl

end Go.Proofs.YtlalkpgipenkaaaGreatDoor

namespace Go.Proofs.YtlalkpgipenkaaaGreatDoor
open Go.RowKit

set_option maxRecDepth 100000 in
theorem refData_any (s : List UInt8) (hs : s.length ≤ 1000000) (w : World) : Calls Tryz.prog 58 #[.string (bs s)] w fun e w' => e = .returned (.string (bs (refDataL s))) ∧ Below w.heap.size w w' := by
  have hsz := bs_size s
  by_cases h0 : 131072 < s.length
  · have HE : Hid (bs (refDataL s) = ⟨#[]⟩) := by
      show bs (refDataL s) = _
      unfold refDataL
      rw [if_pos h0]; rfl
    rw [← hsz] at h0 hs
    clear hsz
    generalize bs s = S at *
    go_enter Tryz.func58, Tryz.ntmps58
    go_wp2
    go_ret
    exact ⟨by rw [HE.out]; rfl, Below.refl _ _⟩
  · have HT : Hid (∀ W : World, Calls Tryz.prog 109 #[.int .i64 1] W fun e w' => e = .returned (.string (bs (tagL 1))) ∧ Below W.heap.size W w') := fun W => Tag_any 1 (by omega) W
    have HU := Lib.hid (fun W => refU32_any s.length (by omega) W)
    have g1 := add_ok (tagL 1) (pack4 s.length) (by rw [tag_len]; simp [pack4])
    have g2 := add_ok (tagL 1 ++ pack4 s.length) s (by rw [List.length_append, tag_len]; simp [pack4]; omega)
    have HF := Lib.hid (fun W => fits_any (tagL 1 ++ pack4 s.length ++ s) (by rw [List.length_append, List.length_append, tag_len]; simp [pack4]; omega) W)
    have HE : Hid (refDataL s = fitsL (tagL 1 ++ pack4 s.length ++ s)) := if_neg h0
    rw [HE.out]
    have q : decide ((131072 : Int) < ((bs s).size : Int)) = false := decide_eq_false (by omega)
    clear HE h0
    rw [← hsz] at *
    generalize bs (fitsL (tagL 1 ++ pack4 (bs s).size ++ s)) = F at *
    generalize bs (tagL 1 ++ pack4 (bs s).size ++ s) = D at *
    generalize bs (tagL 1 ++ pack4 (bs s).size) = C at *
    generalize bs (pack4 (bs s).size) = P at *
    generalize bs (tagL 1) = G at *
    clear hsz
    generalize bs s = S at *
    go_enter Tryz.func58, Tryz.ntmps58
    go_wp2_with (first
      | (go_at_call 109; refine (HT.out _).mono ?_; rintro e w1 ⟨rfl, b1⟩)
      | (go_at_call 110; refine (HU.out _).mono ?_; rintro e w2 ⟨rfl, b2⟩)
      | (go_at_call 108; refine (HF.out _).mono ?_; rintro e w3 ⟨rfl, rfl⟩))
    go_ret
    exact ⟨rfl, b1.trans (b2.mono b1.size)⟩

end Go.Proofs.YtlalkpgipenkaaaGreatDoor

namespace Go.Proofs.YtlalkpgipenkaaaGreatDoor
open Go.RowKit

def refShareL (g : List UInt8) (es : List (List UInt8)) : List UInt8 := fitsL (tagL 5 ++ pack4 g.length ++ g ++ pack4 es.length ++ es.flatten)
def refBaseL (g : List UInt8) : List UInt8 := if textL g 2100 = true then refShareL g [] else []
def refListL (l : List (List UInt8)) : List UInt8 := if l.length ≤ 32 ∧ (∀ x ∈ l, x ≠ []) ∧ 5 + l.flatten.length ≤ 131072 then tagL 10 ++ pack4 l.length ++ l.flatten else []

end Go.Proofs.YtlalkpgipenkaaaGreatDoor

namespace Go.Proofs.YtlalkpgipenkaaaGreatDoor
open Go.RowKit

end Go.Proofs.YtlalkpgipenkaaaGreatDoor
