/- Part 5 of what the statement wants. -/
import Derived.LoopTactic
import Derived.Laws.Tables
import Derived.Laws.CopyRow
import Derived.Test.YtgoinpibllomfaaDoorPk00
import Derived.Test.YtgoinpibllomfaaDoorPk01
import Derived.Test.YtgoinpibllomfaaDoorPk04
namespace Go.Proofs.YtgoinpibllomfaaDoor
open Go.RowKit


theorem lnAdd (a b : List UInt8) (h : a.length + b.length ≤ 1000000) (W : World) : (Op.stringOp .add (bs a) (bs b)).run Tryd.prog W = .ok (.string (bs (a ++ b))) W := by
  have := run_string_add_sum (P := Tryd.prog) W (bs a) (bs b) (by rw [bs_size, bs_size]; omega)
  rw [this, bs_append]
theorem lnEmptyL (r : List UInt8) : (bs r).toList.isEmpty = r.isEmpty := by rw [lnToList]
/-- The line of a software and a comment. -/
def lnLine (a b : List UInt8) : List UInt8 := if b = [] then lnVer ++ a else lnVer ++ a ++ ([32] ++ b)
def lnOk (a b : List UInt8) : Bool := decide (a ≠ []) && (decide (lnBlank a < 0) && lnIsLine (lnLine a b))
def lnMake (a b : List UInt8) : List UInt8 := if lnOk a b = true then lnLine a b else []
def lnErr (a b : List UInt8) : Nat := if lnOk a b = true then 0 else 1
theorem lnMake_no {a b : List UInt8} (h : lnOk a b = false) : lnMake a b = [] ∧ lnErr a b = 1 := ⟨if_neg (by rw [h]; simp), if_neg (by rw [h]; simp)⟩
theorem lnMake_yes {a b : List UInt8} (h : lnOk a b = true) : lnMake a b = lnLine a b ∧ lnErr a b = 0 := ⟨if_pos h, if_pos h⟩
theorem lnLine_ver (a b : List UInt8) : ∃ r, lnLine a b = lnVer ++ (a ++ r) := by
  unfold lnLine
  split
  · exact ⟨[], by simp⟩
  · exact ⟨[32] ++ b, by simp⟩
theorem lnLine_right {a : List UInt8} (ha : a ≠ []) (b : List UInt8) : lnRight (lnLine a b) = lnIsLine (lnLine a b) := by
  obtain ⟨r, hr⟩ := lnLine_ver a b
  have h1 : lnVer.isPrefixOf (lnLine a b) = true := by rw [hr, List.isPrefixOf_iff_prefix]; exact List.prefix_append _ _
  have h2 : 8 < (lnLine a b).length := by
    have := List.length_pos_iff.2 ha
    rw [hr, List.length_append, List.length_append]
    show 8 < 8 + _
    omega
  unfold lnRight
  rw [h1, decide_eq_true h2]
  simp
theorem lnLine_len (a b : List UInt8) : (lnLine a b).length ≤ 9 + a.length + b.length := by
  unfold lnLine
  have hv : lnVer.length = 8 := rfl
  split
  · rw [List.length_append]; omega
  · simp only [List.length_append, List.length_cons, List.length_nil]; omega
set_option maxRecDepth 100000 in
theorem lnMake_any (a b : List UInt8) (ha : a.length ≤ 10000) (hb : b.length ≤ 10000) (w : World) : Calls Tryd.prog 79 #[.string (bs a), .string (bs b)] w fun e w' => e = .returned (.tuple #[.string (bs (lnMake a b)), .int .i64 (lnErr a b : Int)]) ∧ Below w.heap.size w w' := by
  have z1 := bs_size a
  have z2 := bs_size b
  have HZ : Hid ((⟨#[]⟩ : ByteArray) = bs []) := rfl
  have hea := lnEmptyL a
  have heb := lnEmptyL b
  have hv : lnVer.length = 8 := rfl
  have g1 : ∀ W : World, (Op.stringOp .add ⟨#[83, 83, 72, 45, 50, 46, 48, 45]⟩ (bs a)).run Tryd.prog W = .ok (.string (bs (lnVer ++ a))) W := fun W => lnAdd lnVer a (by omega) W
  have g2 : ∀ W : World, (Op.stringOp .add ⟨#[32]⟩ (bs b)).run Tryd.prog W = .ok (.string (bs ([32] ++ b))) W := fun W => lnAdd [32] b (by simp; omega) W
  have g3 : ∀ W : World, (Op.stringOp .add (bs (lnVer ++ a)) (bs ([32] ++ b))).run Tryd.prog W = .ok (.string (bs (lnVer ++ a ++ ([32] ++ b)))) W := fun W => lnAdd (lnVer ++ a) ([32] ++ b) (by simp; omega) W
  have HC : Hid (∀ W : World, Calls Tryd.prog 90 #[.string (bs a), .string ⟨#[32]⟩] W fun e w' => e = .returned (.bool (decide (0 ≤ lnBlank a))) ∧ w' = W) := fun W => (Tryd.strings_Contains_one (bs a) 32 W).mono (by rintro e w' ⟨rfl, rfl⟩; exact ⟨by rw [show (bs a).data.toList = a by simp [bs]]; rfl, rfl⟩)
  have HR := Lib.hid (fun W => lnRight_any (lnLine a b) (by have := lnLine_len a b; omega) W)
  have HO : Hid (lnOk a b = (decide (a ≠ []) && (decide (lnBlank a < 0) && lnIsLine (lnLine a b)))) := rfl
  have HN := Lib.hid (fun h => lnMake_no (a := a) (b := b) h)
  have HY := Lib.hid (fun h => lnMake_yes (a := a) (b := b) h)
  by_cases h0 : a = []
  · have he : (bs a).toList.isEmpty = true := by rw [hea, h0]; rfl
    have HE := Lib.hid (HN.out (by rw [HO.out, decide_eq_false (by simpa using h0)]; rfl))
    clear hea heb g1 g2 g3 HC HR HO HN HY h0
    generalize bs a = A at *
    generalize bs b = B at *
    go_enter Tryd.func79, Tryd.ntmps79
    go_wp2_with fail
    go_ret2
    exact ⟨by rw [HE.out.1, HE.out.2]; rfl, Below.refl _ _⟩
  · have he : (bs a).toList.isEmpty = false := by rw [hea]; simpa using h0
    rw [lnLine_right h0 b] at HR
    have HO2 : Hid (lnOk a b = (decide (lnBlank a < 0) && lnIsLine (lnLine a b))) := by show _ = _; rw [HO.out, decide_eq_true h0]; rfl
    by_cases hbl : lnBlank a < 0
    · rw [decide_eq_false (show ¬ 0 ≤ lnBlank a by omega)] at HC
      have HO3 : Hid (lnOk a b = lnIsLine (lnLine a b)) := by show _ = _; rw [HO2.out, decide_eq_true hbl]; rfl
      clear HO HO2 hea hbl h0
      by_cases hb0 : b = []
      · have he2 : (bs b).toList.isEmpty = true := by rw [heb, hb0]; rfl
        have hl : lnLine a b = lnVer ++ a := if_pos hb0
        rw [hl] at HR HY HO3
        clear heb g2 g3 hb0 hl
        cases hr : lnIsLine (lnVer ++ a) with
        | false =>
          rw [hr] at HR
          have HE := Lib.hid (HN.out (by rw [HO3.out, hr]))
          clear HN HY HO3 hr
          generalize bs a = A at *
          generalize bs b = B at *
          obtain ⟨V, hV⟩ : ∃ V, V = bs (lnVer ++ a) := ⟨_, rfl⟩
          have HV := Lib.hid hV
          rw [← hV] at g1 HR
          clear hV
          go_enter Tryd.func79, Tryd.ntmps79
          go_wp2_with (first
            | (go_at_call 90; refine (HC.out _).mono ?_; rintro e w1 ⟨rfl, rfl⟩)
            | (go_at_call 91; refine (HR.out _).mono ?_; rintro e w2 ⟨rfl, b2⟩))
          go_ret2
          exact ⟨by rw [HE.out.1, HE.out.2]; rfl, b2⟩
        | true =>
          rw [hr] at HR
          have HE := Lib.hid (HY.out (by rw [HO3.out, hr]))
          clear HN HY HO3 hr
          generalize bs a = A at *
          generalize bs b = B at *
          obtain ⟨V, hV⟩ : ∃ V, V = bs (lnVer ++ a) := ⟨_, rfl⟩
          have HV := Lib.hid hV
          rw [← hV] at g1 HR
          clear hV
          go_enter Tryd.func79, Tryd.ntmps79
          go_wp2_with (first
            | (go_at_call 90; refine (HC.out _).mono ?_; rintro e w1 ⟨rfl, rfl⟩)
            | (go_at_call 91; refine (HR.out _).mono ?_; rintro e w2 ⟨rfl, b2⟩))
          go_ret2
          exact ⟨by rw [HE.out.1, HE.out.2, ← HV.out]; rfl, b2⟩
      · have he2 : (bs b).toList.isEmpty = false := by rw [heb]; simpa using hb0
        have hl : lnLine a b = lnVer ++ a ++ ([32] ++ b) := if_neg hb0
        rw [hl] at HR HY HO3
        clear heb hb0 hl
        cases hr : lnIsLine (lnVer ++ a ++ ([32] ++ b)) with
        | false =>
          rw [hr] at HR
          have HE := Lib.hid (HN.out (by rw [HO3.out, hr]))
          clear HN HY HO3 hr
          generalize bs a = A at *
          generalize bs b = B at *
          obtain ⟨V, hV⟩ : ∃ V, V = bs (lnVer ++ a ++ ([32] ++ b)) := ⟨_, rfl⟩
          have HV := Lib.hid hV
          rw [← hV] at g3 HR
          clear hV
          generalize bs (lnVer ++ a) = V1 at *
          generalize bs ([32] ++ b) = V2 at *
          go_enter Tryd.func79, Tryd.ntmps79
          go_wp2_with (first
            | (go_at_call 90; refine (HC.out _).mono ?_; rintro e w1 ⟨rfl, rfl⟩)
            | (go_at_call 91; refine (HR.out _).mono ?_; rintro e w2 ⟨rfl, b2⟩))
          go_ret2
          exact ⟨by rw [HE.out.1, HE.out.2]; rfl, b2⟩
        | true =>
          rw [hr] at HR
          have HE := Lib.hid (HY.out (by rw [HO3.out, hr]))
          clear HN HY HO3 hr
          generalize bs a = A at *
          generalize bs b = B at *
          obtain ⟨V, hV⟩ : ∃ V, V = bs (lnVer ++ a ++ ([32] ++ b)) := ⟨_, rfl⟩
          have HV := Lib.hid hV
          rw [← hV] at g3 HR
          clear hV
          generalize bs (lnVer ++ a) = V1 at *
          generalize bs ([32] ++ b) = V2 at *
          go_enter Tryd.func79, Tryd.ntmps79
          go_wp2_with (first
            | (go_at_call 90; refine (HC.out _).mono ?_; rintro e w1 ⟨rfl, rfl⟩)
            | (go_at_call 91; refine (HR.out _).mono ?_; rintro e w2 ⟨rfl, b2⟩))
          go_ret2
          exact ⟨by rw [HE.out.1, HE.out.2, ← HV.out]; rfl, b2⟩
    · rw [decide_eq_true (show 0 ≤ lnBlank a by omega)] at HC
      have HE := Lib.hid (HN.out (by rw [HO2.out, decide_eq_false hbl]; rfl))
      clear HO HO2 HN HY HR hea heb g1 g2 g3 h0 hbl
      generalize bs a = A at *
      generalize bs b = B at *
      go_enter Tryd.func79, Tryd.ntmps79
      go_wp2_with (go_at_call 90; refine (HC.out _).mono ?_; rintro e w1 ⟨rfl, rfl⟩)
      go_ret2
      exact ⟨by rw [HE.out.1, HE.out.2]; rfl, Below.refl _ _⟩
end Go.Proofs.YtgoinpibllomfaaDoor

namespace Go.Proofs.YtgoinpibllomfaaDoor
open Go.RowKit


def rightB (a b c : Nat) : Bool := decide (1024 ≤ a) && decide (a ≤ b) && decide (b ≤ c) && decide (c ≤ 8192)
set_option maxRecDepth 100000 in
theorem gxRight_any (a b c : Nat) (w : World) : Calls Tryd.prog 72 #[.int .u32 (a : Int), .int .u32 (b : Int), .int .u32 (c : Int)] w fun e w' => e = .returned (.bool (rightB a b c)) ∧ w' = w := by
  have HI : Hid (rightB a b c = (decide ((1024 : Int) ≤ (a : Int)) && decide ((a : Int) ≤ (b : Int)) && decide ((b : Int) ≤ (c : Int)) && decide ((c : Int) ≤ (8192 : Int)))) := by
    have e1 : decide (1024 ≤ a) = decide ((1024 : Int) ≤ (a : Int)) := decide_eq_decide.2 (by omega)
    have e2 : decide (a ≤ b) = decide ((a : Int) ≤ (b : Int)) := decide_eq_decide.2 (by omega)
    have e3 : decide (b ≤ c) = decide ((b : Int) ≤ (c : Int)) := decide_eq_decide.2 (by omega)
    have e4 : decide (c ≤ 8192) = decide ((c : Int) ≤ (8192 : Int)) := decide_eq_decide.2 (by omega)
    show rightB a b c = _
    unfold rightB
    rw [e1, e2, e3, e4]
  rw [HI.out]
  clear HI
  obtain ⟨r1, q1⟩ : ∃ r, decide ((1024 : Int) ≤ (a : Int)) = r := ⟨_, rfl⟩
  obtain ⟨r2, q2⟩ : ∃ r, decide ((a : Int) ≤ (b : Int)) = r := ⟨_, rfl⟩
  obtain ⟨r3, q3⟩ : ∃ r, decide ((b : Int) ≤ (c : Int)) = r := ⟨_, rfl⟩
  obtain ⟨r4, q4⟩ : ∃ r, decide ((c : Int) ≤ (8192 : Int)) = r := ⟨_, rfl⟩
  rw [q1, q2, q3, q4]
  generalize (a : Int) = x at *
  generalize (b : Int) = y at *
  generalize (c : Int) = z at *
  cases r1 with
  | false => (go_enter Tryd.func72, Tryd.ntmps72; go_wp2_with fail; go_ret; exact ⟨rfl, rfl⟩)
  | true =>
  cases r2 with
  | false => (go_enter Tryd.func72, Tryd.ntmps72; go_wp2_with fail; go_ret; exact ⟨rfl, rfl⟩)
  | true =>
  cases r3 with
  | false => (go_enter Tryd.func72, Tryd.ntmps72; go_wp2_with fail; go_ret; exact ⟨rfl, rfl⟩)
  | true =>
  cases r4 with
  | false => (go_enter Tryd.func72, Tryd.ntmps72; go_wp2_with fail; go_ret; exact ⟨rfl, rfl⟩)
  | true => (go_enter Tryd.func72, Tryd.ntmps72; go_wp2_with fail; go_ret; exact ⟨rfl, rfl⟩)
end Go.Proofs.YtgoinpibllomfaaDoor

namespace Go.Proofs.YtgoinpibllomfaaDoor
open Go.RowKit

set_option maxRecDepth 100000 in
theorem dUser_any (x : List UInt8) (hx : x.length ≤ 1000000) (w : World) : Calls Tryd.prog 8 #[.string (bs x)] w fun e w' => e = .returned (.bool (userP x)) ∧ w' = w := by
  have hsz := bs_size x
  by_cases h0 : x = []
  · subst h0
    have HR : Hid (userP [] = false) := rfl
    rw [show bs ([] : List UInt8) = ⟨#[]⟩ from rfl]
    go_enter Tryd.func8, Tryd.ntmps8
    go_wp2
    go_ret
    exact ⟨by rw [HR.out]; rfl, rfl⟩
  have hne : (bs x).toList.isEmpty = false := by rw [bs_isEmpty]; simpa using h0
  by_cases h1 : 64 < x.length
  · have HR := Lib.hid (user_len (x := x) (by omega))
    generalize bs x = S at *
    go_enter Tryd.func8, Tryd.ntmps8
    go_wp2
    go_ret
    exact ⟨by rw [HR.out]; rfl, rfl⟩
  have hpos : 1 ≤ x.length := List.length_pos_iff.2 h0
  have HI := Lib.hid (fun (k : Nat) (hk : k < x.length) W => index_bs x k hk W)
  have hle : (bs x).size ≤ 64 := by omega
  generalize bs x = S at *
  go_enter Tryd.func8, Tryd.ntmps8
  go_wp2_with fail
  go_loopw [13] (fun i wr => ∃ k : Nat, k ≤ x.length ∧ i = .int .i64 k ∧ (∀ b ∈ x.take k, uByte b = true) ∧ wr = w) (fun i _ => x.length - (intOf i).toNat)
  case atStart => exact ⟨0, Nat.zero_le _, rfl, by simp, rfl⟩
  case round =>
    obtain ⟨k, hk, rfl, htk, rfl⟩ := hrel
    by_cases hlt : k < x.length
    · have c1 := HI.out k hlt
      obtain ⟨b, hb⟩ : ∃ b, b = x[k] := ⟨_, rfl⟩
      rw [← hb] at c1
      have HN : Hid (uByte b = true → ∀ a ∈ x.take (k + 1), uByte a = true) := fun e a ha => by
        rw [List.take_succ_eq_append_getElem hlt, ← hb, List.mem_append] at ha
        rcases ha with ha | ha
        · exact htk a ha
        · simp at ha
          rw [ha]; exact e
      have HF : Hid (uByte b = false → userP x = false) := fun e => user_byte (by rw [hb]; exact List.getElem_mem hlt) e
      have HB : Hid (uByte b = decide (33 ≤ b.toNat ∧ b.toNat ≤ 126)) := rfl
      clear hb htk HI
      generalize b.toNat = n at *
      by_cases n1 : n < 33
      · have hq : decide ((n : Int) < 33) = true := decide_eq_true (by omega)
        have HO : Hid (uByte b = false) := by show uByte b = false; rw [HB.out]; exact decide_eq_false (by omega)
        go_wp2_with fail
        go_ret
        exact ⟨by rw [HF.out HO.out]; rfl, rfl⟩
      · have q1 : decide ((n : Int) < 33) = false := decide_eq_false (by omega)
        by_cases n2 : 126 < n
        · have hq : decide ((n : Int) > 126) = true := decide_eq_true (by omega)
          have HO : Hid (uByte b = false) := by show uByte b = false; rw [HB.out]; exact decide_eq_false (by omega)
          go_wp2_with fail
          go_ret
          exact ⟨by rw [HF.out HO.out]; rfl, rfl⟩
        · have q2 : decide ((n : Int) > 126) = false := decide_eq_false (by omega)
          have HO : Hid (uByte b = true) := by show uByte b = true; rw [HB.out]; exact decide_eq_true (by omega)
          go_wp2_with fail
          go_roundw
          case rel => exact ⟨k + 1, by omega, by go_num, HN.out HO.out, trivial⟩
          case measure => simp [intOf]; omega
    · have hkl : k = x.length := by omega
      subst hkl
      rw [List.take_length] at htk
      have HA := Lib.hid htk
      clear htk hlt HI
      have HR := Lib.hid (user_of (x := x) (by omega) HA.out)
      go_wp2_with fail
      go_ret
      exact ⟨by rw [HR.out]; rfl, rfl⟩
end Go.Proofs.YtgoinpibllomfaaDoor
