/- Part 4 of what the statement wants. -/
import Derived.Test.YtkdljicagepebaaGreatDoorPk03
namespace Go.Proofs.YtkdljicagepebaaGreatDoor
open Go.RowKit

def lnIsLine (l : List UInt8) : Bool := decide (l.length ≤ 253) && lnPlainL l
set_option maxRecDepth 100000 in
theorem lnIsLine_any (x : List UInt8) (hx : x.length ≤ 1000000) (w : World) : Calls Tryz.prog 67 #[.string (bs x)] w fun e w' => e = .returned (.bool (lnIsLine x)) ∧ Below w.heap.size w w' := by
  have hsz := bs_size x
  by_cases h1 : 253 < x.length
  · have HR : Hid (lnIsLine x = false) := by show lnIsLine x = false; unfold lnIsLine; rw [decide_eq_false (by omega)]; rfl
    have hle : (bs x).size ≤ 1000000 := by omega
    generalize bs x = S at *
    go_enter Tryz.func67, Tryz.ntmps67
    go_wp2
    go_ret
    exact ⟨by rw [HR.out]; rfl, Below.refl _ _⟩
  · have HE : Hid (lnIsLine x = lnPlainL x) := by show lnIsLine x = lnPlainL x; unfold lnIsLine; rw [decide_eq_true (by omega)]; rfl
    obtain ⟨c, w2, hcv, hcell, hbel, _⟩ := lnConv_bytes w x
    have hle : (bs x).size ≤ 253 := by omega
    have HP := Lib.hid (fun (b : UInt8) W => lnIsPlain_any b W)
    generalize bs x = S at *
    go_enter Tryz.func67, Tryz.ntmps67
    go_wp2_with fail
    have HC := Lib.hid hcell
    clear hcell hcv
    go_loopw [11] (fun i wr => ∃ k : Nat, k ≤ x.length ∧ i = .int .i64 k ∧ (∀ b ∈ x.take k, lnPlainB b = true) ∧ wr = w2) (fun i _ => x.length - (intOf i).toNat)
    case atStart => exact ⟨0, Nat.zero_le _, rfl, by simp, rfl⟩
    case round =>
      obtain ⟨k, hk, rfl, htk, rfl⟩ := hrel
      by_cases hlt : k < x.length
      · have c1 := HC.out k hlt
        obtain ⟨b, hb⟩ : ∃ b, b = x[k] := ⟨_, rfl⟩
        rw [← hb] at c1
        have HN : Hid (lnPlainB b = true → ∀ a ∈ x.take (k + 1), lnPlainB a = true) := fun e a ha => by
          rw [List.take_succ_eq_append_getElem hlt, ← hb, List.mem_append] at ha
          rcases ha with ha | ha
          · exact htk a ha
          · simp at ha
            rw [ha]; exact e
        have HF : Hid (lnPlainB b = false → lnPlainL x = false) := fun e => lnPlain_false (by rw [hb]; exact List.getElem_mem hlt) e
        have HPb := Lib.hid (HP.out b)
        clear hb htk HC HP
        generalize b.toNat = n at *
        cases hp : lnPlainB b with
        | false =>
          rw [hp] at HPb
          go_wp2_with (go_at_call 80; refine (HPb.out _).mono ?_; rintro e w1 ⟨rfl, rfl⟩)
          go_ret
          exact ⟨by rw [HE.out, HF.out hp]; rfl, hbel⟩
        | true =>
          rw [hp] at HPb
          go_wp2_with (go_at_call 80; refine (HPb.out _).mono ?_; rintro e w1 ⟨rfl, rfl⟩)
          go_roundw
          case rel => exact ⟨k + 1, by omega, by go_num, HN.out hp, trivial⟩
          case measure => simp [intOf]; omega
      · have hkl : k = x.length := by omega
        subst hkl
        rw [List.take_length] at htk
        have HR := Lib.hid (lnPlain_true htk)
        clear htk hlt HC
        go_wp2_with fail
        go_ret
        exact ⟨by rw [HE.out, HR.out]; rfl, hbel⟩
end Go.Proofs.YtkdljicagepebaaGreatDoor

namespace Go.Proofs.YtkdljicagepebaaGreatDoor
open Go.RowKit


theorem lnIndex_hit {c : UInt8} : ∀ {l : List UInt8} {k : Nat} (hk : k < l.length), (∀ b ∈ l.take k, b ≠ c) → l[k] = c → Lib.indexByte l c = (k : Int)
  | b :: l, 0, _, _, h => by
    have h' : b = c := h
    simp [Lib.indexByte, h']
  | b :: l, k + 1, hk, ha, h => by
    have hb : b ≠ c := ha b (by simp)
    have ih := lnIndex_hit (c := c) (l := l) (k := k) (by simpa using hk) (fun x hx => ha x (by simp [hx])) (by simpa using h)
    have hb' : (b == c) = false := by simpa using hb
    have hk1 : (((k : Int)) == -1) = false := by rw [beq_eq_false_iff_ne]; omega
    rw [Lib.indexByte, hb', ih]
    simp only [Bool.false_eq_true, if_false, hk1]
    omega
theorem lnIndex_none {c : UInt8} : ∀ {l : List UInt8}, (∀ b ∈ l, b ≠ c) → Lib.indexByte l c = -1
  | [], _ => rfl
  | b :: l, h => by
    have hb : (b == c) = false := by simpa using h b (by simp)
    have ih := lnIndex_none (c := c) (l := l) (fun x hx => h x (by simp [hx]))
    rw [Lib.indexByte, hb, ih]
    rfl
def lnBlank (l : List UInt8) : Int := Lib.indexByte l 32
def lnVer : List UInt8 := [83, 83, 72, 45, 50, 46, 48, 45]
def lnRight (l : List UInt8) : Bool := lnIsLine l && (lnVer.isPrefixOf l && decide (8 < l.length))
set_option maxRecDepth 100000 in
theorem lnRight_any (x : List UInt8) (hx : x.length ≤ 1000000) (w : World) : Calls Tryz.prog 48 #[.string (bs x)] w fun e w' => e = .returned (.bool (lnRight x)) ∧ Below w.heap.size w w' := by
  have hsz := bs_size x
  have H1 := Lib.hid (fun W => lnIsLine_any x hx W)
  have H2 : Hid (∀ W : World, Calls Tryz.prog 68 #[.string (bs x), .string ⟨#[83, 83, 72, 45, 50, 46, 48, 45]⟩] W fun e w' => e = .returned (.bool (lnVer.isPrefixOf x)) ∧ w' = W) := fun W => lnHasPrefix_any x lnVer W
  have HR : Hid (lnRight x = (lnIsLine x && (lnVer.isPrefixOf x && decide (8 < x.length)))) := rfl
  have hle : (bs x).size ≤ 1000000 := by omega
  generalize bs x = S at *
  go_enter Tryz.func48, Tryz.ntmps48
  cases h1 : lnIsLine x <;> cases h2 : lnVer.isPrefixOf x <;> by_cases h3 : 8 < x.length
  all_goals
    rw [h1] at H1
    rw [h2] at H2
    first
      | (have q : decide ((x.length : Int) > 8) = true := decide_eq_true (by omega))
      | (have q : decide ((x.length : Int) > 8) = false := decide_eq_false (by omega))
    go_wp2_with (first
      | (go_at_call 67; with_reducible refine (H1.out _).mono ?_; rintro e w1 ⟨rfl, b1⟩)
      | (go_at_call 68; with_reducible refine (H2.out _).mono ?_; rintro e w2 ⟨rfl, rfl⟩))
    go_ret
    exact ⟨by rw [HR.out, h1, h2]; simp [h3], b1⟩
end Go.Proofs.YtkdljicagepebaaGreatDoor

namespace Go.Proofs.YtkdljicagepebaaGreatDoor
open Go.RowKit


theorem lnAdd (a b : List UInt8) (h : a.length + b.length ≤ 1000000) (W : World) : (Op.stringOp .add (bs a) (bs b)).run Tryz.prog W = .ok (.string (bs (a ++ b))) W := by
  have := run_string_add_sum (P := Tryz.prog) W (bs a) (bs b) (by rw [bs_size, bs_size]; omega)
  rw [this, bs_append]
theorem lnEmptyL (r : List UInt8) : (bs r).toList.isEmpty = r.isEmpty := by rw [lnToList]
/-- The line of a software and a comment. -/
def lnLine (a b : List UInt8) : List UInt8 := if b = [] then lnVer ++ a else lnVer ++ a ++ ([32] ++ b)
def lnOk (a b : List UInt8) : Bool := decide (a ≠ []) && (decide (lnBlank a < 0) && lnIsLine (lnLine a b))
def lnMake (a b : List UInt8) : List UInt8 := if lnOk a b = true then lnLine a b else []
def lnErr (a b : List UInt8) : Nat := if lnOk a b = true then 0 else 1
theorem lnMake_no {a b : List UInt8} (h : lnOk a b = false) : lnMake a b = [] ∧ lnErr a b = 1 := ⟨if_neg (by rw [h]; simp), if_neg (by rw [h]; simp)⟩
theorem lnMake_yes {a b : List UInt8} (h : lnOk a b = true) : lnMake a b = lnLine a b ∧ lnErr a b = 0 := ⟨if_pos h, if_pos h⟩
theorem lnLine_ver (a b : List UInt8) : ∃ r, lnLine a b = lnVer ++ (a ++ r) := by
  unfold lnLine
  split
  · exact ⟨[], by simp⟩
  · exact ⟨[32] ++ b, by simp⟩
theorem lnLine_right {a : List UInt8} (ha : a ≠ []) (b : List UInt8) : lnRight (lnLine a b) = lnIsLine (lnLine a b) := by
  obtain ⟨r, hr⟩ := lnLine_ver a b
  have h1 : lnVer.isPrefixOf (lnLine a b) = true := by rw [hr, List.isPrefixOf_iff_prefix]; exact List.prefix_append _ _
  have h2 : 8 < (lnLine a b).length := by
    have := List.length_pos_iff.2 ha
    rw [hr, List.length_append, List.length_append]
    show 8 < 8 + _
    omega
  unfold lnRight
  rw [h1, decide_eq_true h2]
  simp
theorem lnLine_len (a b : List UInt8) : (lnLine a b).length ≤ 9 + a.length + b.length := by
  unfold lnLine
  have hv : lnVer.length = 8 := rfl
  split
  · rw [List.length_append]; omega
  · simp only [List.length_append, List.length_cons, List.length_nil]; omega
set_option maxRecDepth 100000 in
theorem lnMake_any (a b : List UInt8) (ha : a.length ≤ 10000) (hb : b.length ≤ 10000) (w : World) : Calls Tryz.prog 20 #[.string (bs a), .string (bs b)] w fun e w' => e = .returned (.tuple #[.string (bs (lnMake a b)), .int .i64 (lnErr a b : Int)]) ∧ Below w.heap.size w w' := by
  have z1 := bs_size a
  have z2 := bs_size b
  have HZ : Hid ((⟨#[]⟩ : ByteArray) = bs []) := rfl
  have hea := lnEmptyL a
  have heb := lnEmptyL b
  have hv : lnVer.length = 8 := rfl
  have g1 : ∀ W : World, (Op.stringOp .add ⟨#[83, 83, 72, 45, 50, 46, 48, 45]⟩ (bs a)).run Tryz.prog W = .ok (.string (bs (lnVer ++ a))) W := fun W => lnAdd lnVer a (by omega) W
  have g2 : ∀ W : World, (Op.stringOp .add ⟨#[32]⟩ (bs b)).run Tryz.prog W = .ok (.string (bs ([32] ++ b))) W := fun W => lnAdd [32] b (by simp; omega) W
  have g3 : ∀ W : World, (Op.stringOp .add (bs (lnVer ++ a)) (bs ([32] ++ b))).run Tryz.prog W = .ok (.string (bs (lnVer ++ a ++ ([32] ++ b)))) W := fun W => lnAdd (lnVer ++ a) ([32] ++ b) (by simp; omega) W
  have HC : Hid (∀ W : World, Calls Tryz.prog 47 #[.string (bs a), .string ⟨#[32]⟩] W fun e w' => e = .returned (.bool (decide (0 ≤ lnBlank a))) ∧ w' = W) := fun W => (Tryz.strings_Contains_one (bs a) 32 W).mono (by rintro e w' ⟨rfl, rfl⟩; exact ⟨by rw [show (bs a).data.toList = a by simp [bs]]; rfl, rfl⟩)
  have HR := Lib.hid (fun W => lnRight_any (lnLine a b) (by have := lnLine_len a b; omega) W)
  have HO : Hid (lnOk a b = (decide (a ≠ []) && (decide (lnBlank a < 0) && lnIsLine (lnLine a b)))) := rfl
  have HN := Lib.hid (fun h => lnMake_no (a := a) (b := b) h)
  have HY := Lib.hid (fun h => lnMake_yes (a := a) (b := b) h)
  by_cases h0 : a = []
  · have he : (bs a).toList.isEmpty = true := by rw [hea, h0]; rfl
    have HE := Lib.hid (HN.out (by rw [HO.out, decide_eq_false (by simpa using h0)]; rfl))
    clear hea heb g1 g2 g3 HC HR HO HN HY h0
    generalize bs a = A at *
    generalize bs b = B at *
    go_enter Tryz.func20, Tryz.ntmps20
    go_wp2_with fail
    go_ret2
    exact ⟨by rw [HE.out.1, HE.out.2]; rfl, Below.refl _ _⟩
  · have he : (bs a).toList.isEmpty = false := by rw [hea]; simpa using h0
    rw [lnLine_right h0 b] at HR
    have HO2 : Hid (lnOk a b = (decide (lnBlank a < 0) && lnIsLine (lnLine a b))) := by show _ = _; rw [HO.out, decide_eq_true h0]; rfl
    by_cases hbl : lnBlank a < 0
    · rw [decide_eq_false (show ¬ 0 ≤ lnBlank a by omega)] at HC
      have HO3 : Hid (lnOk a b = lnIsLine (lnLine a b)) := by show _ = _; rw [HO2.out, decide_eq_true hbl]; rfl
      clear HO HO2 hea hbl h0
      by_cases hb0 : b = []
      · have he2 : (bs b).toList.isEmpty = true := by rw [heb, hb0]; rfl
        have hl : lnLine a b = lnVer ++ a := if_pos hb0
        rw [hl] at HR HY HO3
        clear heb g2 g3 hb0 hl
        cases hr : lnIsLine (lnVer ++ a) with
        | false =>
          rw [hr] at HR
          have HE := Lib.hid (HN.out (by rw [HO3.out, hr]))
          clear HN HY HO3 hr
          generalize bs a = A at *
          generalize bs b = B at *
          obtain ⟨V, hV⟩ : ∃ V, V = bs (lnVer ++ a) := ⟨_, rfl⟩
          have HV := Lib.hid hV
          rw [← hV] at g1 HR
          clear hV
          go_enter Tryz.func20, Tryz.ntmps20
          go_wp2_with (first
            | (go_at_call 47; refine (HC.out _).mono ?_; rintro e w1 ⟨rfl, rfl⟩)
            | (go_at_call 48; refine (HR.out _).mono ?_; rintro e w2 ⟨rfl, b2⟩))
          go_ret2
          exact ⟨by rw [HE.out.1, HE.out.2]; rfl, b2⟩
        | true =>
          rw [hr] at HR
          have HE := Lib.hid (HY.out (by rw [HO3.out, hr]))
          clear HN HY HO3 hr
          generalize bs a = A at *
          generalize bs b = B at *
          obtain ⟨V, hV⟩ : ∃ V, V = bs (lnVer ++ a) := ⟨_, rfl⟩
          have HV := Lib.hid hV
          rw [← hV] at g1 HR
          clear hV
          go_enter Tryz.func20, Tryz.ntmps20
          go_wp2_with (first
            | (go_at_call 47; refine (HC.out _).mono ?_; rintro e w1 ⟨rfl, rfl⟩)
            | (go_at_call 48; refine (HR.out _).mono ?_; rintro e w2 ⟨rfl, b2⟩))
          go_ret2
          exact ⟨by rw [HE.out.1, HE.out.2, ← HV.out]; rfl, b2⟩
      · have he2 : (bs b).toList.isEmpty = false := by rw [heb]; simpa using hb0
        have hl : lnLine a b = lnVer ++ a ++ ([32] ++ b) := if_neg hb0
        rw [hl] at HR HY HO3
        clear heb hb0 hl
        cases hr : lnIsLine (lnVer ++ a ++ ([32] ++ b)) with
        | false =>
          rw [hr] at HR
          have HE := Lib.hid (HN.out (by rw [HO3.out, hr]))
          clear HN HY HO3 hr
          generalize bs a = A at *
          generalize bs b = B at *
          obtain ⟨V, hV⟩ : ∃ V, V = bs (lnVer ++ a ++ ([32] ++ b)) := ⟨_, rfl⟩
          have HV := Lib.hid hV
          rw [← hV] at g3 HR
          clear hV
          generalize bs (lnVer ++ a) = V1 at *
          generalize bs ([32] ++ b) = V2 at *
          go_enter Tryz.func20, Tryz.ntmps20
          go_wp2_with (first
            | (go_at_call 47; refine (HC.out _).mono ?_; rintro e w1 ⟨rfl, rfl⟩)
            | (go_at_call 48; refine (HR.out _).mono ?_; rintro e w2 ⟨rfl, b2⟩))
          go_ret2
          exact ⟨by rw [HE.out.1, HE.out.2]; rfl, b2⟩
        | true =>
          rw [hr] at HR
          have HE := Lib.hid (HY.out (by rw [HO3.out, hr]))
          clear HN HY HO3 hr
          generalize bs a = A at *
          generalize bs b = B at *
          obtain ⟨V, hV⟩ : ∃ V, V = bs (lnVer ++ a ++ ([32] ++ b)) := ⟨_, rfl⟩
          have HV := Lib.hid hV
          rw [← hV] at g3 HR
          clear hV
          generalize bs (lnVer ++ a) = V1 at *
          generalize bs ([32] ++ b) = V2 at *
          go_enter Tryz.func20, Tryz.ntmps20
          go_wp2_with (first
            | (go_at_call 47; refine (HC.out _).mono ?_; rintro e w1 ⟨rfl, rfl⟩)
            | (go_at_call 48; refine (HR.out _).mono ?_; rintro e w2 ⟨rfl, b2⟩))
          go_ret2
          exact ⟨by rw [HE.out.1, HE.out.2, ← HV.out]; rfl, b2⟩
    · rw [decide_eq_true (show 0 ≤ lnBlank a by omega)] at HC
      have HE := Lib.hid (HN.out (by rw [HO2.out, decide_eq_false hbl]; rfl))
      clear HO HO2 HN HY HR hea heb g1 g2 g3 h0 hbl
      generalize bs a = A at *
      generalize bs b = B at *
      go_enter Tryz.func20, Tryz.ntmps20
      go_wp2_with (go_at_call 47; refine (HC.out _).mono ?_; rintro e w1 ⟨rfl, rfl⟩)
      go_ret2
      exact ⟨by rw [HE.out.1, HE.out.2]; rfl, Below.refl _ _⟩
end Go.Proofs.YtkdljicagepebaaGreatDoor
