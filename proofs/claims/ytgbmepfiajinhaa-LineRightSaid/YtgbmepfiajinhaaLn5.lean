/- Split and Make: both sides; the example. -/
import Derived.Test.YtgbmepfiajinhaaLn2
namespace Go.Proofs.Ytgbmepfiajinhaa
open Go.RowKit

theorem lnAdd (a b : List UInt8) (h : a.length + b.length ≤ 1000000) (W : World) : (Op.stringOp .add (bs a) (bs b)).run Try.prog W = .ok (.string (bs (a ++ b))) W := by
  have := run_string_add_sum (P := Try.prog) W (bs a) (bs b) (by rw [bs_size, bs_size]; omega)
  rw [this, bs_append]
theorem lnSplit_yes {x : List UInt8} (h : lnRight x = true) : lnSplit x = ((lnCut (x.drop 8)).1, (lnCut (x.drop 8)).2.1, true) := if_pos h
theorem lnSplit_no {x : List UInt8} (h : lnRight x = false) : lnSplit x = ([], [], false) := if_neg (by rw [h]; simp)
theorem lnCut_no {x : List UInt8} (h : lnBlank x < 0) : lnCut x = (x, [], false) := if_pos h
theorem lnCut_yes {x : List UInt8} {k : Nat} (h : lnBlank x = (k : Int)) : lnCut x = (x.take k, x.drop (k + 1), true) := by
  unfold lnCut
  rw [h, if_neg (by omega)]
  rfl
theorem lnEmptyL (r : List UInt8) : (bs r).toList.isEmpty = r.isEmpty := by rw [lnToList]

theorem lnStrCut_any (x : List UInt8) (hx : x.length ≤ 1000000) (w : World) : Calls Try.prog 21 #[.string (bs x), .string ⟨#[32]⟩] w fun e w' => e = .returned (.tuple #[.string (bs (lnCut x).1), .string (bs (lnCut x).2.1), .bool (lnCut x).2.2]) ∧ Below w.heap.size w w' := by
  have H1 := Lib.hid (fun W => lnCut_any x hx W)
  generalize bs x = S at *
  generalize lnCut x = C at *
  go_enter Try.func21, Try.ntmps21
  go_wp2_with (go_at_call 27; refine (H1.out _).mono ?_; rintro e w1 ⟨rfl, b1⟩)
  go_ret3
  exact ⟨rfl, b1⟩

set_option maxRecDepth 100000 in
theorem lnSplit_any (x : List UInt8) (hx : x.length ≤ 1000000) (w : World) : Calls Try.prog 10 #[.string (bs x)] w fun e w' => e = .returned (.tuple #[.string (bs (lnSplit x).1), .string (bs (lnSplit x).2.1), .bool (lnSplit x).2.2]) ∧ Below w.heap.size w w' := by
  have hsz := bs_size x
  have HR := Lib.hid (fun W => lnRight_any x hx W)
  have HD : (bs x).extract 8 x.length = bs (x.drop 8) := by have := bs_drop x 8; rw [hsz] at this; exact this
  have HZ : Hid ((⟨#[]⟩ : ByteArray) = bs []) := rfl
  have H1 := Lib.hid (fun W => lnStrCut_any (x.drop 8) (by simp; omega) W)
  have hle : (bs x).size ≤ 1000000 := by omega
  cases hr : lnRight x with
  | false =>
    have HE := Lib.hid (lnSplit_no hr)
    rw [hr] at HR
    clear HD H1
    generalize bs x = S at *
    go_enter Try.func10, Try.ntmps10
    go_wp2_with (go_at_call 11; with_reducible refine (HR.out _).mono ?_; rintro e w1 ⟨rfl, b1⟩)
    go_ret3
    exact ⟨by rw [HE.out]; rfl, b1⟩
  | true =>
    have HE := Lib.hid (lnSplit_yes hr)
    rw [hr] at HR
    have h8 : 8 < x.length := by
      unfold lnRight at hr
      simp at hr
      exact hr.2.2
    generalize bs x = S at *
    generalize bs (x.drop 8) = R at *
    generalize lnCut (x.drop 8) = C at *
    go_enter Try.func10, Try.ntmps10
    go_wp2_with (first
      | (go_at_call 11; with_reducible refine (HR.out _).mono ?_; rintro e w1 ⟨rfl, b1⟩)
      | (go_at_call 21; refine (H1.out _).mono ?_; rintro e w2 ⟨rfl, b2⟩))
    go_ret3
    exact ⟨by rw [HE.out]; rfl, b1.trans (b2.mono b1.size)⟩

set_option maxRecDepth 100000 in
theorem rlSplit_any (x : List UInt8) (hx : x.length ≤ 1000000) (w : World) : Calls Try.prog 13 #[.string (bs x)] w fun e w' => e = .returned (.tuple #[.string (bs (lnSplit x).1), .string (bs (lnSplit x).2.1), .bool (lnSplit x).2.2]) ∧ Below w.heap.size w w' := by
  have hsz := bs_size x
  have HR := Lib.hid (fun W => rlRight_any x hx W)
  have HD : (bs x).extract 8 x.length = bs (x.drop 8) := by have := bs_drop x 8; rw [hsz] at this; exact this
  have HZ : Hid ((⟨#[]⟩ : ByteArray) = bs []) := rfl
  have H1 := Lib.hid (fun W => rlBlank_any (x.drop 8) (by simp; omega) W)
  have hle : (bs x).size ≤ 1000000 := by omega
  cases hr : lnRight x with
  | false =>
    have HE := Lib.hid (lnSplit_no hr)
    rw [hr] at HR
    clear HD H1
    generalize bs x = S at *
    go_enter Try.func13, Try.ntmps13
    go_wp2_with (go_at_call 14; with_reducible refine (HR.out _).mono ?_; rintro e w1 ⟨rfl, rfl⟩)
    go_ret3
    exact ⟨by rw [HE.out]; rfl, Below.refl _ _⟩
  | true =>
    have HE := Lib.hid (lnSplit_yes hr)
    rw [hr] at HR
    have h8 : 8 < x.length := by
      unfold lnRight at hr
      simp at hr
      exact hr.2.2
    have hrs := bs_size (x.drop 8)
    have hrl : (x.drop 8).length = x.length - 8 := by simp
    rcases lnIndex_cases (x.drop 8) 32 with ⟨hi, _⟩ | ⟨k, hk, hi, hj1, hj2⟩
    · have hi' : lnBlank (x.drop 8) = -1 := hi
      have HC := Lib.hid (lnCut_no (x := x.drop 8) (by omega))
      rw [hi'] at H1
      clear hi hi' hrs hrl
      obtain ⟨R, hR⟩ : ∃ R, R = bs (x.drop 8) := ⟨_, rfl⟩
      have HRR := Lib.hid hR
      rw [← hR] at HD H1
      clear hR
      generalize bs x = S at *
      go_enter Try.func13, Try.ntmps13
      go_wp2_with (first
        | (go_at_call 14; with_reducible refine (HR.out _).mono ?_; rintro e w1 ⟨rfl, rfl⟩)
        | (go_at_call 19; with_reducible refine (H1.out _).mono ?_; rintro e w2 ⟨rfl, rfl⟩))
      go_ret3
      exact ⟨by rw [HE.out, HC.out, HRR.out]; rfl, Below.refl _ _⟩
    · have hi' : lnBlank (x.drop 8) = (k : Int) := hi
      have HC := Lib.hid (lnCut_yes hi')
      rw [hi'] at H1
      have e1 := bs_take (x.drop 8) k
      have e2 : (bs (x.drop 8)).extract (k + 1) (x.length - 8) = bs ((x.drop 8).drop (k + 1)) := by have := bs_drop (x.drop 8) (k + 1); rw [hrs, hrl] at this; exact this
      have hk' : k < x.length - 8 := by omega
      rw [hrl] at hrs
      clear hi hi' hrl hj1 hj2 hk
      obtain ⟨A, hA⟩ : ∃ A, A = bs ((x.drop 8).take k) := ⟨_, rfl⟩
      obtain ⟨B, hB⟩ : ∃ B, B = bs ((x.drop 8).drop (k + 1)) := ⟨_, rfl⟩
      have HA := Lib.hid hA
      have HB := Lib.hid hB
      rw [← hA] at e1
      rw [← hB] at e2
      clear hA hB
      generalize bs (x.drop 8) = R at *
      generalize bs x = S at *
      obtain ⟨m, hm⟩ : ∃ m, m = x.length - 8 := ⟨_, rfl⟩
      have hm1 : m + 8 ≤ 1000000 := by omega
      rw [← hm] at hrs e2 hk'
      clear hm
      have hle2 : R.size ≤ 1000000 := by omega
      go_enter Try.func13, Try.ntmps13
      go_wp2_with (first
        | (go_at_call 14; with_reducible refine (HR.out _).mono ?_; rintro e w1 ⟨rfl, rfl⟩)
        | (go_at_call 19; with_reducible refine (H1.out _).mono ?_; rintro e w2 ⟨rfl, rfl⟩))
      go_region
      go_wp2_with fail
      go_ret3
      exact ⟨by rw [HE.out, HC.out, ← HA.out, ← HB.out]; rfl, (Below.refl _ _).drew⟩

/-- The line of a software and a comment. -/
def lnLine (a b : List UInt8) : List UInt8 := if b = [] then lnVer ++ a else lnVer ++ a ++ ([32] ++ b)
def lnOk (a b : List UInt8) : Bool := decide (a ≠ []) && (decide (lnBlank a < 0) && lnIsLine (lnLine a b))
def lnMake (a b : List UInt8) : List UInt8 := if lnOk a b = true then lnLine a b else []
def lnErr (a b : List UInt8) : Nat := if lnOk a b = true then 0 else 1
theorem lnMake_no {a b : List UInt8} (h : lnOk a b = false) : lnMake a b = [] ∧ lnErr a b = 1 := ⟨if_neg (by rw [h]; simp), if_neg (by rw [h]; simp)⟩
theorem lnMake_yes {a b : List UInt8} (h : lnOk a b = true) : lnMake a b = lnLine a b ∧ lnErr a b = 0 := ⟨if_pos h, if_pos h⟩
theorem lnLine_ver (a b : List UInt8) : ∃ r, lnLine a b = lnVer ++ (a ++ r) := by
  unfold lnLine
  split
  · exact ⟨[], by simp⟩
  · exact ⟨[32] ++ b, by simp⟩
theorem lnLine_right {a : List UInt8} (ha : a ≠ []) (b : List UInt8) : lnRight (lnLine a b) = lnIsLine (lnLine a b) := by
  obtain ⟨r, hr⟩ := lnLine_ver a b
  have h1 : lnVer.isPrefixOf (lnLine a b) = true := by rw [hr, List.isPrefixOf_iff_prefix]; exact List.prefix_append _ _
  have h2 : 8 < (lnLine a b).length := by
    have := List.length_pos_iff.2 ha
    rw [hr, List.length_append, List.length_append]
    show 8 < 8 + _
    omega
  unfold lnRight
  rw [h1, decide_eq_true h2]
  simp
theorem lnLine_len (a b : List UInt8) : (lnLine a b).length ≤ 9 + a.length + b.length := by
  unfold lnLine
  have hv : lnVer.length = 8 := rfl
  split
  · rw [List.length_append]; omega
  · simp only [List.length_append, List.length_cons, List.length_nil]; omega

set_option maxRecDepth 100000 in
theorem lnMake_any (a b : List UInt8) (ha : a.length ≤ 10000) (hb : b.length ≤ 10000) (w : World) : Calls Try.prog 8 #[.string (bs a), .string (bs b)] w fun e w' => e = .returned (.tuple #[.string (bs (lnMake a b)), .int .i64 (lnErr a b : Int)]) ∧ Below w.heap.size w w' := by
  have z1 := bs_size a
  have z2 := bs_size b
  have HZ : Hid ((⟨#[]⟩ : ByteArray) = bs []) := rfl
  have hea := lnEmptyL a
  have heb := lnEmptyL b
  have hv : lnVer.length = 8 := rfl
  have g1 : ∀ W : World, (Op.stringOp .add ⟨#[83, 83, 72, 45, 50, 46, 48, 45]⟩ (bs a)).run Try.prog W = .ok (.string (bs (lnVer ++ a))) W := fun W => lnAdd lnVer a (by omega) W
  have g2 : ∀ W : World, (Op.stringOp .add ⟨#[32]⟩ (bs b)).run Try.prog W = .ok (.string (bs ([32] ++ b))) W := fun W => lnAdd [32] b (by simp; omega) W
  have g3 : ∀ W : World, (Op.stringOp .add (bs (lnVer ++ a)) (bs ([32] ++ b))).run Try.prog W = .ok (.string (bs (lnVer ++ a ++ ([32] ++ b)))) W := fun W => lnAdd (lnVer ++ a) ([32] ++ b) (by simp; omega) W
  have HC : Hid (∀ W : World, Calls Try.prog 18 #[.string (bs a), .string ⟨#[32]⟩] W fun e w' => e = .returned (.bool (decide (0 ≤ lnBlank a))) ∧ w' = W) := fun W => (Try.strings_Contains_one (bs a) 32 W).mono (by rintro e w' ⟨rfl, rfl⟩; exact ⟨by rw [show (bs a).data.toList = a by simp [bs]]; rfl, rfl⟩)
  have HR := Lib.hid (fun W => lnRight_any (lnLine a b) (by have := lnLine_len a b; omega) W)
  have HO : Hid (lnOk a b = (decide (a ≠ []) && (decide (lnBlank a < 0) && lnIsLine (lnLine a b)))) := rfl
  have HN := Lib.hid (fun h => lnMake_no (a := a) (b := b) h)
  have HY := Lib.hid (fun h => lnMake_yes (a := a) (b := b) h)
  by_cases h0 : a = []
  · have he : (bs a).toList.isEmpty = true := by rw [hea, h0]; rfl
    have HE := Lib.hid (HN.out (by rw [HO.out, decide_eq_false (by simpa using h0)]; rfl))
    clear hea heb g1 g2 g3 HC HR HO HN HY h0
    generalize bs a = A at *
    generalize bs b = B at *
    go_enter Try.func8, Try.ntmps8
    go_wp2_with fail
    go_ret2
    exact ⟨by rw [HE.out.1, HE.out.2]; rfl, Below.refl _ _⟩
  · have he : (bs a).toList.isEmpty = false := by rw [hea]; simpa using h0
    rw [lnLine_right h0 b] at HR
    have HO2 : Hid (lnOk a b = (decide (lnBlank a < 0) && lnIsLine (lnLine a b))) := by show _ = _; rw [HO.out, decide_eq_true h0]; rfl
    by_cases hbl : lnBlank a < 0
    · rw [decide_eq_false (show ¬ 0 ≤ lnBlank a by omega)] at HC
      have HO3 : Hid (lnOk a b = lnIsLine (lnLine a b)) := by show _ = _; rw [HO2.out, decide_eq_true hbl]; rfl
      clear HO HO2 hea hbl h0
      by_cases hb0 : b = []
      · have he2 : (bs b).toList.isEmpty = true := by rw [heb, hb0]; rfl
        have hl : lnLine a b = lnVer ++ a := if_pos hb0
        rw [hl] at HR HY HO3
        clear heb g2 g3 hb0 hl
        cases hr : lnIsLine (lnVer ++ a) with
        | false =>
          rw [hr] at HR
          have HE := Lib.hid (HN.out (by rw [HO3.out, hr]))
          clear HN HY HO3 hr
          generalize bs a = A at *
          generalize bs b = B at *
          obtain ⟨V, hV⟩ : ∃ V, V = bs (lnVer ++ a) := ⟨_, rfl⟩
          have HV := Lib.hid hV
          rw [← hV] at g1 HR
          clear hV
          go_enter Try.func8, Try.ntmps8
          go_wp2_with (first
            | (go_at_call 18; refine (HC.out _).mono ?_; rintro e w1 ⟨rfl, rfl⟩)
            | (go_at_call 11; refine (HR.out _).mono ?_; rintro e w2 ⟨rfl, b2⟩))
          go_ret2
          exact ⟨by rw [HE.out.1, HE.out.2]; rfl, b2⟩
        | true =>
          rw [hr] at HR
          have HE := Lib.hid (HY.out (by rw [HO3.out, hr]))
          clear HN HY HO3 hr
          generalize bs a = A at *
          generalize bs b = B at *
          obtain ⟨V, hV⟩ : ∃ V, V = bs (lnVer ++ a) := ⟨_, rfl⟩
          have HV := Lib.hid hV
          rw [← hV] at g1 HR
          clear hV
          go_enter Try.func8, Try.ntmps8
          go_wp2_with (first
            | (go_at_call 18; refine (HC.out _).mono ?_; rintro e w1 ⟨rfl, rfl⟩)
            | (go_at_call 11; refine (HR.out _).mono ?_; rintro e w2 ⟨rfl, b2⟩))
          go_ret2
          exact ⟨by rw [HE.out.1, HE.out.2, ← HV.out]; rfl, b2⟩
      · have he2 : (bs b).toList.isEmpty = false := by rw [heb]; simpa using hb0
        have hl : lnLine a b = lnVer ++ a ++ ([32] ++ b) := if_neg hb0
        rw [hl] at HR HY HO3
        clear heb hb0 hl
        cases hr : lnIsLine (lnVer ++ a ++ ([32] ++ b)) with
        | false =>
          rw [hr] at HR
          have HE := Lib.hid (HN.out (by rw [HO3.out, hr]))
          clear HN HY HO3 hr
          generalize bs a = A at *
          generalize bs b = B at *
          obtain ⟨V, hV⟩ : ∃ V, V = bs (lnVer ++ a ++ ([32] ++ b)) := ⟨_, rfl⟩
          have HV := Lib.hid hV
          rw [← hV] at g3 HR
          clear hV
          generalize bs (lnVer ++ a) = V1 at *
          generalize bs ([32] ++ b) = V2 at *
          go_enter Try.func8, Try.ntmps8
          go_wp2_with (first
            | (go_at_call 18; refine (HC.out _).mono ?_; rintro e w1 ⟨rfl, rfl⟩)
            | (go_at_call 11; refine (HR.out _).mono ?_; rintro e w2 ⟨rfl, b2⟩))
          go_ret2
          exact ⟨by rw [HE.out.1, HE.out.2]; rfl, b2⟩
        | true =>
          rw [hr] at HR
          have HE := Lib.hid (HY.out (by rw [HO3.out, hr]))
          clear HN HY HO3 hr
          generalize bs a = A at *
          generalize bs b = B at *
          obtain ⟨V, hV⟩ : ∃ V, V = bs (lnVer ++ a ++ ([32] ++ b)) := ⟨_, rfl⟩
          have HV := Lib.hid hV
          rw [← hV] at g3 HR
          clear hV
          generalize bs (lnVer ++ a) = V1 at *
          generalize bs ([32] ++ b) = V2 at *
          go_enter Try.func8, Try.ntmps8
          go_wp2_with (first
            | (go_at_call 18; refine (HC.out _).mono ?_; rintro e w1 ⟨rfl, rfl⟩)
            | (go_at_call 11; refine (HR.out _).mono ?_; rintro e w2 ⟨rfl, b2⟩))
          go_ret2
          exact ⟨by rw [HE.out.1, HE.out.2, ← HV.out]; rfl, b2⟩
    · rw [decide_eq_true (show 0 ≤ lnBlank a by omega)] at HC
      have HE := Lib.hid (HN.out (by rw [HO2.out, decide_eq_false hbl]; rfl))
      clear HO HO2 HN HY HR hea heb g1 g2 g3 h0 hbl
      generalize bs a = A at *
      generalize bs b = B at *
      go_enter Try.func8, Try.ntmps8
      go_wp2_with (go_at_call 18; refine (HC.out _).mono ?_; rintro e w1 ⟨rfl, rfl⟩)
      go_ret2
      exact ⟨by rw [HE.out.1, HE.out.2]; rfl, Below.refl _ _⟩
end Go.Proofs.Ytgbmepfiajinhaa
