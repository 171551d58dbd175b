/- The document's Make; the example; the laws LineMakes and LineRight. -/
import Derived.Test.YtgbmepfiajinhaaLn5
namespace Go.Proofs.Ytgbmepfiajinhaa
open Go.RowKit

set_option maxRecDepth 100000 in
theorem rlMake_any (a b : List UInt8) (ha : a.length ≤ 10000) (hb : b.length ≤ 10000) (w : World) : Calls Try.prog 9 #[.string (bs a), .string (bs b)] w fun e w' => e = .returned (.tuple #[.string (bs (lnMake a b)), .bool (lnOk a b)]) ∧ Below w.heap.size w w' := by
  have z1 := bs_size a
  have z2 := bs_size b
  have HZ : Hid ((⟨#[]⟩ : ByteArray) = bs []) := rfl
  have hv : lnVer.length = 8 := rfl
  have g1 : ∀ W : World, (Op.stringOp .add ⟨#[83, 83, 72, 45, 50, 46, 48, 45]⟩ (bs a)).run Try.prog W = .ok (.string (bs (lnVer ++ a))) W := fun W => lnAdd lnVer a (by omega) W
  have g2 : ∀ W : World, (Op.stringOp .add (bs (lnVer ++ a)) ⟨#[32]⟩).run Try.prog W = .ok (.string (bs (lnVer ++ a ++ [32]))) W := fun W => lnAdd (lnVer ++ a) [32] (by simp; omega) W
  have g3 : ∀ W : World, (Op.stringOp .add (bs (lnVer ++ a ++ [32])) (bs b)).run Try.prog W = .ok (.string (bs (lnVer ++ a ++ [32] ++ b))) W := fun W => lnAdd (lnVer ++ a ++ [32]) b (by simp; omega) W
  have HC := Lib.hid (fun W => rlBlank_any a (by omega) W)
  have HR := Lib.hid (fun W => rlPlain_any (lnLine a b) (by have := lnLine_len a b; omega) W)
  have zl := bs_size (lnLine a b)
  have HO : Hid (lnOk a b = (decide (a ≠ []) && (decide (lnBlank a < 0) && (decide ((lnLine a b).length ≤ 253) && lnPlainL (lnLine a b))))) := rfl
  have HN := Lib.hid (fun h => (lnMake_no (a := a) (b := b) h).1)
  have HY := Lib.hid (fun h => (lnMake_yes (a := a) (b := b) h).1)
  obtain ⟨ib, hib⟩ : ∃ i : Int, i = lnBlank a := ⟨_, rfl⟩
  rw [← hib] at HC HO
  obtain ⟨L, hL⟩ : ∃ L, L = lnLine a b := ⟨_, rfl⟩
  have hLen : L.length ≤ 20009 := by rw [hL]; have := lnLine_len a b; omega
  rw [← hL] at HR HO HY zl
  -- the line in the two ways
  have hway : (b.length = 0 ∧ bs (lnVer ++ a) = bs L) ∨ (0 < b.length ∧ bs (lnVer ++ a ++ [32] ++ b) = bs L) := by
    by_cases hb0 : b = []
    · exact .inl ⟨by rw [hb0]; rfl, by rw [hL]; unfold lnLine; rw [if_pos hb0]⟩
    · exact .inr ⟨List.length_pos_iff.2 hb0, by rw [hL]; unfold lnLine; rw [if_neg hb0]; simp⟩
  have hend : (a.length = 0 ∧ lnOk a b = false) ∨ (0 < a.length ∧ 0 ≤ ib ∧ lnOk a b = false) ∨ (0 < a.length ∧ ib < 0 ∧ lnPlainL L = false ∧ lnOk a b = false) ∨ (0 < a.length ∧ ib < 0 ∧ lnPlainL L = true ∧ 253 < L.length ∧ lnOk a b = false) ∨ (0 < a.length ∧ ib < 0 ∧ lnPlainL L = true ∧ L.length ≤ 253 ∧ lnOk a b = true) := by
    rw [HO.out]
    by_cases h0 : a = []
    · exact .inl ⟨by rw [h0]; rfl, by rw [decide_eq_false (by simpa using h0)]; rfl⟩
    · have hp := List.length_pos_iff.2 h0
      by_cases h1 : ib < 0
      · cases h2 : lnPlainL L
        · exact .inr (.inr (.inl ⟨hp, h1, rfl, by simp⟩))
        · by_cases h3 : L.length ≤ 253
          · exact .inr (.inr (.inr (.inr ⟨hp, h1, rfl, h3, by simp [h0, h1, h3]⟩)))
          · exact .inr (.inr (.inr (.inl ⟨hp, h1, rfl, by omega, by simp [h3]⟩)))
      · exact .inr (.inl ⟨hp, by omega, by simp [h1]⟩)
  clear HO hib hL
  have HW := Lib.hid hway
  have HE := Lib.hid hend
  clear hway hend
  obtain ⟨V, hV⟩ : ∃ V, V = bs L := ⟨_, rfl⟩
  have HV := Lib.hid hV
  rw [← hV] at HR HW zl
  clear hV
  generalize bs (lnVer ++ a) = V1 at *
  generalize bs (lnVer ++ a ++ [32] ++ b) = V3 at *
  generalize bs (lnVer ++ a ++ [32]) = V2 at *
  generalize bs a = A at *
  generalize bs b = B at *
  rcases HW.out with ⟨hb0, hv1⟩ | ⟨hb0, hv3⟩
  · rw [hv1] at g1
    clear g2 g3 HW hv1
    rcases HE.out with ⟨h0, hk⟩ | ⟨h0, h1, hk⟩ | ⟨h0, h1, h2, hk⟩ | ⟨h0, h1, h2, h3, hk⟩ | ⟨h0, h1, h2, h3, hk⟩
    · have HM := Lib.hid (HN.out hk)
      have HK := Lib.hid hk
      clear HN HY HE HC HR hk
      go_enter Try.func9, Try.ntmps9
      go_wp2_with (first
        | (go_at_call 19; refine (HC.out _).mono ?_; rintro e w1 ⟨rfl, rfl⟩)
        | (go_at_call 20; refine (HR.out _).mono ?_; rintro e w2 ⟨rfl, rfl⟩))
      go_ret2
      exact ⟨by rw [HM.out, HK.out]; rfl, Below.refl _ _⟩
    · have HM := Lib.hid (HN.out hk)
      have HK := Lib.hid hk
      have q0 : ¬ a.length = 0 := by omega
      have q1 : decide (ib ≥ 0) = true := decide_eq_true h1
      clear HN HY HE HR hk h0
      go_enter Try.func9, Try.ntmps9
      go_wp2_with (first
        | (go_at_call 19; refine (HC.out _).mono ?_; rintro e w1 ⟨rfl, rfl⟩)
        | (go_at_call 20; refine (HR.out _).mono ?_; rintro e w2 ⟨rfl, rfl⟩))
      go_ret2
      exact ⟨by rw [HM.out, HK.out]; rfl, Below.refl _ _⟩
    · rw [h2] at HR
      have HM := Lib.hid (HN.out hk)
      have HK := Lib.hid hk
      have q0 : ¬ a.length = 0 := by omega
      have q1 : decide (ib ≥ 0) = false := decide_eq_false (by omega)
      clear HN HY HE hk h0 h2
      go_enter Try.func9, Try.ntmps9
      go_wp2_with (first
        | (go_at_call 19; refine (HC.out _).mono ?_; rintro e w1 ⟨rfl, rfl⟩)
        | (go_at_call 20; refine (HR.out _).mono ?_; rintro e w2 ⟨rfl, rfl⟩))
      go_ret2
      exact ⟨by rw [HM.out, HK.out]; rfl, Below.refl _ _⟩
    · rw [h2] at HR
      have HM := Lib.hid (HN.out hk)
      have HK := Lib.hid hk
      have q0 : ¬ a.length = 0 := by omega
      have q1 : decide (ib ≥ 0) = false := decide_eq_false (by omega)
      have q2 : decide ((L.length : Int) > 253) = true := decide_eq_true (by omega)
      clear HN HY HE hk h0 h2
      go_enter Try.func9, Try.ntmps9
      go_wp2_with (first
        | (go_at_call 19; refine (HC.out _).mono ?_; rintro e w1 ⟨rfl, rfl⟩)
        | (go_at_call 20; refine (HR.out _).mono ?_; rintro e w2 ⟨rfl, rfl⟩))
      go_ret2
      exact ⟨by rw [HM.out, HK.out]; rfl, Below.refl _ _⟩
    · rw [h2] at HR
      have HM := Lib.hid (HY.out hk)
      have HK := Lib.hid hk
      have q0 : ¬ a.length = 0 := by omega
      have q1 : decide (ib ≥ 0) = false := decide_eq_false (by omega)
      have q2 : decide ((L.length : Int) > 253) = false := decide_eq_false (by omega)
      clear HN HY HE hk h0 h2
      go_enter Try.func9, Try.ntmps9
      go_wp2_with (first
        | (go_at_call 19; refine (HC.out _).mono ?_; rintro e w1 ⟨rfl, rfl⟩)
        | (go_at_call 20; refine (HR.out _).mono ?_; rintro e w2 ⟨rfl, rfl⟩))
      go_ret2
      exact ⟨by rw [HM.out, HK.out, ← HV.out]; rfl, Below.refl _ _⟩
  · rw [hv3] at g3
    clear HW hv3
    rcases HE.out with ⟨h0, hk⟩ | ⟨h0, h1, hk⟩ | ⟨h0, h1, h2, hk⟩ | ⟨h0, h1, h2, h3, hk⟩ | ⟨h0, h1, h2, h3, hk⟩
    · have HM := Lib.hid (HN.out hk)
      have HK := Lib.hid hk
      clear HN HY HE HC HR hk
      go_enter Try.func9, Try.ntmps9
      go_wp2_with (first
        | (go_at_call 19; refine (HC.out _).mono ?_; rintro e w1 ⟨rfl, rfl⟩)
        | (go_at_call 20; refine (HR.out _).mono ?_; rintro e w2 ⟨rfl, rfl⟩))
      go_ret2
      exact ⟨by rw [HM.out, HK.out]; rfl, Below.refl _ _⟩
    · have HM := Lib.hid (HN.out hk)
      have HK := Lib.hid hk
      have q0 : ¬ a.length = 0 := by omega
      have q1 : decide (ib ≥ 0) = true := decide_eq_true h1
      clear HN HY HE HR hk h0
      go_enter Try.func9, Try.ntmps9
      go_wp2_with (first
        | (go_at_call 19; refine (HC.out _).mono ?_; rintro e w1 ⟨rfl, rfl⟩)
        | (go_at_call 20; refine (HR.out _).mono ?_; rintro e w2 ⟨rfl, rfl⟩))
      go_ret2
      exact ⟨by rw [HM.out, HK.out]; rfl, Below.refl _ _⟩
    · rw [h2] at HR
      have HM := Lib.hid (HN.out hk)
      have HK := Lib.hid hk
      have q0 : ¬ a.length = 0 := by omega
      have q1 : decide (ib ≥ 0) = false := decide_eq_false (by omega)
      clear HN HY HE hk h0 h2
      go_enter Try.func9, Try.ntmps9
      go_wp2_with (first
        | (go_at_call 19; refine (HC.out _).mono ?_; rintro e w1 ⟨rfl, rfl⟩)
        | (go_at_call 20; refine (HR.out _).mono ?_; rintro e w2 ⟨rfl, rfl⟩))
      go_ret2
      exact ⟨by rw [HM.out, HK.out]; rfl, Below.refl _ _⟩
    · rw [h2] at HR
      have HM := Lib.hid (HN.out hk)
      have HK := Lib.hid hk
      have q0 : ¬ a.length = 0 := by omega
      have q1 : decide (ib ≥ 0) = false := decide_eq_false (by omega)
      have q2 : decide ((L.length : Int) > 253) = true := decide_eq_true (by omega)
      clear HN HY HE hk h0 h2
      go_enter Try.func9, Try.ntmps9
      go_wp2_with (first
        | (go_at_call 19; refine (HC.out _).mono ?_; rintro e w1 ⟨rfl, rfl⟩)
        | (go_at_call 20; refine (HR.out _).mono ?_; rintro e w2 ⟨rfl, rfl⟩))
      go_ret2
      exact ⟨by rw [HM.out, HK.out]; rfl, Below.refl _ _⟩
    · rw [h2] at HR
      have HM := Lib.hid (HY.out hk)
      have HK := Lib.hid hk
      have q0 : ¬ a.length = 0 := by omega
      have q1 : decide (ib ≥ 0) = false := decide_eq_false (by omega)
      have q2 : decide ((L.length : Int) > 253) = false := decide_eq_false (by omega)
      clear HN HY HE hk h0 h2
      go_enter Try.func9, Try.ntmps9
      go_wp2_with (first
        | (go_at_call 19; refine (HC.out _).mono ?_; rintro e w1 ⟨rfl, rfl⟩)
        | (go_at_call 20; refine (HR.out _).mono ?_; rintro e w2 ⟨rfl, rfl⟩))
      go_ret2
      exact ⟨by rw [HM.out, HK.out, ← HV.out]; rfl, Below.refl _ _⟩

theorem lnExample : lnMake [120] [121] = [83, 83, 72, 45, 50, 46, 48, 45, 120, 32, 121] ∧ lnErr [120] [121] = 0 := by decide
theorem awake10_any (w : World) : Calls Try.prog 7 #[] w fun e w' => e = .returned (.bool true) ∧ Below w.heap.size w w' := by
  have H : Hid (∀ W : World, Calls Try.prog 8 #[.string ⟨#[120]⟩, .string ⟨#[121]⟩] W fun e w' => e = .returned (.tuple #[.string (bs (lnMake [120] [121])), .int .i64 (lnErr [120] [121] : Int)]) ∧ Below W.heap.size W w') := fun W => lnMake_any [120] [121] (by decide) (by decide) W
  rw [lnExample.1, lnExample.2] at H
  have hq : ((bs [83, 83, 72, 45, 50, 46, 48, 45, 120, 32, 121]).toList == [83, 83, 72, 45, 50, 46, 48, 45, 120, 32, 121]) = true := by rw [lnToList]; rfl
  generalize bs [83, 83, 72, 45, 50, 46, 48, 45, 120, 32, 121] = V at *
  go_enter Try.func7, Try.ntmps7
  go_wp2_with (go_at_call 8; refine (H.out _).mono ?_; rintro e w1 ⟨rfl, b1⟩)
  go_ret
  exact ⟨rfl, b1⟩

-- the whole of it on lists
theorem lnOk_facts {a b : List UInt8} (h : lnOk a b = true) : a ≠ [] ∧ (∀ x ∈ a, x ≠ 32) ∧ lnIsLine (lnLine a b) = true := by
  unfold lnOk at h
  simp only [Bool.and_eq_true, decide_eq_true_eq] at h
  refine ⟨h.1, ?_, h.2.2⟩
  rcases lnIndex_cases a 32 with ⟨_, h2⟩ | ⟨k, _, hk, _⟩
  · exact h2
  · have : lnBlank a = (k : Int) := hk
    omega
theorem lnBack {a b : List UInt8} (h : lnOk a b = true) : lnRight (lnLine a b) = true ∧ lnAhead (lnLine a b) = false ∧ lnSplit (lnLine a b) = (a, b, true) := by
  obtain ⟨h0, h1, h2⟩ := lnOk_facts h
  have hr : lnRight (lnLine a b) = true := by rw [lnLine_right h0, h2]
  refine ⟨hr, ?_, ?_⟩
  · obtain ⟨r, hr⟩ := lnLine_ver a b
    have : lnPre.isPrefixOf (lnLine a b) = true := by
      rw [hr, List.isPrefixOf_iff_prefix]
      exact ⟨[50, 46, 48, 45] ++ (a ++ r), rfl⟩
    unfold lnAhead
    rw [this]
    simp
  · rw [lnSplit_yes hr]
    unfold lnLine
    by_cases hb : b = []
    · rw [if_pos hb]
      have hd : (lnVer ++ a).drop 8 = a := rfl
      have : lnBlank a = -1 := lnIndex_none h1
      rw [hd, lnCut_no (by omega), hb]
    · rw [if_neg hb]
      have hd : (lnVer ++ a ++ ([32] ++ b)).drop 8 = a ++ 32 :: b := rfl
      have hk : a.length < (a ++ 32 :: b).length := by simp
      have : lnBlank (a ++ 32 :: b) = (a.length : Int) := lnIndex_hit hk (by rw [List.take_left' rfl]; exact h1) (by simp)
      rw [hd, lnCut_yes this, List.take_left' rfl]
      have : (a ++ 32 :: b).drop (a.length + 1) = b := by rw [← List.drop_drop, List.drop_left' rfl]; rfl
      rw [this]
end Go.Proofs.Ytgbmepfiajinhaa
