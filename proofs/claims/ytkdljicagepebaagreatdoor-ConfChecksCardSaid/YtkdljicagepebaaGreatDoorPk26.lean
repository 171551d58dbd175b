/- Part 26 of what the statement wants. -/
import Derived.Test.YtkdljicagepebaaGreatDoorPk04
namespace Go.Proofs.YtkdljicagepebaaGreatDoor
open Go.RowKit


set_option maxRecDepth 100000 in
theorem rlPlain_any (x : List UInt8) (hx : x.length ≤ 1000000) (w : World) : Calls Tryz.prog 50 #[.string (bs x)] w fun e w' => e = .returned (.bool (lnPlainL x)) ∧ w' = w := by
  have hsz := bs_size x
  have HI := Lib.hid (fun (k : Nat) (hk : k < x.length) W => lnIndex_bs x k hk W)
  have hle : (bs x).size ≤ 1000000 := by omega
  generalize bs x = S at *
  go_enter Tryz.func50, Tryz.ntmps50
  go_wp2_with fail
  go_loopw [3] (fun i wr => ∃ k : Nat, k ≤ x.length ∧ i = .int .i64 k ∧ (∀ b ∈ x.take k, lnPlainB b = true) ∧ wr = w) (fun i _ => x.length - (intOf i).toNat)
  case atStart => exact ⟨0, Nat.zero_le _, rfl, by simp, rfl⟩
  case round =>
    obtain ⟨k, hk, rfl, htk, rfl⟩ := hrel
    by_cases hlt : k < x.length
    · have c1 := HI.out k hlt
      obtain ⟨b, hb⟩ : ∃ b, b = x[k] := ⟨_, rfl⟩
      rw [← hb] at c1
      have HN : Hid (lnPlainB b = true → ∀ a ∈ x.take (k + 1), lnPlainB a = true) := fun e a ha => by
        rw [List.take_succ_eq_append_getElem hlt, ← hb, List.mem_append] at ha
        rcases ha with ha | ha
        · exact htk a ha
        · simp at ha
          rw [ha]; exact e
      have HF : Hid (lnPlainB b = false → lnPlainL x = false) := fun e => lnPlain_false (by rw [hb]; exact List.getElem_mem hlt) e
      have HB : Hid (lnPlainB b = decide (32 ≤ b.toNat ∧ b.toNat ≤ 126)) := rfl
      clear hb htk HI
      generalize b.toNat = n at *
      by_cases n1 : n < 32
      · have hq : decide ((n : Int) < 32) = true := decide_eq_true (by omega)
        have HO : Hid (lnPlainB b = false) := by show lnPlainB b = false; rw [HB.out]; exact decide_eq_false (by omega)
        go_wp2_with fail
        go_ret
        exact ⟨by rw [HF.out HO.out]; rfl, rfl⟩
      · have q1 : decide ((n : Int) < 32) = false := decide_eq_false (by omega)
        by_cases n2 : 126 < n
        · have hq : decide ((n : Int) > 126) = true := decide_eq_true (by omega)
          have HO : Hid (lnPlainB b = false) := by show lnPlainB b = false; rw [HB.out]; exact decide_eq_false (by omega)
          go_wp2_with fail
          go_ret
          exact ⟨by rw [HF.out HO.out]; rfl, rfl⟩
        · have q2 : decide ((n : Int) > 126) = false := decide_eq_false (by omega)
          have HO : Hid (lnPlainB b = true) := by show lnPlainB b = true; rw [HB.out]; exact decide_eq_true (by omega)
          go_wp2_with fail
          go_roundw
          case rel => exact ⟨k + 1, by omega, by go_num, HN.out HO.out, trivial⟩
          case measure => simp [intOf]; omega
    · have hkl : k = x.length := by omega
      subst hkl
      rw [List.take_length] at htk
      have HR := Lib.hid (lnPlain_true htk)
      clear htk hlt HI
      go_wp2_with fail
      go_ret
      exact ⟨by rw [HR.out]; rfl, rfl⟩
end Go.Proofs.YtkdljicagepebaaGreatDoor

namespace Go.Proofs.YtkdljicagepebaaGreatDoor
open Go.RowKit

set_option maxRecDepth 100000 in
theorem rlBlank_any (x : List UInt8) (hx : x.length ≤ 1000000) (w : World) : Calls Tryz.prog 49 #[.string (bs x)] w fun e w' => e = .returned (.int .i64 (lnBlank x)) ∧ w' = w := by
  have hsz := bs_size x
  have HI := Lib.hid (fun (k : Nat) (hk : k < x.length) W => lnIndex_bs x k hk W)
  have hle : (bs x).size ≤ 1000000 := by omega
  generalize bs x = S at *
  go_enter Tryz.func49, Tryz.ntmps49
  go_wp2_with fail
  go_loopw [3] (fun i wr => ∃ k : Nat, k ≤ x.length ∧ i = .int .i64 k ∧ (∀ b ∈ x.take k, b ≠ 32) ∧ wr = w) (fun i _ => x.length - (intOf i).toNat)
  case atStart => exact ⟨0, Nat.zero_le _, rfl, by simp, rfl⟩
  case round =>
    obtain ⟨k, hk, rfl, htk, rfl⟩ := hrel
    by_cases hlt : k < x.length
    · have c1 := HI.out k hlt
      by_cases hb : x[k] = 32
      · have HE := Lib.hid (lnIndex_hit hlt htk hb)
        rw [hb] at c1
        have c2 : ∀ W : World, (Instr.index 9 (.string S) (.int .i64 (k : Int))).run Tryz.prog W = .ok (.int .u8 32) W := fun W => c1 W
        clear c1 htk HI hb
        go_wp2_with fail
        go_ret
        exact ⟨by show _ = Ending.returned (.int .i64 (Lib.indexByte x 32)); rw [HE.out]; rfl, rfl⟩
      · have HN : Hid (∀ a ∈ x.take (k + 1), a ≠ 32) := fun a ha => by
          rw [List.take_succ_eq_append_getElem hlt, List.mem_append] at ha
          rcases ha with ha | ha
          · exact htk a ha
          · simp at ha
            rw [ha]; exact hb
        have hq : ((x[k].toNat : Int) == 32) = false := by
          rw [beq_eq_false_iff_ne]
          intro e
          exact hb (UInt8.toNat_inj.1 (by rw [show (32 : UInt8).toNat = 32 from rfl]; omega))
        clear htk HI hb
        generalize x[k].toNat = n at *
        go_wp2_with fail
        go_roundw
        case rel => exact ⟨k + 1, by omega, by go_num, HN.out, trivial⟩
        case measure => simp [intOf]; omega
    · have hkl : k = x.length := by omega
      subst hkl
      rw [List.take_length] at htk
      have HR := Lib.hid (lnIndex_none htk)
      clear htk hlt HI
      go_wp2_with fail
      go_ret
      exact ⟨by show _ = Ending.returned (.int .i64 (Lib.indexByte x 32)); rw [HR.out]; rfl, rfl⟩
end Go.Proofs.YtkdljicagepebaaGreatDoor

namespace Go.Proofs.YtkdljicagepebaaGreatDoor
open Go.RowKit


set_option maxRecDepth 100000 in
theorem rlMake_any (a b : List UInt8) (ha : a.length ≤ 10000) (hb : b.length ≤ 10000) (w : World) : Calls Tryz.prog 21 #[.string (bs a), .string (bs b)] w fun e w' => e = .returned (.tuple #[.string (bs (lnMake a b)), .bool (lnOk a b)]) ∧ Below w.heap.size w w' := by
  have z1 := bs_size a
  have z2 := bs_size b
  have HZ : Hid ((⟨#[]⟩ : ByteArray) = bs []) := rfl
  have hv : lnVer.length = 8 := rfl
  have g1 : ∀ W : World, (Op.stringOp .add ⟨#[83, 83, 72, 45, 50, 46, 48, 45]⟩ (bs a)).run Tryz.prog W = .ok (.string (bs (lnVer ++ a))) W := fun W => lnAdd lnVer a (by omega) W
  have g2 : ∀ W : World, (Op.stringOp .add (bs (lnVer ++ a)) ⟨#[32]⟩).run Tryz.prog W = .ok (.string (bs (lnVer ++ a ++ [32]))) W := fun W => lnAdd (lnVer ++ a) [32] (by simp; omega) W
  have g3 : ∀ W : World, (Op.stringOp .add (bs (lnVer ++ a ++ [32])) (bs b)).run Tryz.prog W = .ok (.string (bs (lnVer ++ a ++ [32] ++ b))) W := fun W => lnAdd (lnVer ++ a ++ [32]) b (by simp; omega) W
  have HC := Lib.hid (fun W => rlBlank_any a (by omega) W)
  have HR := Lib.hid (fun W => rlPlain_any (lnLine a b) (by have := lnLine_len a b; omega) W)
  have zl := bs_size (lnLine a b)
  have HO : Hid (lnOk a b = (decide (a ≠ []) && (decide (lnBlank a < 0) && (decide ((lnLine a b).length ≤ 253) && lnPlainL (lnLine a b))))) := rfl
  have HN := Lib.hid (fun h => (lnMake_no (a := a) (b := b) h).1)
  have HY := Lib.hid (fun h => (lnMake_yes (a := a) (b := b) h).1)
  obtain ⟨ib, hib⟩ : ∃ i : Int, i = lnBlank a := ⟨_, rfl⟩
  rw [← hib] at HC HO
  obtain ⟨L, hL⟩ : ∃ L, L = lnLine a b := ⟨_, rfl⟩
  have hLen : L.length ≤ 20009 := by rw [hL]; have := lnLine_len a b; omega
  rw [← hL] at HR HO HY zl
  -- the line in the two ways
  have hway : (b.length = 0 ∧ bs (lnVer ++ a) = bs L) ∨ (0 < b.length ∧ bs (lnVer ++ a ++ [32] ++ b) = bs L) := by
    by_cases hb0 : b = []
    · exact .inl ⟨by rw [hb0]; rfl, by rw [hL]; unfold lnLine; rw [if_pos hb0]⟩
    · exact .inr ⟨List.length_pos_iff.2 hb0, by rw [hL]; unfold lnLine; rw [if_neg hb0]; simp⟩
  have hend : (a.length = 0 ∧ lnOk a b = false) ∨ (0 < a.length ∧ 0 ≤ ib ∧ lnOk a b = false) ∨ (0 < a.length ∧ ib < 0 ∧ lnPlainL L = false ∧ lnOk a b = false) ∨ (0 < a.length ∧ ib < 0 ∧ lnPlainL L = true ∧ 253 < L.length ∧ lnOk a b = false) ∨ (0 < a.length ∧ ib < 0 ∧ lnPlainL L = true ∧ L.length ≤ 253 ∧ lnOk a b = true) := by
    rw [HO.out]
    by_cases h0 : a = []
    · exact .inl ⟨by rw [h0]; rfl, by rw [decide_eq_false (by simpa using h0)]; rfl⟩
    · have hp := List.length_pos_iff.2 h0
      by_cases h1 : ib < 0
      · cases h2 : lnPlainL L
        · exact .inr (.inr (.inl ⟨hp, h1, rfl, by simp⟩))
        · by_cases h3 : L.length ≤ 253
          · exact .inr (.inr (.inr (.inr ⟨hp, h1, rfl, h3, by simp [h0, h1, h3]⟩)))
          · exact .inr (.inr (.inr (.inl ⟨hp, h1, rfl, by omega, by simp [h3]⟩)))
      · exact .inr (.inl ⟨hp, by omega, by simp [h1]⟩)
  clear HO hib hL
  have HW := Lib.hid hway
  have HE := Lib.hid hend
  clear hway hend
  obtain ⟨V, hV⟩ : ∃ V, V = bs L := ⟨_, rfl⟩
  have HV := Lib.hid hV
  rw [← hV] at HR HW zl
  clear hV
  generalize bs (lnVer ++ a) = V1 at *
  generalize bs (lnVer ++ a ++ [32] ++ b) = V3 at *
  generalize bs (lnVer ++ a ++ [32]) = V2 at *
  generalize bs a = A at *
  generalize bs b = B at *
  rcases HW.out with ⟨hb0, hv1⟩ | ⟨hb0, hv3⟩
  · rw [hv1] at g1
    clear g2 g3 HW hv1
    rcases HE.out with ⟨h0, hk⟩ | ⟨h0, h1, hk⟩ | ⟨h0, h1, h2, hk⟩ | ⟨h0, h1, h2, h3, hk⟩ | ⟨h0, h1, h2, h3, hk⟩
    · have HM := Lib.hid (HN.out hk)
      have HK := Lib.hid hk
      clear HN HY HE HC HR hk
      go_enter Tryz.func21, Tryz.ntmps21
      go_wp2_with (first
        | (go_at_call 49; refine (HC.out _).mono ?_; rintro e w1 ⟨rfl, rfl⟩)
        | (go_at_call 50; refine (HR.out _).mono ?_; rintro e w2 ⟨rfl, rfl⟩))
      go_ret2
      exact ⟨by rw [HM.out, HK.out]; rfl, Below.refl _ _⟩
    · have HM := Lib.hid (HN.out hk)
      have HK := Lib.hid hk
      have q0 : ¬ a.length = 0 := by omega
      have q1 : decide (ib ≥ 0) = true := decide_eq_true h1
      clear HN HY HE HR hk h0
      go_enter Tryz.func21, Tryz.ntmps21
      go_wp2_with (first
        | (go_at_call 49; refine (HC.out _).mono ?_; rintro e w1 ⟨rfl, rfl⟩)
        | (go_at_call 50; refine (HR.out _).mono ?_; rintro e w2 ⟨rfl, rfl⟩))
      go_ret2
      exact ⟨by rw [HM.out, HK.out]; rfl, Below.refl _ _⟩
    · rw [h2] at HR
      have HM := Lib.hid (HN.out hk)
      have HK := Lib.hid hk
      have q0 : ¬ a.length = 0 := by omega
      have q1 : decide (ib ≥ 0) = false := decide_eq_false (by omega)
      clear HN HY HE hk h0 h2
      go_enter Tryz.func21, Tryz.ntmps21
      go_wp2_with (first
        | (go_at_call 49; refine (HC.out _).mono ?_; rintro e w1 ⟨rfl, rfl⟩)
        | (go_at_call 50; refine (HR.out _).mono ?_; rintro e w2 ⟨rfl, rfl⟩))
      go_ret2
      exact ⟨by rw [HM.out, HK.out]; rfl, Below.refl _ _⟩
    · rw [h2] at HR
      have HM := Lib.hid (HN.out hk)
      have HK := Lib.hid hk
      have q0 : ¬ a.length = 0 := by omega
      have q1 : decide (ib ≥ 0) = false := decide_eq_false (by omega)
      have q2 : decide ((L.length : Int) > 253) = true := decide_eq_true (by omega)
      clear HN HY HE hk h0 h2
      go_enter Tryz.func21, Tryz.ntmps21
      go_wp2_with (first
        | (go_at_call 49; refine (HC.out _).mono ?_; rintro e w1 ⟨rfl, rfl⟩)
        | (go_at_call 50; refine (HR.out _).mono ?_; rintro e w2 ⟨rfl, rfl⟩))
      go_ret2
      exact ⟨by rw [HM.out, HK.out]; rfl, Below.refl _ _⟩
    · rw [h2] at HR
      have HM := Lib.hid (HY.out hk)
      have HK := Lib.hid hk
      have q0 : ¬ a.length = 0 := by omega
      have q1 : decide (ib ≥ 0) = false := decide_eq_false (by omega)
      have q2 : decide ((L.length : Int) > 253) = false := decide_eq_false (by omega)
      clear HN HY HE hk h0 h2
      go_enter Tryz.func21, Tryz.ntmps21
      go_wp2_with (first
        | (go_at_call 49; refine (HC.out _).mono ?_; rintro e w1 ⟨rfl, rfl⟩)
        | (go_at_call 50; refine (HR.out _).mono ?_; rintro e w2 ⟨rfl, rfl⟩))
      go_ret2
      exact ⟨by rw [HM.out, HK.out, ← HV.out]; rfl, Below.refl _ _⟩
  · rw [hv3] at g3
    clear HW hv3
    rcases HE.out with ⟨h0, hk⟩ | ⟨h0, h1, hk⟩ | ⟨h0, h1, h2, hk⟩ | ⟨h0, h1, h2, h3, hk⟩ | ⟨h0, h1, h2, h3, hk⟩
    · have HM := Lib.hid (HN.out hk)
      have HK := Lib.hid hk
      clear HN HY HE HC HR hk
      go_enter Tryz.func21, Tryz.ntmps21
      go_wp2_with (first
        | (go_at_call 49; refine (HC.out _).mono ?_; rintro e w1 ⟨rfl, rfl⟩)
        | (go_at_call 50; refine (HR.out _).mono ?_; rintro e w2 ⟨rfl, rfl⟩))
      go_ret2
      exact ⟨by rw [HM.out, HK.out]; rfl, Below.refl _ _⟩
    · have HM := Lib.hid (HN.out hk)
      have HK := Lib.hid hk
      have q0 : ¬ a.length = 0 := by omega
      have q1 : decide (ib ≥ 0) = true := decide_eq_true h1
      clear HN HY HE HR hk h0
      go_enter Tryz.func21, Tryz.ntmps21
      go_wp2_with (first
        | (go_at_call 49; refine (HC.out _).mono ?_; rintro e w1 ⟨rfl, rfl⟩)
        | (go_at_call 50; refine (HR.out _).mono ?_; rintro e w2 ⟨rfl, rfl⟩))
      go_ret2
      exact ⟨by rw [HM.out, HK.out]; rfl, Below.refl _ _⟩
    · rw [h2] at HR
      have HM := Lib.hid (HN.out hk)
      have HK := Lib.hid hk
      have q0 : ¬ a.length = 0 := by omega
      have q1 : decide (ib ≥ 0) = false := decide_eq_false (by omega)
      clear HN HY HE hk h0 h2
      go_enter Tryz.func21, Tryz.ntmps21
      go_wp2_with (first
        | (go_at_call 49; refine (HC.out _).mono ?_; rintro e w1 ⟨rfl, rfl⟩)
        | (go_at_call 50; refine (HR.out _).mono ?_; rintro e w2 ⟨rfl, rfl⟩))
      go_ret2
      exact ⟨by rw [HM.out, HK.out]; rfl, Below.refl _ _⟩
    · rw [h2] at HR
      have HM := Lib.hid (HN.out hk)
      have HK := Lib.hid hk
      have q0 : ¬ a.length = 0 := by omega
      have q1 : decide (ib ≥ 0) = false := decide_eq_false (by omega)
      have q2 : decide ((L.length : Int) > 253) = true := decide_eq_true (by omega)
      clear HN HY HE hk h0 h2
      go_enter Tryz.func21, Tryz.ntmps21
      go_wp2_with (first
        | (go_at_call 49; refine (HC.out _).mono ?_; rintro e w1 ⟨rfl, rfl⟩)
        | (go_at_call 50; refine (HR.out _).mono ?_; rintro e w2 ⟨rfl, rfl⟩))
      go_ret2
      exact ⟨by rw [HM.out, HK.out]; rfl, Below.refl _ _⟩
    · rw [h2] at HR
      have HM := Lib.hid (HY.out hk)
      have HK := Lib.hid hk
      have q0 : ¬ a.length = 0 := by omega
      have q1 : decide (ib ≥ 0) = false := decide_eq_false (by omega)
      have q2 : decide ((L.length : Int) > 253) = false := decide_eq_false (by omega)
      clear HN HY HE hk h0 h2
      go_enter Tryz.func21, Tryz.ntmps21
      go_wp2_with (first
        | (go_at_call 49; refine (HC.out _).mono ?_; rintro e w1 ⟨rfl, rfl⟩)
        | (go_at_call 50; refine (HR.out _).mono ?_; rintro e w2 ⟨rfl, rfl⟩))
      go_ret2
      exact ⟨by rw [HM.out, HK.out, ← HV.out]; rfl, Below.refl _ _⟩
end Go.Proofs.YtkdljicagepebaaGreatDoor
