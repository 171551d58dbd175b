/- Part 2 of what the statement wants. -/
import Derived.Test.YtjlbifpbdocahaaPk01
namespace Go.Proofs.Ytjlbifpbdocahaa
open Go.RowKit

theorem right_of {x : List UInt8} (h : 1 ≤ x.length ∧ x.length ≤ 64) (ha : ∀ b ∈ x, okB b = true) : rightL x = true := by
  unfold rightL
  rw [decide_eq_true h, List.all_eq_true.2 ha]
  rfl
theorem right_len {x : List UInt8} (h : ¬ (1 ≤ x.length ∧ x.length ≤ 64)) : rightL x = false := by
  unfold rightL
  rw [decide_eq_false h]
  rfl
theorem right_byte {x : List UInt8} {b : UInt8} (hb : b ∈ x) (h : okB b = false) : rightL x = false := by
  unfold rightL
  rw [Bool.and_eq_false_iff]
  right
  rw [List.all_eq_false]
  exact ⟨b, hb, by rw [h]; simp⟩
theorem bs_isEmpty (x : List UInt8) : (bs x).toList.isEmpty = x.isEmpty := by
  rw [ByteArray.toList_eq]
  simp [bs]

set_option maxRecDepth 100000 in
theorem nRight_any (x : List UInt8) (hx : x.length ≤ 1000000) (w : World) : Calls Try.prog 97 #[.string (bs x)] w fun e w' => e = .returned (.bool (rightL x)) ∧ Below w.heap.size w w' := by
  have hsz := bs_size x
  by_cases h0 : x = []
  · subst h0
    have HR : Hid (rightL [] = false) := rfl
    rw [show bs ([] : List UInt8) = ⟨#[]⟩ from rfl]
    go_enter Try.func97, Try.ntmps97
    go_wp2
    go_ret
    exact ⟨by rw [HR.out]; rfl, Below.refl _ _⟩
  · have hne : (bs x).toList.isEmpty = false := by rw [bs_isEmpty]; simpa using h0
    by_cases h1 : 64 < x.length
    · have HR := Lib.hid (right_len (x := x) (by omega))
      generalize bs x = S at *
      go_enter Try.func97, Try.ntmps97
      go_wp2
      go_ret
      exact ⟨by rw [HR.out]; rfl, Below.refl _ _⟩
    · have hpos : 1 ≤ x.length := List.length_pos_iff.2 h0
      obtain ⟨c, w2, hcv, hcell, hbel, _⟩ := conv_bytes w x
      have hle : (bs x).size ≤ 64 := by omega
      generalize bs x = S at *
      go_enter Try.func97, Try.ntmps97
      go_wp2_with fail
      have HC := Lib.hid hcell
      clear hcell hcv
      go_loopw [15] (fun i wr => ∃ k : Nat, k ≤ x.length ∧ i = .int .i64 k ∧ (∀ b ∈ x.take k, okB b = true) ∧ wr = w2) (fun i _ => x.length - (intOf i).toNat)
      case atStart => exact ⟨0, Nat.zero_le _, rfl, by simp, rfl⟩
      case round =>
        obtain ⟨k, hk, rfl, htk, rfl⟩ := hrel
        by_cases hlt : k < x.length
        · have c1 := HC.out k hlt
          obtain ⟨b, hb⟩ : ∃ b, b = x[k] := ⟨_, rfl⟩
          rw [← hb] at c1
          have HN : Hid (okB b = true → ∀ a ∈ x.take (k + 1), okB a = true) := fun e a ha => by
            rw [List.take_succ_eq_append_getElem hlt, ← hb, List.mem_append] at ha
            rcases ha with ha | ha
            · exact htk a ha
            · simp at ha
              rw [ha]; exact e
          have HF : Hid (okB b = false → rightL x = false) := fun e => right_byte (by rw [hb]; exact List.getElem_mem hlt) e
          have HB : Hid (okB b = decide (33 ≤ b.toNat ∧ b.toNat ≤ 126 ∧ b.toNat ≠ 44)) := rfl
          clear hb htk HC
          generalize b.toNat = n at *
          by_cases n1 : n < 33
          · have hq : decide ((n : Int) < 33) = true := decide_eq_true (by omega)
            have HO : Hid (okB b = false) := by show okB b = false; rw [HB.out]; exact decide_eq_false (by omega)
            go_wp2_with fail
            go_ret
            exact ⟨by rw [HF.out HO.out]; rfl, hbel⟩
          · have q1 : decide ((n : Int) < 33) = false := decide_eq_false (by omega)
            by_cases n2 : 126 < n
            · have hq : decide ((n : Int) > 126) = true := decide_eq_true (by omega)
              have HO : Hid (okB b = false) := by show okB b = false; rw [HB.out]; exact decide_eq_false (by omega)
              go_wp2_with fail
              go_ret
              exact ⟨by rw [HF.out HO.out]; rfl, hbel⟩
            · have q2 : decide ((n : Int) > 126) = false := decide_eq_false (by omega)
              by_cases n3 : n = 44
              · have HO : Hid (okB b = false) := by show okB b = false; rw [HB.out]; exact decide_eq_false (by omega)
                subst n3
                go_wp2_with fail
                go_ret
                exact ⟨by rw [HF.out HO.out]; rfl, hbel⟩
              · have q3 : ((n : Int) == (((⟨#[44]⟩ : ByteArray)[0]'(by decide)).toNat : Int)) = false := by
                  show ((n : Int) == 44) = false
                  rw [beq_eq_false_iff_ne]; omega
                have HO : Hid (okB b = true) := by show okB b = true; rw [HB.out]; exact decide_eq_true (by omega)
                go_wp2_with fail
                go_roundw
                case rel => exact ⟨k + 1, by omega, by go_num, HN.out HO.out, trivial⟩
                case measure => simp [intOf]; omega
        · have hkl : k = x.length := by omega
          subst hkl
          rw [List.take_length] at htk
          have HR := Lib.hid (right_of (x := x) (by omega) htk)
          clear htk hlt HC
          go_wp2_with fail
          go_ret
          exact ⟨by rw [HR.out]; rfl, hbel⟩

set_option maxRecDepth 100000 in
theorem rRight_any (x : List UInt8) (hx : x.length ≤ 1000000) (w : World) : Calls Try.prog 81 #[.string (bs x)] w fun e w' => e = .returned (.bool (rightL x)) ∧ w' = w := by
  have hsz := bs_size x
  have HI := Lib.hid (fun (k : Nat) (hk : k < x.length) W => index_bs x k hk W)
  have hle : (bs x).size ≤ 1000000 := by omega
  generalize bs x = S at *
  go_enter Try.func81, Try.ntmps81
  go_wp2_with fail
  go_loopw [3] (fun i wr => ∃ k : Nat, k ≤ x.length ∧ i = .int .i64 k ∧ (∀ b ∈ x.take k, okB b = true) ∧ wr = w) (fun i _ => x.length - (intOf i).toNat)
  case atStart => exact ⟨0, Nat.zero_le _, rfl, by simp, rfl⟩
  case round =>
    obtain ⟨k, hk, rfl, htk, rfl⟩ := hrel
    by_cases hlt : k < x.length
    · have c1 := HI.out k hlt
      obtain ⟨b, hb⟩ : ∃ b, b = x[k] := ⟨_, rfl⟩
      rw [← hb] at c1
      have HN : Hid (okB b = true → ∀ a ∈ x.take (k + 1), okB a = true) := fun e a ha => by
        rw [List.take_succ_eq_append_getElem hlt, ← hb, List.mem_append] at ha
        rcases ha with ha | ha
        · exact htk a ha
        · simp at ha
          rw [ha]; exact e
      have HF : Hid (okB b = false → rightL x = false) := fun e => right_byte (by rw [hb]; exact List.getElem_mem hlt) e
      have HB : Hid (okB b = decide (33 ≤ b.toNat ∧ b.toNat ≤ 126 ∧ b.toNat ≠ 44)) := rfl
      clear hb htk HI
      generalize b.toNat = n at *
      by_cases n1 : n < 33
      · have hq : decide ((n : Int) < 33) = true := decide_eq_true (by omega)
        have HO : Hid (okB b = false) := by show okB b = false; rw [HB.out]; exact decide_eq_false (by omega)
        go_wp2_with fail
        go_ret
        exact ⟨by rw [HF.out HO.out]; rfl, rfl⟩
      · have q1 : decide ((n : Int) < 33) = false := decide_eq_false (by omega)
        by_cases n2 : 126 < n
        · have hq : decide ((n : Int) > 126) = true := decide_eq_true (by omega)
          have HO : Hid (okB b = false) := by show okB b = false; rw [HB.out]; exact decide_eq_false (by omega)
          go_wp2_with fail
          go_ret
          exact ⟨by rw [HF.out HO.out]; rfl, rfl⟩
        · have q2 : decide ((n : Int) > 126) = false := decide_eq_false (by omega)
          by_cases n3 : n = 44
          · have HO : Hid (okB b = false) := by show okB b = false; rw [HB.out]; exact decide_eq_false (by omega)
            subst n3
            go_wp2_with fail
            go_ret
            exact ⟨by rw [HF.out HO.out]; rfl, rfl⟩
          · have q3 : ((n : Int) == 44) = false := by rw [beq_eq_false_iff_ne]; omega
            have HO : Hid (okB b = true) := by show okB b = true; rw [HB.out]; exact decide_eq_true (by omega)
            go_wp2_with fail
            go_roundw
            case rel => exact ⟨k + 1, by omega, by go_num, HN.out HO.out, trivial⟩
            case measure => simp [intOf]; omega
    · have hkl : k = x.length := by omega
      subst hkl
      rw [List.take_length] at htk
      have HA := Lib.hid htk
      clear htk hlt HI
      by_cases h1 : 1 ≤ x.length
      · have q1 : decide ((x.length : Int) ≥ 1) = true := decide_eq_true (by omega)
        by_cases h2 : x.length ≤ 64
        · have q2 : decide ((x.length : Int) ≤ 64) = true := decide_eq_true (by omega)
          have HR := Lib.hid (right_of (x := x) ⟨h1, h2⟩ HA.out)
          go_wp2_with fail
          go_ret
          exact ⟨by rw [HR.out]; rfl, rfl⟩
        · have q2 : decide ((x.length : Int) ≤ 64) = false := decide_eq_false (by omega)
          have HR := Lib.hid (right_len (x := x) (by omega))
          go_wp2_with fail
          go_ret
          exact ⟨by rw [HR.out]; rfl, rfl⟩
      · have q1 : decide ((x.length : Int) ≥ 1) = false := decide_eq_false (by omega)
        have HR := Lib.hid (right_len (x := x) (by omega))
        go_wp2_with fail
        go_ret
        exact ⟨by rw [HR.out]; rfl, rfl⟩
end Go.Proofs.Ytjlbifpbdocahaa
