/- Layer 24: which names are users', by the document. -/
import Derived.Test.YtjlbifpbdocahaaDoorDnP
namespace Go.Proofs.YtjlbifpbdocahaaDoor
open Go.RowKit

set_option maxRecDepth 100000 in
theorem r24User_any (x : List UInt8) (hx : x.length ≤ 1000000) (w : World) : Calls Tryd.prog 9 #[.string (bs x)] w fun e w' => e = .returned (.bool (userP x)) ∧ w' = w := by
  have hsz := bs_size x
  have HI := Lib.hid (fun (k : Nat) (hk : k < x.length) W => index_bs x k hk W)
  have hle : (bs x).size ≤ 1000000 := by omega
  generalize bs x = S at *
  go_enter Tryd.func9, Tryd.ntmps9
  go_wp2_with fail
  go_loopw [3] (fun i wr => ∃ k : Nat, k ≤ x.length ∧ i = .int .i64 k ∧ (∀ b ∈ x.take k, uByte b = true) ∧ wr = w) (fun i _ => x.length - (intOf i).toNat)
  case atStart => exact ⟨0, Nat.zero_le _, rfl, by simp, rfl⟩
  case round =>
    obtain ⟨k, hk, rfl, htk, rfl⟩ := hrel
    by_cases hlt : k < x.length
    · have c1 := HI.out k hlt
      obtain ⟨b, hb⟩ : ∃ b, b = x[k] := ⟨_, rfl⟩
      rw [← hb] at c1
      have HN : Hid (uByte b = true → ∀ a ∈ x.take (k + 1), uByte a = true) := fun e a ha => by
        rw [List.take_succ_eq_append_getElem hlt, ← hb, List.mem_append] at ha
        rcases ha with ha | ha
        · exact htk a ha
        · simp at ha
          rw [ha]; exact e
      have HF : Hid (uByte b = false → userP x = false) := fun e => user_byte (by rw [hb]; exact List.getElem_mem hlt) e
      have HB : Hid (uByte b = decide (33 ≤ b.toNat ∧ b.toNat ≤ 126)) := rfl
      clear hb htk HI
      generalize b.toNat = n at *
      by_cases n1 : n < 33
      · have hq : decide ((n : Int) < 33) = true := decide_eq_true (by omega)
        have HO : Hid (uByte b = false) := by show uByte b = false; rw [HB.out]; exact decide_eq_false (by omega)
        go_wp2_with fail
        go_ret
        exact ⟨by rw [HF.out HO.out]; rfl, rfl⟩
      · have q1 : decide ((n : Int) < 33) = false := decide_eq_false (by omega)
        by_cases n2 : 126 < n
        · have hq : decide ((n : Int) > 126) = true := decide_eq_true (by omega)
          have HO : Hid (uByte b = false) := by show uByte b = false; rw [HB.out]; exact decide_eq_false (by omega)
          go_wp2_with fail
          go_ret
          exact ⟨by rw [HF.out HO.out]; rfl, rfl⟩
        · have q2 : decide ((n : Int) > 126) = false := decide_eq_false (by omega)
          have HO : Hid (uByte b = true) := by show uByte b = true; rw [HB.out]; exact decide_eq_true (by omega)
          go_wp2_with fail
          go_roundw
          case rel => exact ⟨k + 1, by omega, by go_num, HN.out HO.out, trivial⟩
          case measure => simp [intOf]; omega
    · have hkl : k = x.length := by omega
      subst hkl
      rw [List.take_length] at htk
      have HA := Lib.hid htk
      clear htk hlt HI
      by_cases h1 : 1 ≤ x.length
      · have q1 : decide ((x.length : Int) > 0) = true := decide_eq_true (by omega)
        by_cases h2 : x.length ≤ 64
        · have q2 : decide ((x.length : Int) ≤ 64) = true := decide_eq_true (by omega)
          have HR := Lib.hid (user_of (x := x) ⟨h1, h2⟩ HA.out)
          go_wp2_with fail
          go_ret
          exact ⟨by rw [HR.out]; rfl, rfl⟩
        · have q2 : decide ((x.length : Int) ≤ 64) = false := decide_eq_false (by omega)
          have HR := Lib.hid (user_len (x := x) (by omega))
          go_wp2_with fail
          go_ret
          exact ⟨by rw [HR.out]; rfl, rfl⟩
      · have q1 : decide ((x.length : Int) > 0) = false := decide_eq_false (by omega)
        have HR := Lib.hid (user_len (x := x) (by omega))
        go_wp2_with fail
        go_ret
        exact ⟨by rw [HR.out]; rfl, rfl⟩
end Go.Proofs.YtjlbifpbdocahaaDoor
