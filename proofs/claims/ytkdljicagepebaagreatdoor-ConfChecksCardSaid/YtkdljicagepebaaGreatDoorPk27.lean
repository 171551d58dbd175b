/- Part 27 of what the statement wants. -/
import Derived.Test.YtkdljicagepebaaGreatDoorPk00
import Derived.Test.YtkdljicagepebaaGreatDoorPk01
namespace Go.Proofs.YtkdljicagepebaaGreatDoor
open Go.RowKit

set_option maxRecDepth 100000 in
theorem r24User_any (x : List UInt8) (hx : x.length ≤ 1000000) (w : World) : Calls Tryz.prog 44 #[.string (bs x)] w fun e w' => e = .returned (.bool (userP x)) ∧ w' = w := by
  have hsz := bs_size x
  have HI := Lib.hid (fun (k : Nat) (hk : k < x.length) W => index_bs x k hk W)
  have hle : (bs x).size ≤ 1000000 := by omega
  generalize bs x = S at *
  go_enter Tryz.func44, Tryz.ntmps44
  go_wp2_with fail
  go_loopw [3] (fun i wr => ∃ k : Nat, k ≤ x.length ∧ i = .int .i64 k ∧ (∀ b ∈ x.take k, uByte b = true) ∧ wr = w) (fun i _ => x.length - (intOf i).toNat)
  case atStart => exact ⟨0, Nat.zero_le _, rfl, by simp, rfl⟩
  case round =>
    obtain ⟨k, hk, rfl, htk, rfl⟩ := hrel
    by_cases hlt : k < x.length
    · have c1 := HI.out k hlt
      obtain ⟨b, hb⟩ : ∃ b, b = x[k] := ⟨_, rfl⟩
      rw [← hb] at c1
      have HN : Hid (uByte b = true → ∀ a ∈ x.take (k + 1), uByte a = true) := fun e a ha => by
        rw [List.take_succ_eq_append_getElem hlt, ← hb, List.mem_append] at ha
        rcases ha with ha | ha
        · exact htk a ha
        · simp at ha
          rw [ha]; exact e
      have HF : Hid (uByte b = false → userP x = false) := fun e => user_byte (by rw [hb]; exact List.getElem_mem hlt) e
      have HB : Hid (uByte b = decide (33 ≤ b.toNat ∧ b.toNat ≤ 126)) := rfl
      clear hb htk HI
      generalize b.toNat = n at *
      by_cases n1 : n < 33
      · have hq : decide ((n : Int) < 33) = true := decide_eq_true (by omega)
        have HO : Hid (uByte b = false) := by show uByte b = false; rw [HB.out]; exact decide_eq_false (by omega)
        go_wp2_with fail
        go_ret
        exact ⟨by rw [HF.out HO.out]; rfl, rfl⟩
      · have q1 : decide ((n : Int) < 33) = false := decide_eq_false (by omega)
        by_cases n2 : 126 < n
        · have hq : decide ((n : Int) > 126) = true := decide_eq_true (by omega)
          have HO : Hid (uByte b = false) := by show uByte b = false; rw [HB.out]; exact decide_eq_false (by omega)
          go_wp2_with fail
          go_ret
          exact ⟨by rw [HF.out HO.out]; rfl, rfl⟩
        · have q2 : decide ((n : Int) > 126) = false := decide_eq_false (by omega)
          have HO : Hid (uByte b = true) := by show uByte b = true; rw [HB.out]; exact decide_eq_true (by omega)
          go_wp2_with fail
          go_roundw
          case rel => exact ⟨k + 1, by omega, by go_num, HN.out HO.out, trivial⟩
          case measure => simp [intOf]; omega
    · have hkl : k = x.length := by omega
      subst hkl
      rw [List.take_length] at htk
      have HA := Lib.hid htk
      clear htk hlt HI
      by_cases h1 : 1 ≤ x.length
      · have q1 : decide ((x.length : Int) > 0) = true := decide_eq_true (by omega)
        by_cases h2 : x.length ≤ 64
        · have q2 : decide ((x.length : Int) ≤ 64) = true := decide_eq_true (by omega)
          have HR := Lib.hid (user_of (x := x) ⟨h1, h2⟩ HA.out)
          go_wp2_with fail
          go_ret
          exact ⟨by rw [HR.out]; rfl, rfl⟩
        · have q2 : decide ((x.length : Int) ≤ 64) = false := decide_eq_false (by omega)
          have HR := Lib.hid (user_len (x := x) (by omega))
          go_wp2_with fail
          go_ret
          exact ⟨by rw [HR.out]; rfl, rfl⟩
      · have q1 : decide ((x.length : Int) > 0) = false := decide_eq_false (by omega)
        have HR := Lib.hid (user_len (x := x) (by omega))
        go_wp2_with fail
        go_ret
        exact ⟨by rw [HR.out]; rfl, rfl⟩
end Go.Proofs.YtkdljicagepebaaGreatDoor

namespace Go.Proofs.YtkdljicagepebaaGreatDoor
open Go.RowKit

set_option maxRecDepth 100000 in
theorem rHas_any {w : World} {v : Value} {l : List ByteArray} (h : TextsAt w v l) (hl : l.length ≤ maxLen) (x : ByteArray) :
    Calls Tryz.prog 64 #[v, .string x] w fun e w' => e = .returned (.bool (decide (x ∈ l))) ∧ w' = w := by
  obtain ⟨ao, cap, rfl, hc⟩ := h
  unfold maxLen at hl
  go_enter Tryz.func64, Tryz.ntmps64
  go_wp2_with fail
  go_loopw [5] (fun i wr => ∃ k : Nat, k ≤ l.length ∧ i = .int .i64 k ∧ x ∉ l.take k ∧ wr = w) (fun i _ => l.length - (intOf i).toNat)
  case atStart => exact ⟨0, Nat.zero_le _, rfl, by simp, rfl⟩
  case round =>
    obtain ⟨k, hk, rfl, htk, rfl⟩ := hrel
    by_cases hlt : k < l.length
    · obtain ⟨b, off, rfl, hb, hcell⟩ := hc (by intro h; simp [h] at hlt)
      obtain ⟨y, hy⟩ : ∃ y, y = l[k] := ⟨_, rfl⟩
      have c1 : wr.cell? ⟨b, off + k, none⟩ = some (.string y) := hcell k y (by simp [hlt, hy])
      have HN : Hid (y ≠ x → x ∉ l.take (k + 1)) := fun e hm => by
        rw [List.take_succ_eq_append_getElem hlt, ← hy, List.mem_append] at hm
        rcases hm with hm | hm
        · exact htk hm
        · simp at hm
          exact e hm.symm
      have HT : Hid (y = x → x ∈ l) := fun e => by rw [← e, hy]; exact List.getElem_mem hlt
      clear hc hcell htk hy
      by_cases hxy : y = x
      · have hbq := same_yes hxy
        go_wp2_with fail
        go_ret
        exact ⟨by rw [decide_eq_true (HT.out hxy)]; rfl, rfl⟩
      · have hbq := same_no hxy
        go_wp2_with fail
        go_roundw
        case rel => exact ⟨k + 1, by omega, by go_num, HN.out hxy, trivial⟩
        case measure => simp [intOf]; omega
    · have hkl : k = l.length := by omega
      subst hkl
      rw [List.take_length] at htk
      have HE := Lib.hid (decide_eq_false htk)
      clear htk hlt hc
      go_wp2_with fail
      go_ret
      exact ⟨by rw [HE.out]; rfl, rfl⟩

end Go.Proofs.YtkdljicagepebaaGreatDoor
