/- Part 9 of what the statement wants. -/
import Derived.Laws.Concat
import Derived.Test.YtjlbifpbdocahaaPk01
namespace Go.Proofs.Ytjlbifpbdocahaa
open Go.RowKit

set_option maxRecDepth 100000 in
theorem rHas_any {w : World} {v : Value} {l : List ByteArray} (h : TextsAt w v l) (hl : l.length ≤ maxLen) (x : ByteArray) :
    Calls Try.prog 53 #[v, .string x] w fun e w' => e = .returned (.bool (decide (x ∈ l))) ∧ w' = w := by
  obtain ⟨ao, cap, rfl, hc⟩ := h
  unfold maxLen at hl
  go_enter Try.func53, Try.ntmps53
  go_wp2_with fail
  go_loopw [5] (fun i wr => ∃ k : Nat, k ≤ l.length ∧ i = .int .i64 k ∧ x ∉ l.take k ∧ wr = w) (fun i _ => l.length - (intOf i).toNat)
  case atStart => exact ⟨0, Nat.zero_le _, rfl, by simp, rfl⟩
  case round =>
    obtain ⟨k, hk, rfl, htk, rfl⟩ := hrel
    by_cases hlt : k < l.length
    · obtain ⟨b, off, rfl, hb, hcell⟩ := hc (by intro h; simp [h] at hlt)
      obtain ⟨y, hy⟩ : ∃ y, y = l[k] := ⟨_, rfl⟩
      have c1 : wr.cell? ⟨b, off + k, none⟩ = some (.string y) := hcell k y (by simp [hlt, hy])
      have HN : Hid (y ≠ x → x ∉ l.take (k + 1)) := fun e hm => by
        rw [List.take_succ_eq_append_getElem hlt, ← hy, List.mem_append] at hm
        rcases hm with hm | hm
        · exact htk hm
        · simp at hm
          exact e hm.symm
      have HT : Hid (y = x → x ∈ l) := fun e => by rw [← e, hy]; exact List.getElem_mem hlt
      clear hc hcell htk hy
      by_cases hxy : y = x
      · have hbq := same_yes hxy
        go_wp2_with fail
        go_ret
        exact ⟨by rw [decide_eq_true (HT.out hxy)]; rfl, rfl⟩
      · have hbq := same_no hxy
        go_wp2_with fail
        go_roundw
        case rel => exact ⟨k + 1, by omega, by go_num, HN.out hxy, trivial⟩
        case measure => simp [intOf]; omega
    · have hkl : k = l.length := by omega
      subst hkl
      rw [List.take_length] at htk
      have HE := Lib.hid (decide_eq_false htk)
      clear htk hlt hc
      go_wp2_with fail
      go_ret
      exact ⟨by rw [HE.out]; rfl, rfl⟩

end Go.Proofs.Ytjlbifpbdocahaa

namespace Go.Proofs.Ytjlbifpbdocahaa
open Go.RowKit

set_option maxRecDepth 100000 in
theorem sIndex_any {w : World} {v : Value} {l : List ByteArray} (h : TextsAt w v l) (hl : l.length ≤ maxLen) (x : ByteArray) :
    Calls Try.prog 99 #[v, .string x] w fun e w' => (∃ z : Int, e = .returned (.int .i64 z) ∧ decide (0 ≤ z) = decide (x ∈ l)) ∧ w' = w := by
  obtain ⟨ao, cap, rfl, hc⟩ := h
  unfold maxLen at hl
  go_enter Try.func99, Try.ntmps99
  go_wp2_with fail
  go_loopw [8] (fun i wr => ∃ k : Nat, k ≤ l.length ∧ i = .int .i64 k ∧ x ∉ l.take k ∧ wr = w) (fun i _ => l.length - (intOf i).toNat)
  case atStart => exact ⟨0, Nat.zero_le _, rfl, by simp, rfl⟩
  case round =>
    obtain ⟨k, hk, rfl, htk, rfl⟩ := hrel
    by_cases hlt : k < l.length
    · obtain ⟨b, off, rfl, hb, hcell⟩ := hc (by intro h; simp [h] at hlt)
      obtain ⟨y, hy⟩ : ∃ y, y = l[k] := ⟨_, rfl⟩
      have c1 : wr.cell? ⟨b, off + k, none⟩ = some (.string y) := hcell k y (by simp [hlt, hy])
      have HN : Hid (y ≠ x → x ∉ l.take (k + 1)) := fun e hm => by
        rw [List.take_succ_eq_append_getElem hlt, ← hy, List.mem_append] at hm
        rcases hm with hm | hm
        · exact htk hm
        · simp at hm
          exact e hm.symm
      have HT : Hid (y = x → x ∈ l) := fun e => by rw [← e, hy]; exact List.getElem_mem hlt
      clear hc hcell htk hy
      by_cases hxy : y = x
      · have hbq := same_yes (Eq.symm hxy)
        go_wp2_with fail
        go_ret
        exact ⟨⟨_, rfl, by rw [decide_eq_true (HT.out hxy)]; simp⟩, rfl⟩
      · have hbq := same_no (Ne.symm hxy)
        go_wp2_with fail
        go_roundw
        case rel => exact ⟨k + 1, by omega, by go_num, HN.out hxy, trivial⟩
        case measure => simp [intOf]; omega
    · have hkl : k = l.length := by omega
      subst hkl
      rw [List.take_length] at htk
      have HE := Lib.hid (decide_eq_false htk)
      clear htk hlt hc
      go_wp2_with fail
      go_ret
      exact ⟨⟨_, rfl, by rw [HE.out]; decide⟩, rfl⟩

set_option maxRecDepth 100000 in
theorem sContains_any {w : World} {v : Value} {l : List ByteArray} (h : TextsAt w v l) (hl : l.length ≤ maxLen) (x : ByteArray) :
    Calls Try.prog 84 #[v, .string x] w fun e w' => e = .returned (.bool (decide (x ∈ l))) ∧ w' = w := by
  have hc := sIndex_any h hl x
  obtain ⟨ao, cap, rfl, _⟩ := h
  go_enter Try.func84, Try.ntmps84
  go_wp2_with (go_at_call 99; refine hc.mono ?_; rintro e w' ⟨⟨z, rfl, hz⟩, rfl⟩)
  go_ret
  exact ⟨by rw [← hz]; rfl, rfl⟩

set_option maxRecDepth 100000 in
theorem nHas_any {w : World} {v : Value} {l : List ByteArray} (h : TextsAt w v l) (hl : l.length ≤ maxLen) (x : ByteArray) :
    Calls Try.prog 48 #[v, .string x] w fun e w' => e = .returned (.bool (decide (x ∈ l))) ∧ w' = w := by
  have hc := sContains_any h hl x
  obtain ⟨ao, cap, rfl, _⟩ := h
  go_enter Try.func48, Try.ntmps48
  go_wp2_with (go_at_call 84; refine hc.mono ?_; rintro e w' ⟨rfl, rfl⟩)
  go_ret
  exact ⟨rfl, rfl⟩
end Go.Proofs.Ytjlbifpbdocahaa

namespace Go.Proofs.Ytjlbifpbdocahaa
open Go.RowKit

set_option maxRecDepth 100000 in
theorem refU32_any (n : Nat) (hn : n < 4294967296) (w : World) : Calls Try.prog 77 #[.int .i64 n] w fun e w' => e = .returned (.string (bs (pack4 n))) ∧ Below w.heap.size w w' := by
  have hc := pack4_cells n hn
  have h0 : (n : Int) / 16777216 % 256 = (n : Int) / 16777216 := by omega
  have hcv := run_string_new w (pack4 n) (by simp [pack4]) #[.int .u8 ((n : Int) / 16777216 % 256), .int .u8 ((n : Int) / 65536 % 256), .int .u8 ((n : Int) / 256 % 256), .int .u8 ((n : Int) % 256)] (by rw [← hc, h0])
  have hl4 : (pack4 n).length = 4 := rfl
  rw [hl4] at hcv
  clear hc hl4 h0
  go_enter Try.func77, Try.ntmps77
  go_wp2
  go_ret
  exact ⟨rfl, (Below.refl _ _).alloc (Nat.le_refl _) _⟩
end Go.Proofs.Ytjlbifpbdocahaa

namespace Go.Proofs.Ytjlbifpbdocahaa
open Go.RowKit

def kindL : List UInt8 → Nat
  | [] => 0
  | b :: _ => if b.toNat < 241 ∨ 250 < b.toNat then 0 else b.toNat - 240

set_option maxRecDepth 100000 in
theorem refKind_any (l : List UInt8) (w : World) : Calls Try.prog 85 #[.string (bs l)] w fun e w' => e = .returned (.int .i64 (kindL l : Int)) ∧ w' = w := by
  cases l with
  | nil =>
    rw [show bs ([] : List UInt8) = ⟨#[]⟩ from rfl]
    go_enter Try.func85, Try.ntmps85
    go_wp2
    go_ret
    exact ⟨rfl, rfl⟩
  | cons b r =>
    have hi0 : ∀ W : World, (Instr.index 9 (.string (bs (b :: r))) (.int .i64 0)).run Try.prog W = .ok (.int .u8 (b.toNat : Int)) W := fun W => index_bs (b :: r) 0 (by simp) W
    have hsz := bs_size (b :: r)
    simp only [List.length_cons] at hsz
    have hq0 : ((bs (b :: r)).size : Int) ≠ 0 := by omega
    have hb := UInt8.toNat_lt b
    have HK : Hid (kindL (b :: r) = if b.toNat < 241 ∨ 250 < b.toNat then 0 else b.toNat - 240) := rfl
    clear hsz
    generalize bs (b :: r) = S at *
    generalize kindL (b :: r) = kk at *
    generalize b.toNat = n at *
    have hqz : ((S.size : Int) == 0) = false := by rw [beq_eq_false_iff_ne]; exact hq0
    clear hq0
    by_cases h1 : n < 241
    · have HE : Hid (kk = 0) := by show kk = 0; rw [HK.out, if_pos (.inl h1)]
      have q1 : decide ((n : Int) < 241) = true := decide_eq_true (by omega)
      go_enter Try.func85, Try.ntmps85
      go_wp2
      go_ret
      exact ⟨by rw [HE.out]; rfl, rfl⟩
    · have q1 : decide ((n : Int) < 241) = false := decide_eq_false (by omega)
      by_cases h2 : 250 < n
      · have HE : Hid (kk = 0) := by show kk = 0; rw [HK.out, if_pos (.inr h2)]
        have q2 : decide ((n : Int) > 250) = true := decide_eq_true (by omega)
        go_enter Try.func85, Try.ntmps85
        go_wp2
        go_ret
        exact ⟨by rw [HE.out]; rfl, rfl⟩
      · have HE : Hid ((kk : Int) = (n : Int) - 240) := by show (kk : Int) = _; rw [HK.out, if_neg (by omega)]; omega
        have q2 : decide ((n : Int) > 250) = false := decide_eq_false (by omega)
        go_enter Try.func85, Try.ntmps85
        go_wp2
        go_ret
        exact ⟨by rw [HE.out]; rfl, rfl⟩
end Go.Proofs.Ytjlbifpbdocahaa
