/- The contract of Has by the document. -/
import Derived.Test.YtjlbifpbdocahaaDoorTexts
namespace Go.Proofs.YtjlbifpbdocahaaDoor
open Go.RowKit

set_option maxRecDepth 100000 in
theorem rHas_any {w : World} {v : Value} {l : List ByteArray} (h : TextsAt w v l) (hl : l.length ≤ maxLen) (x : ByteArray) :
    Calls Tryd.prog 50 #[v, .string x] w fun e w' => e = .returned (.bool (decide (x ∈ l))) ∧ w' = w := by
  obtain ⟨ao, cap, rfl, hc⟩ := h
  unfold maxLen at hl
  go_enter Tryd.func50, Tryd.ntmps50
  go_wp2_with fail
  go_loopw [5] (fun i wr => ∃ k : Nat, k ≤ l.length ∧ i = .int .i64 k ∧ x ∉ l.take k ∧ wr = w) (fun i _ => l.length - (intOf i).toNat)
  case atStart => exact ⟨0, Nat.zero_le _, rfl, by simp, rfl⟩
  case round =>
    obtain ⟨k, hk, rfl, htk, rfl⟩ := hrel
    by_cases hlt : k < l.length
    · obtain ⟨b, off, rfl, hb, hcell⟩ := hc (by intro h; simp [h] at hlt)
      obtain ⟨y, hy⟩ : ∃ y, y = l[k] := ⟨_, rfl⟩
      have c1 : wr.cell? ⟨b, off + k, none⟩ = some (.string y) := hcell k y (by simp [hlt, hy])
      have HN : Hid (y ≠ x → x ∉ l.take (k + 1)) := fun e hm => by
        rw [List.take_succ_eq_append_getElem hlt, ← hy, List.mem_append] at hm
        rcases hm with hm | hm
        · exact htk hm
        · simp at hm
          exact e hm.symm
      have HT : Hid (y = x → x ∈ l) := fun e => by rw [← e, hy]; exact List.getElem_mem hlt
      clear hc hcell htk hy
      by_cases hxy : y = x
      · have hbq := same_yes hxy
        go_wp2_with fail
        go_ret
        exact ⟨by rw [decide_eq_true (HT.out hxy)]; rfl, rfl⟩
      · have hbq := same_no hxy
        go_wp2_with fail
        go_roundw
        case rel => exact ⟨k + 1, by omega, by go_num, HN.out hxy, trivial⟩
        case measure => simp [intOf]; omega
    · have hkl : k = l.length := by omega
      subst hkl
      rw [List.take_length] at htk
      have HE := Lib.hid (decide_eq_false htk)
      clear htk hlt hc
      go_wp2_with fail
      go_ret
      exact ⟨by rw [HE.out]; rfl, rfl⟩

end Go.Proofs.YtjlbifpbdocahaaDoor
