/- The contract of Same. -/
import Derived.Test.YtjlbifpbdocahaaDoorTexts
import Derived.BigRegion
namespace Go.Proofs.YtjlbifpbdocahaaDoor
open Go.RowKit

set_option maxRecDepth 100000 in
theorem same_any {w : World} {v v' : Value} {l l' : List ByteArray} (h : TextsAt w v l) (h' : TextsAt w v' l') (hl : l.length ≤ maxLen) :
    Calls Tryd.prog 15 #[v, v'] w fun e w' => e = .returned (.bool (decide (l = l'))) ∧ Below w.heap.size w w' := by
  obtain ⟨ao, cap, rfl, hc⟩ := h
  obtain ⟨ao', cap', rfl, hc'⟩ := h'
  unfold maxLen at hl
  by_cases hlen : l.length = l'.length
  · have hle : l'.length = l.length := hlen.symm
    rw [hle]
    clear hlen
    have HLE := Lib.hid hle
    clear hle
    go_enter Tryd.func15, Tryd.ntmps15
    go_wp2_with fail
    go_loopw [5] (fun i wr => ∃ k : Nat, k ≤ l.length ∧ i = .int .i64 k ∧ l.take k = l'.take k ∧ Below w.heap.size w wr) (fun i _ => l.length - (intOf i).toNat)
    case atStart => exact ⟨0, Nat.zero_le _, rfl, rfl, Below.refl _ _⟩
    case round =>
      obtain ⟨k, hk, rfl, htk, hbel⟩ := hrel
      by_cases hlt : k < l.length
      · have hlt' : k < l'.length := by rw [HLE.out]; exact hlt
        obtain ⟨b, off, rfl, hb, hcell⟩ := hc (by intro h; simp [h] at hlt)
        obtain ⟨b', off', rfl, hb', hcell'⟩ := hc' (by intro h; simp [h] at hlt')
        obtain ⟨x, hx⟩ : ∃ x, x = l[k] := ⟨_, rfl⟩
        obtain ⟨y, hy⟩ : ∃ y, y = l'[k] := ⟨_, rfl⟩
        have c1 : wr.cell? ⟨b, off + k, none⟩ = some (.string x) := (hbel.cell (p := ⟨b, off + k, none⟩) hb).trans (hcell k x (by simp [hlt, hx]))
        have c2 : wr.cell? ⟨b', off' + k, none⟩ = some (.string y) := (hbel.cell (p := ⟨b', off' + k, none⟩) hb').trans (hcell' k y (by simp [hlt', hy]))
        have c3 : wr.drew.cell? ⟨b, off + k, none⟩ = some (.string x) := c1
        have c4 : wr.drew.cell? ⟨b', off' + k, none⟩ = some (.string y) := c2
        have HT : Hid (x = y → l.take (k + 1) = l'.take (k + 1)) := fun e => by
          rw [List.take_succ_eq_append_getElem hlt, List.take_succ_eq_append_getElem hlt', htk, ← hx, ← hy, e]
        have HN : Hid (x ≠ y → decide (l = l') = false) := fun hne => decide_eq_false fun e => by subst e; exact hne (hx.trans hy.symm)
        clear hc hc' hcell hcell' htk hx hy hlt'
        have HB := Lib.hid hbel
        clear hbel
        go_wp2_with fail
        by_cases hxy : x = y
        · have hbq := same_yes hxy
          go_region
          all_goals
            go_wp2_with fail
            go_roundw
            case rel => exact ⟨k + 1, by omega, by go_num, HT.out hxy, HB.out.drew⟩
            case measure => simp [intOf]; omega
        · have hbq := same_no hxy
          go_region
          all_goals
            go_wp2_with fail
            go_ret
            exact ⟨by rw [HN.out hxy]; rfl, HB.out.drew⟩
      · have hkl : k = l.length := by omega
        subst hkl
        have he : decide (l = l') = true := by
          rw [List.take_length] at htk
          have : l'.take l.length = l' := List.take_of_length_le (by rw [HLE.out]; exact Nat.le_refl _)
          rw [this] at htk
          exact decide_eq_true htk
        have HE := Lib.hid he
        clear htk he hlt hc hc'
        go_wp2_with fail
        go_ret
        exact ⟨by rw [HE.out]; rfl, hbel⟩
  · have hne : decide (l = l') = false := decide_eq_false fun e => hlen (by rw [e])
    have HNE := Lib.hid hne
    clear hne hc hc'
    have hq : ((l.length : Int) != (l'.length : Int)) = true := by simp; omega
    go_enter Tryd.func15, Tryd.ntmps15
    go_wp2_with fail
    go_ret
    exact ⟨by rw [HNE.out]; rfl, Below.refl _ _⟩
end Go.Proofs.YtjlbifpbdocahaaDoor
