/- Part 30 of what the statement wants. -/
import Derived.Test.YtjlbifpbdocahaaPk26
import Derived.Test.YtjlbifpbdocahaaPk27
import Derived.Test.YtjlbifpbdocahaaPk28
import Derived.Test.YtjlbifpbdocahaaPk29
namespace Go.Proofs.Ytjlbifpbdocahaa
open Go.RowKit

set_option maxHeartbeats 1000000 in
set_option maxRecDepth 100000 in
theorem r24Has_any {w : World} {vg va : Value} {l : List GrantR} {al : List (List UInt8)} (hg : GrantsAt w vg l) (hlg : l.length ≤ 1000) (ha : TextsAt w va (al.map bs)) (hla : al.length ≤ 1000) (u q t : List UInt8) (hT : PubOk t) :
    Calls Try.prog 25 #[vg, va, .string (bs u), .string (bs q), .string (bs t)] w fun e w' => e = .returned (.bool (hasP l al u q t)) ∧ Below w.heap.size w w' := by
  have HO := Lib.hid (r22Owner_any t hT w)
  have HN : Hid (∀ W, Below w.heap.size w W → Calls Try.prog 53 #[va, .string (bs q)] W fun e w' => e = .returned (.bool (decide (q ∈ al))) ∧ w' = W) := fun W hb => by
    have := rHas_any (ha.below hb) (by rw [List.length_map]; unfold maxLen; omega) (bs q)
    rw [show decide (bs q ∈ al.map bs) = decide (q ∈ al) from by simp only [memR24]] at this
    exact this
  have HM : Hid ((∀ x ∈ l, oneG u (ownerP t).1 x = false) → grantedP l u (ownerP t).1 = false) := granted_miss
  have HH : Hid (∀ x ∈ l, oneG u (ownerP t).1 x = true → grantedP l u (ownerP t).1 = true) := fun x hx => granted_hit hx
  have HP : Hid (hasP l al u q t = (decide (q ∈ al) && (ownerP t).2 && grantedP l u (ownerP t).1)) := rfl
  obtain ⟨ag, cg, rfl, hc⟩ := hg
  obtain ⟨aa, ca, rfl, _⟩ := ha
  rw [List.length_map] at *
  generalize hasP l al u q t = z at *
  generalize (ownerP t).2 = is at *
  generalize (ownerP t).1 = who at *
  generalize decide (q ∈ al) = d at *
  generalize grantedP l u who = gr at *
  generalize bs t = T at *
  generalize bs q = Q at *
  have HC := Lib.hid hc
  clear hc hT
  cases is with
  | false =>
    have HF : Hid (z = false) := by
      show z = false
      rw [HP.out]; cases d <;> rfl
    clear HN HM HH HP HC
    go_enter Try.func25, Try.ntmps25
    go_wp2_with (go_at_call 52; (with_reducible refine HO.out.mono ?_); rintro e w1 ⟨rfl, b1⟩)
    go_ret
    exact ⟨by rw [HF.out]; rfl, b1⟩
  | true =>
    cases d with
    | false =>
      have HF : Hid (z = false) := HP.out
      clear HM HH HP HC
      go_enter Try.func25, Try.ntmps25
      go_wp2_with (first
        | (go_at_call 52; (with_reducible refine HO.out.mono ?_); rintro e w1 ⟨rfl, b1⟩)
        | (go_at_call 53; (with_reducible refine (HN.out _ b1).mono ?_); rintro e w2 ⟨rfl, hw⟩; have hw := hw.symm; subst hw))
      go_ret
      exact ⟨by rw [HF.out]; rfl, b1⟩
    | true =>
      have HF : Hid (z = gr) := by
        show z = gr
        rw [HP.out]; cases gr <;> rfl
      clear HP
      go_enter Try.func25, Try.ntmps25
      go_wp2_with (first
        | (go_at_call 52; (with_reducible refine HO.out.mono ?_); rintro e w1 ⟨rfl, b1⟩)
        | (go_at_call 53; (with_reducible refine (HN.out _ b1).mono ?_); rintro e w2 ⟨rfl, hw⟩; have hw := hw.symm; subst hw))
      clear HN HO
      go_loopw [13] (fun i wr => ∃ k : Nat, k ≤ l.length ∧ i = .int .i64 k ∧ (∀ x ∈ l.take k, oneG u who x = false) ∧ wr = w1) (fun i _ => l.length - (intOf i).toNat)
      case atStart => exact ⟨0, Nat.zero_le _, rfl, by simp, rfl⟩
      case round =>
        obtain ⟨k, hk, rfl, htk, hw⟩ := hrel
        have hw := hw.symm
        subst hw
        by_cases hlt : k < l.length
        · obtain ⟨b, off, rfl, hb, hcell⟩ := HC.out (by intro h; simp [h] at hlt)
          obtain ⟨x, hx⟩ : ∃ x, x = l[k] := ⟨_, rfl⟩
          obtain ⟨g1, g2⟩ := hcell k x (by rw [hx]; exact List.getElem?_eq_getElem hlt)
          have c1 := (b1.cell (p := ⟨b, off + k * 2, none⟩) hb).trans g1
          have c2 := (b1.cell (p := ⟨b, off + k * 2 + 1, none⟩) hb).trans g2
          have HNx : Hid (oneG u who x = false → ∀ y ∈ l.take (k + 1), oneG u who y = false) := fun e => oneG_take hlt htk (by rw [← hx]; exact e)
          have HT : Hid (oneG u who x = true → gr = true) := HH.out x (by rw [hx]; exact List.getElem_mem hlt)
          have HO : Hid (oneG u who x = (decide (x.user = u) && decide (x.who = who))) := rfl
          clear hcell htk hx g1 g2 HC HM HH
          generalize oneG u who x = z1 at *
          by_cases hu : x.user = u
          · have qu := same_yes (congrArg bs hu)
            rw [decide_eq_true hu] at HO
            clear hu
            generalize bs x.user = X at *
            generalize bs u = U at *
            generalize x.who = y at *
            by_cases hw : y = who
            · have HG := Lib.hid (HT.out (by rw [HO.out, decide_eq_true hw]; rfl))
              subst hw
              have qw : (y == y) = true := by simp
              clear HNx HT HO
              go_wp2_with fail
              go_ret
              exact ⟨by rw [HF.out, HG.out]; rfl, b1⟩
            · have HG := Lib.hid (HNx.out (by rw [HO.out, decide_eq_false hw]; rfl))
              have qw : (y == who) = false := by simpa using hw
              clear HNx HT HO hw
              go_wp2_with fail
              go_roundw
              case rel => exact ⟨k + 1, by omega, by go_num, HG.out, trivial⟩
              case measure => simp [intOf]; omega
          · have qu := same_no (fun e => hu (bs_inj e))
            have HG := Lib.hid (HNx.out (by rw [HO.out, decide_eq_false hu]; rfl))
            clear hu HNx HT HO
            generalize bs x.user = X at *
            generalize bs u = U at *
            generalize x.who = y at *
            go_wp2_with fail
            go_roundw
            case rel => exact ⟨k + 1, by omega, by go_num, HG.out, trivial⟩
            case measure => simp [intOf]; omega
        · have hkl : k = l.length := by omega
          subst hkl
          rw [List.take_length] at htk
          have HG := Lib.hid (HM.out htk)
          clear htk hlt HC HM HH
          go_wp2_with fail
          go_ret
          exact ⟨by rw [HF.out, HG.out]; rfl, b1⟩
set_option maxRecDepth 100000 in
theorem snOwner_nil (i : Int) (w : World) : Calls Try.prog 49 #[.pointer none, .int .i64 i] w fun e w' => e = .returned (.tuple #[.int .i64 0, .bool false]) ∧ Below w.heap.size w w' := by
  have HV : Hid (Calls Try.prog 31 #[.pointer none, .int .i64 i] w fun r w' => r = .returned (.tuple #[.agg #[.int .i64 0, .int .i64 0, .int .i64 0, .string ⟨#[]⟩, .slice none 0 0], .bool false]) ∧ Below w.heap.size w w') := View_nil i w
  go_enter Try.func49, Try.ntmps49
  go_wp2_with (go_at_call 31; (with_reducible refine HV.out.mono ?_); rintro r w1 ⟨rfl, b1⟩)
  go_ret2
  first | exact ⟨rfl, b1.alloc b1.size _⟩ | exact ⟨rfl, b1⟩
theorem owner_kind {t : List UInt8} (h : kindL t ≠ 4) : ownerP t = (0, false) := if_neg h
theorem kind_key (who : Int) : kindL (refKeyL who) ≠ 4 := by
  by_cases h : 0 ≤ who ∧ who ≤ 2147483647
  · obtain ⟨x, rfl⟩ : ∃ x : Nat, who = x := ⟨who.toNat, by omega⟩
    rw [(key_node (by omega)).1]
    decide
  · rw [keyL_out (by omega)]
    decide
theorem kind_hash (t : List UInt8) : kindL (refHashL t) ≠ 4 := by
  unfold refHashL fitsL
  split
  · decide
  · split
    · decide
    · simp [tagL, kindL]
theorem has_not {l : List GrantR} {al : List (List UInt8)} {u q t : List UInt8} (h : kindL t ≠ 4) : hasP l al u q t = false := by
  unfold hasP
  rw [owner_kind h]
  simp
section
variable {B A n : Nat} {w0 W : World} {P : List (Int × List UInt8)}
/-- An arena where a block below it turned. -/
theorem ta_elder {W' : World} (h : Ta B w0 A P n W) {g : Nat} (hg : g < B) (m : Moves (fun i => i = g) W W') : Ta B W' A P n W' := by
  obtain ⟨⟨L, F, ha, h3⟩, _⟩ := h
  exact ⟨⟨L, F, ha.moves m (fun k hk e => by have := ha.lt k hk; omega), h3⟩, Below.refl _ _⟩
end
end Go.Proofs.Ytjlbifpbdocahaa

namespace Go.Proofs.Ytjlbifpbdocahaa
open Go.RowKit

theorem pubOk_pub24 (who : Int) : PubOk (pubL who) := fun h => by
  by_cases hw : 0 ≤ who ∧ who ≤ 2147483647
  · exact ⟨who.toNat, by omega, by rw [Int.toNat_of_nonneg hw.1]⟩
  · rw [pubL_out (by omega)] at h
    simp [kindL] at h
end Go.Proofs.Ytjlbifpbdocahaa
