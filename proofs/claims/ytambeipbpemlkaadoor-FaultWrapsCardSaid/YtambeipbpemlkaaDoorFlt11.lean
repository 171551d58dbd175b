/- The walk of FaultWraps. -/
import Derived.Test.YtambeipbpemlkaaDoorFlt10
import Derived.Test.YtambeipbpemlkaaDoorFit
namespace Go.Proofs.YtambeipbpemlkaaDoor
open Go.RowKit

set_option maxHeartbeats 2000000 in
set_option maxRecDepth 100000 in
theorem within_zero {w : World} {v : Value} {l : List ByteArray} (h : TextsAt w v l) (h1 : l ≠ []) (h20 : l.length ≤ 20) :
    Calls Tryd.prog 9 #[v, .int .i64 0] w fun r w' => r = .returned .nilIface ∧ w' = w := by
  obtain ⟨ao, cap, rfl, hc⟩ := h
  obtain ⟨bk, off, rfl, hb, hcell⟩ := hc h1
  obtain ⟨m, hm⟩ : ∃ m, l.length = m + 1 := ⟨l.length - 1, by have := List.length_pos_iff.2 h1; omega⟩
  obtain ⟨x0, hx0⟩ : ∃ x, l[m]? = some x := ⟨_, List.getElem?_eq_getElem (by omega)⟩
  have c0 := hcell m x0 hx0
  have HO := Lib.hid (fOf_zero x0 w)
  have HA := Lib.hid fAt_nil
  have HC := Lib.hid hcell
  have HM := Lib.hid hm
  have w1 : IntKind.i64.wrap (((m + 1 : Nat) : Int) - 1) = (m : Int) := by rw [IntWalk.i64_in _ (by omega)]; omega
  have w2 : IntKind.i64.wrap (((m + 1 : Nat) : Int) - 2) = (m : Int) - 1 := by rw [IntWalk.i64_in _ (by omega)]; omega
  have w3 : (((m + 1 : Nat) : Int) - 1) = (m : Int) := by omega
  have w4 : (((m + 1 : Nat) : Int) - 2) = (m : Int) - 1 := by omega
  have hml : m ≤ 20 := by omega
  rw [hm]
  clear hcell hc h1 hx0 hm h20
  go_enter Tryd.func9, Tryd.ntmps9
  go_wp2_with (go_at_call 33; with_reducible refine HO.out.mono ?_; rintro r wa ⟨rfl, hw⟩; subst hw)
  go_loopw [5, 6] (fun u i wr => ∃ (k : Nat), k ≤ m ∧ i = .int .i64 ((k : Int) - 1) ∧ u = .nilIface ∧ wr = wa) (fun _ i _ => (intOf i + 1).toNat)
  case atStart => exact ⟨m, Nat.le_refl _, by congr 1, rfl, rfl⟩
  case round =>
    obtain ⟨k, hk, rfl, rfl, rfl⟩ := hrel
    cases k with
    | zero =>
      have q0 : decide (((0 : Nat) : Int) - 1 ≥ 0) = false := by decide
      go_wp2_with fail
      go_ret
      exact ⟨rfl, rfl⟩
    | succ j =>
      have hj : (((j + 1 : Nat) : Int) - 1) = (j : Int) := by omega
      rw [hj]
      have hjl : j < l.length := by have := HM.out; omega
      obtain ⟨x, hx⟩ : ∃ x, l[j]? = some x := ⟨_, List.getElem?_eq_getElem hjl⟩
      have cj : wr.cell? ⟨bk, off + j, none⟩ = some (.string x) := HC.out j x hx
      clear hx hj
      have w5 : IntKind.i64.wrap ((j : Int) - 1) = (j : Int) - 1 := IntWalk.i64_in _ (by omega)
      have q0 : decide ((j : Int) ≥ 0) = true := decide_eq_true (by omega)
      have q1 : (0 : Int) ≤ (j : Int) := by omega
      have q2 : (j : Int) < ((m + 1 : Nat) : Int) := by omega
      go_wp2_with (go_at_call 21; with_reducible refine (HA.out _ _).mono ?_; rintro r wb ⟨rfl, hw⟩; have hw := hw.symm; subst hw)
      go_roundw
      case rel => exact ⟨j, by omega, rfl, rfl, trivial⟩
      case measure => simp [intOf]

theorem is_other (n other : Int) (hn : n ≠ 0) (t : TypeId) (u : Value) : isP (.iface t u) (some n) other = (other == n) := by
  unfold isP
  by_cases h : other = 0
  · rw [if_pos h, h]
    simp [Ne.symm hn]
  · rw [if_neg h]
    by_cases h2 : n = other
    · simp [h2]
    · have e1 : (some n == some other) = false := by simpa using h2
      have e2 : (other == n) = false := by simpa using Ne.symm h2
      rw [e1, e2]

set_option maxHeartbeats 8000000 in
set_option maxRecDepth 100000 in
theorem faultWraps_any {w : World} (hg : TypeOfError w) {v : Value} {l : List ByteArray} (h : TextsAt w v l) (hl : l.length ≤ maxLen) (hs : ∀ x ∈ l, x.size ≤ maxLen) (n other : Int) :
    Calls Tryd.prog 3 #[v, .int .i64 n, .int .i64 other] w fun r w' => r = .returned (.bool true) ∧ Below w.heap.size w w' := by
  have HAW0 := Lib.hid (awake5_any hg)
  have HG : Hid (∀ W, Below w.heap.size w W → TypeOfError W) := fun W hb => hg.later hb
  have HAW : Hid (∀ W, Below w.heap.size w W → Calls Tryd.prog 8 #[] W fun r w' => r = .returned (.bool true) ∧ Below W.heap.size W w') := fun W hb => awake5_any (HG.out W hb)
  unfold maxLen at hl hs
  have HT := Lib.hid h
  have HSz := Lib.hid hs
  clear hg hs
  obtain ⟨ao, cap, rfl, hc⟩ := h
  by_cases hlen : 1 ≤ l.length ∧ l.length ≤ 20
  · have q1 : decide ((l.length : Int) < 1) = false := decide_eq_false (by omega)
    have q2 : decide ((l.length : Int) > 20) = false := decide_eq_false (by omega)
    have hne : l ≠ [] := by rintro rfl; simp at hlen
    obtain ⟨bk, off, rfl, hb, hcell⟩ := hc hne
    have HC := Lib.hid hcell
    have HNE := Lib.hid hne
    clear hc hcell hne
    go_enter Tryd.func3, Tryd.ntmps3
    go_wp2_with fail
    go_loopw [7] (fun i wr => ∃ k : Nat, k ≤ l.length ∧ i = .int .i64 k ∧ (∀ x ∈ l.take k, x.size ≤ 50) ∧ wr = w) (fun i _ => l.length - (intOf i).toNat)
    case atStart => exact ⟨0, Nat.zero_le _, rfl, by simp, rfl⟩
    case round =>
      obtain ⟨k, hk, rfl, hall, rfl⟩ := hrel
      by_cases hlt : k < l.length
      · obtain ⟨x, hx⟩ : ∃ x, x = l[k] := ⟨_, rfl⟩
        have c1 : wr.cell? ⟨bk, off + k, none⟩ = some (.string x) := HC.out k x (by simp [hlt, hx])
        have hxs := HSz.out x (by rw [hx]; exact List.getElem_mem hlt)
        by_cases h50 : x.size ≤ 50
        · have HN : Hid (∀ y ∈ l.take (k + 1), y.size ≤ 50) := take_all hlt hall (by rw [← hx]; exact h50)
          have q3 : decide ((x.size : Int) > 50) = false := decide_eq_false (by omega)
          clear hx hall hxs
          go_wp2_with fail
          go_roundw
          case rel => exact ⟨k + 1, by omega, by go_num, HN.out, trivial⟩
          case measure => simp [intOf]; omega
        · have q3 : decide ((x.size : Int) > 50) = true := decide_eq_true (by omega)
          clear hx hall hxs
          go_wp2_with (go_at_call 8; with_reducible refine HAW0.out.mono ?_; rintro r w1 ⟨rfl, b1⟩)
          go_ret
          exact ⟨rfl, b1⟩
      · have hkl : k = l.length := by omega
        subst hkl
        rw [List.take_length] at hall
        have HS := Lib.hid hall
        clear hall hlt
        by_cases hn : n = 0
        · subst hn
          have HW := Lib.hid (within_zero HT.out HNE.out hlen.2)
          have HCd : Hid (∀ W, Below wr.heap.size wr W → Calls Tryd.prog 10 #[.nilIface] W fun r w' => r = .returned (.int .i64 0) ∧ Below W.heap.size W w') := fun W hb => fCode_any (HG.out W hb) (ErrAt.none (w := W))
          have HI0 : Hid (∀ W, Calls Tryd.prog 11 #[.nilIface, .int .i64 0] W fun r w' => r = .returned (.bool true) ∧ Below W.heap.size W w') := fun W => fIs_any (ErrAt.none (w := W)) 0
          have HI3 : Hid (∀ W, Calls Tryd.prog 11 #[.nilIface, .int .i64 3] W fun r w' => r = .returned (.bool false) ∧ Below W.heap.size W w') := fun W => fIs_any (ErrAt.none (w := W)) 3
          have HP : Hid (∀ W, Below wr.heap.size wr W → Calls Tryd.prog 12 #[.nilIface] W fun r w' => ∃ ao cap, r = .returned (.slice ao 0 cap) ∧ Below W.heap.size W w') := fun W hb => (fPath_any (HG.out W hb) (ErrAt.none (w := W)) (by simp)).mono fun r w' ⟨s, h1, ⟨ao, cap, h2, _⟩, h3⟩ => ⟨ao, cap, by rw [h1, h2]; rfl, h3⟩
          have HR : Hid (∀ W, Below wr.heap.size wr W → Calls Tryd.prog 13 #[.nilIface] W fun r w' => r = .returned (.int .i64 0) ∧ Below W.heap.size W w') := fun W hb => fReason_any (HG.out W hb) (ErrAt.none (w := W))
          clear HAW
          go_wp2_with (first
            | (go_at_call 9; with_reducible refine HW.out.mono ?_; rintro r w0 ⟨rfl, hw⟩; have hw := hw.symm; subst hw)
            | (go_at_call 8; with_reducible refine HAW0.out.mono ?_; rintro r w1 ⟨rfl, b1⟩)
            | (go_at_call 10; with_reducible refine (HCd.out _ b1).mono ?_; rintro r w2 ⟨rfl, c2⟩; have b2 := b1.trans (c2.mono b1.size))
            | (go_at_call 11; with_reducible refine (HI0.out _).mono ?_; rintro r w3 ⟨rfl, c3⟩; have b3 := b2.trans (c3.mono b2.size))
            | (go_at_call 12; with_reducible refine (HP.out _ b3).mono ?_; rintro r w4 ⟨ao4, cap4, rfl, c4⟩; have b4 := b3.trans (c4.mono b3.size))
            | (go_at_call 13; with_reducible refine (HR.out _ b4).mono ?_; rintro r w5 ⟨rfl, c5⟩; have b5 := b4.trans (c5.mono b4.size))
            | (go_at_call 11; with_reducible refine (HI3.out _).mono ?_; rintro r w6 ⟨rfl, c6⟩; have b6 := b5.trans (c6.mono b5.size)))
          go_ret
          exact ⟨rfl, b6⟩
        · have HW := Lib.hid (within_any HT.out HNE.out hlen.2 n hn)
          have hq : (n == 0) = false := by simpa using hn
          have hl20 := hlen.2
          have hsz : ∀ x ∈ l, x.size ≤ 1000 := fun x hx => by have := HS.out x hx; omega
          have HCd : Hid (∀ W b, Below wr.heap.size wr W → ErrAt W (.iface 37 (.pointer (some ⟨b, 0, none⟩))) l (some n) → Calls Tryd.prog 10 #[.iface 37 (.pointer (some ⟨b, 0, none⟩))] W fun r w' => r = .returned (.int .i64 n) ∧ Below W.heap.size W w') := fun W b hb he => fCode_any (HG.out W hb) he
          have HI : Hid (∀ W b (m : Int), ErrAt W (.iface 37 (.pointer (some ⟨b, 0, none⟩))) l (some n) → Calls Tryd.prog 11 #[.iface 37 (.pointer (some ⟨b, 0, none⟩)), .int .i64 m] W fun r w' => r = .returned (.bool (m == n)) ∧ Below W.heap.size W w') := fun W b m he => by
            have := fIs_any he m
            rwa [is_other n m hn] at this
          have HP : Hid (∀ W b, Below wr.heap.size wr W → ErrAt W (.iface 37 (.pointer (some ⟨b, 0, none⟩))) l (some n) → Calls Tryd.prog 12 #[.iface 37 (.pointer (some ⟨b, 0, none⟩))] W fun r w' => ∃ ao cap, r = .returned (.slice ao l.length cap) ∧ TextsAt w' (.slice ao l.length cap) l ∧ Below W.heap.size W w') := fun W b hb he => (fPath_any (HG.out W hb) he (by omega)).mono fun r w' ⟨s, e1, e2, e3⟩ => by
            obtain ⟨ao, cap, rfl, hc⟩ := id e2
            exact ⟨ao, cap, e1, e2, e3⟩
          have HR : Hid (∀ W b, Below wr.heap.size wr W → ErrAt W (.iface 37 (.pointer (some ⟨b, 0, none⟩))) l (some n) → Calls Tryd.prog 13 #[.iface 37 (.pointer (some ⟨b, 0, none⟩))] W fun r w' => r = .returned (.int .i64 (reasonP n)) ∧ Below W.heap.size W w') := fun W b hb he => fReason_any (HG.out W hb) he
          have HTx : Hid (∀ W b, Below wr.heap.size wr W → ErrAt W (.iface 37 (.pointer (some ⟨b, 0, none⟩))) l (some n) → Calls Tryd.prog 15 #[.iface 37 (.pointer (some ⟨b, 0, none⟩))] W fun r w' => r = .returned (.string (tellP l (some n))) ∧ Below W.heap.size W w') := fun W b hb he => by
            obtain ⟨x, q, rfl⟩ : ∃ x q, l = x :: q := by
              cases l with
              | nil => exact absurd rfl HNE.out
              | cons x q => exact ⟨x, q, rfl⟩
            exact w5Text_fault (HG.out W hb) he (by simp at hl20; omega) hsz
          have HRT : Hid (∀ W, Below wr.heap.size wr W → Calls Tryd.prog 16 #[.slice (some ⟨bk, off, none⟩) l.length cap, .int .i64 n] W fun r w' => r = .returned (.string (tellP l (some n))) ∧ Below W.heap.size W w') := fun W hb => ref5Text_any (HT.out.below hb) hl20 HS.out n
          have HRR := Lib.hid (ref5Reason_any n)
          have HSm : Hid (∀ (W : World) (u u' : Value), TextsAt W u l → TextsAt W u' l → Calls Tryd.prog 14 #[u, u'] W fun e w' => e = .returned (.bool true) ∧ Below W.heap.size W w') := fun W u u' h h' =>
            (same_any h h' (by unfold maxLen; omega)).mono fun e w' ⟨he, hb⟩ => ⟨by rw [he, decide_eq_true rfl], hb⟩
          have hz : ((0 : Int) == n) = false := by simpa using Ne.symm hn
          have hnn : (n == n) = true := by simp
          have hss := same_yes (rfl : tellP l (some n) = tellP l (some n))
          clear hsz hn
          generalize tellP l (some n) = S at *
          generalize reasonP n = R at *
          go_wp2_with (first
            | (go_at_call 9; with_reducible refine HW.out.mono ?_; rintro r w1 ⟨b, rfl, e1, b1⟩; have E1 := Lib.hid e1; clear e1)
            | (go_at_call 10; with_reducible refine (HCd.out _ _ b1 E1.out).mono ?_; rintro r w2 ⟨rfl, c2⟩; have b2 := b1.trans (c2.mono b1.size); have E2 := Lib.hid (E1.out.later c2))
            | (go_at_call 11; with_reducible refine (HI.out _ _ n E2.out).mono ?_; rw [hnn]; rintro r w3 ⟨rfl, c3⟩; have b3 := b2.trans (c3.mono b2.size); have E3 := Lib.hid (E2.out.later c3))
            | (go_at_call 11; with_reducible refine (HI.out _ _ 0 E3.out).mono ?_; rw [hz]; rintro r w4 ⟨rfl, c4⟩; have b4 := b3.trans (c4.mono b3.size); have E4 := Lib.hid (E3.out.later c4))
            | (go_at_call 11; with_reducible refine (HI.out _ _ other E4.out).mono ?_; rintro r w5 ⟨rfl, c5⟩; have b5 := b4.trans (c5.mono b4.size); have E5 := Lib.hid (E4.out.later c5))
            | (go_at_call 8; with_reducible refine (HAW.out _ b5).mono ?_; rintro r w6 ⟨rfl, c6⟩; have b6 := b5.trans (c6.mono b5.size); have E6 := Lib.hid (E5.out.later c6))
            | (go_at_call 12; with_reducible refine (HP.out _ _ b6 E6.out).mono ?_; rintro r w7 ⟨ao7, cap7, rfl, t7, c7⟩; have b7 := b6.trans (c7.mono b6.size); have E7 := Lib.hid (E6.out.later c7); have T7 := Lib.hid t7; clear t7)
            | (go_at_call 14; with_reducible refine (HSm.out _ _ _ T7.out (HT.out.below b7)).mono ?_; rintro r w8 ⟨rfl, c8⟩; have b8 := b7.trans (c8.mono b7.size); have E8 := Lib.hid (E7.out.later c8))
            | (go_at_call 15; with_reducible refine (HTx.out _ _ b8 E8.out).mono ?_; rintro r w9 ⟨rfl, c9⟩; have b9 := b8.trans (c9.mono b8.size); have E9 := Lib.hid (E8.out.later c9))
            | (go_at_call 16; with_reducible refine (HRT.out _ b9).mono ?_; rintro r w10 ⟨rfl, c10⟩; have b10 := b9.trans (c10.mono b9.size); have E10 := Lib.hid (E9.out.later c10))
            | (go_at_call 13; with_reducible refine (HR.out _ _ b10 E10.out).mono ?_; rintro r w11 ⟨rfl, c11⟩; have b11 := b10.trans (c11.mono b10.size))
            | (go_at_call 17; with_reducible refine (HRR.out _).mono ?_; rintro r w12 ⟨rfl, c12⟩; have b12 := b11.trans (c12.mono b11.size)))
          go_ret
          exact ⟨rfl, b12⟩
  · have hq : decide ((l.length : Int) < 1) = true ∨ (decide ((l.length : Int) < 1) = false ∧ decide ((l.length : Int) > 20) = true) := by
      by_cases h1 : (l.length : Int) < 1
      · exact .inl (decide_eq_true h1)
      · exact .inr ⟨decide_eq_false h1, decide_eq_true (by omega)⟩
    clear hc hlen
    rcases hq with q1 | ⟨q1, q2⟩
    all_goals
      go_enter Tryd.func3, Tryd.ntmps3
      go_wp2_with (go_at_call 8; with_reducible refine HAW0.out.mono ?_; rintro r w1 ⟨rfl, b1⟩)
      go_ret
      exact ⟨rfl, b1⟩
end Go.Proofs.YtambeipbpemlkaaDoor
