/- Layer 31: TrustPartners. -/
import Derived.Test.YtfjbpaigbphbbaaEv9c
import Derived.Test.YtfjbpaigbphbbaaEv9d
import Derived.Test.YtfjbpaigbphbbaaEv6a
namespace Go.Proofs.Ytfjbpaigbphbbaa
open Go.RowKit

theorem partners_sym (l : List EvV) (a b : Int) : partnersB l a b = partnersB l b a := by
  unfold partnersB
  cases h1 : firstE l a with
  | none => rw [pairO_none]; rfl
  | some x =>
    cases h2 : firstE l b with
    | none => rfl
    | some y =>
      show pairB x y = pairB y x
      unfold pairB
      rw [Int.add_comm, show decide (x.dn = y.dn) = decide (y.dn = x.dn) from decide_eq_decide.2 eq_comm]
theorem parts_has {l : List EvV} {a : Int} {S : List Int} (h : PartsAre l a S) (s : Int) : decide (s ∈ S) = partnersB l a s := by
  cases hq : partnersB l a s with
  | true => exact decide_eq_true ((h.2.1 s).2 hq)
  | false => exact decide_eq_false fun e => by rw [(h.2.1 s).1 e] at hq; cases hq
theorem keys_at {l : List EvV} {s : Int} {k : Nat} (hk : k < l.length) (h : keyP s l[k] = true) : (keysL l s l.length)[(keysL l s k).length]? = some (l[k]).dn := by
  have e : keysL l s l.length = keysL l s k ++ (l[k]).dn :: ((l.drop (k + 1)).filter (keyP s)).map (·.dn) := by
    unfold keysL
    rw [List.take_length]
    conv => lhs; rw [← List.take_append_drop k l, List.drop_eq_getElem_cons hk]
    rw [List.filter_append, List.map_append, List.filter_cons_of_pos h]
    rfl
  rw [e, List.getElem?_append_right (Nat.le_refl _)]
  simp
/-- What the law's first half has found. -/
def Half (l : List EvV) (a : Int) (w : World) (W : World) (p : Value) (S : List Int) : Prop := IdsAt W p S ∧ PartsAre l a S ∧ Below w.heap.size w W
set_option maxHeartbeats 8000000 in
set_option maxRecDepth 100000 in
theorem TrustPartners_any {w : World} {v : Value} {l : List EvV} (h : EventsAt w v l) (hl : l.length ≤ maxLen) (ho : ∀ x ∈ l, ∀ u ∈ x.row.toList, CellOk u) (a : Int) :
    Calls Try.prog 6 #[v, .int .i64 a] w fun e w' => e = .returned (.bool true) ∧ Below w.heap.size w w' := by
  have HW : Hid (∀ W, Calls Try.prog 7 #[] W fun e w' => e = .returned (.bool true) ∧ Below W.heap.size W w') := fun W => awake31_any W
  have HE := Lib.hid h
  obtain ⟨ao, cap, rfl, hc⟩ := h
  by_cases h60 : 60 < l.length
  · have q : decide ((l.length : Int) > 60) = true := decide_eq_true (by omega)
    unfold maxLen at hl
    clear hc ho HE
    go_enter Try.func6, Try.ntmps6
    go_wp2_with (first
      | (go_at_call 7; (with_reducible refine (HW.out _).mono ?_); rintro e w1 ⟨rfl, b1⟩; have B1 := Lib.hid b1; clear b1))
    go_ret
    exact ⟨rfl, B1.out⟩
  have q : decide ((l.length : Int) > 60) = false := decide_eq_false (by omega)
  have HPt : Hid (∀ W b, Below w.heap.size w W → Calls Try.prog 17 #[.slice ao l.length cap, .int .i64 b] W fun e w' => ∃ v' S, e = .returned v' ∧ IdsAt w' v' S ∧ PartsAre l b S ∧ Below W.heap.size W w') := fun W b hb => partners_any (HE.out.below hb) (by omega) ho b
  have HRP : Hid (∀ W b, Below w.heap.size w W → Calls Try.prog 18 #[.slice ao l.length cap, .int .i64 a, .int .i64 b] W fun e w' => e = .returned (.bool (partnersB l a b)) ∧ Below W.heap.size W w') := fun W b hb => (rpartners_any (HE.out.below hb) hl a b).mono fun e w' ⟨h1, n, h2⟩ => ⟨h1, by subst h2; exact ⟨rfl, rfl, rfl, Nat.le_refl _, fun _ _ => rfl⟩⟩
  have HHs : Hid (∀ W W' p S b c, IdsAt W p S → PartsAre l b S → Below W.heap.size W W' → Calls Try.prog 11 #[p, .int .i64 c] W' fun e w' => e = .returned (.bool (partnersB l b c)) ∧ w' = W') := fun W W' p S b c hi hp hb => by
    have := has31_any (hi.keep hb.size fun _ _ _ _ _ hlt => hb.cell hlt) (by have := hp.2.2; unfold maxLen; omega) c
    rw [parts_has hp] at this
    exact this
  have HRi : Hid (∀ W p S b, IdsAt W p S → PartsAre l b S → Calls Try.prog 12 #[p] W fun e w' => e = .returned (.bool true) ∧ Below W.heap.size W w') := fun W p S b hi hp => rises31_any hi (by have := hp.2.2; unfold maxLen; omega) hp.1
  have HFi : Hid (∀ W, Below w.heap.size w W → Calls Try.prog 19 #[.slice ao l.length cap, .int .i64 a] W fun e w' => e = .returned (.tuple #[.agg (doneO (firstE l a)).row.toArray, .bool (firstE l a).isSome]) ∧ Below W.heap.size W w') := fun W hb => first_any (HE.out.below hb) hl a
  have HRF : Hid (∀ W, Below w.heap.size w W → Calls Try.prog 20 #[.slice ao l.length cap, .int .i64 a] W fun e w' => e = .returned (.int .i64 (idxP (firstP a) l)) ∧ w' = W) := fun W hb => rfirst_any (HE.out.below hb) hl a
  have HKy : Hid (∀ W, Below w.heap.size w W → Calls Try.prog 21 #[.slice ao l.length cap, .int .i64 a] W fun e w' => ∃ v', e = .returned v' ∧ DonesAt w' v' (keysL l a l.length) ∧ Below W.heap.size W w') := fun W hb => keys_any (HE.out.below hb) (by omega) a
  have HC := Lib.hid hc
  have h60' : l.length ≤ 60 := by omega
  unfold maxLen at hl
  clear hc ho HE h60 hl
  go_enter Try.func6, Try.ntmps6
  go_upto_region 4 with (first
    | (go_at_call 17; (with_reducible refine (HPt.out _ _ (Below.refl _ _)).mono ?_); rintro e w1 ⟨v1, S1, rfl, i1, p1, b1⟩; have HH := Lib.hid (show Half l a w w1 v1 S1 from ⟨i1, p1, b1⟩); clear i1 p1 b1))
  obtain ⟨a1, n1, c1, rfl, hn1, hcell1⟩ : ∃ a1 n1 c1, v1 = .slice a1 n1 c1 ∧ n1 = S1.length ∧ (S1 ≠ [] → ∃ b off, a1 = some ⟨b, off, none⟩ ∧ b < w1.heap.size ∧ ∀ k x, S1[k]? = some x → w1.cell? ⟨b, off + k, none⟩ = some (.int .i64 x)) := by
    obtain ⟨a1, c1, e, h⟩ := HH.out.1
    exact ⟨a1, _, c1, e, rfl, h⟩
  have HC1 := Lib.hid hcell1
  have HN1 : Hid (n1 = S1.length ∧ n1 ≤ l.length) := ⟨hn1, by rw [hn1]; exact HH.out.2.1.2.2⟩
  have q2 : decide ((n1 : Int) > (l.length : Int)) = false := decide_eq_false (by have := HN1.out; omega)
  have hn60 : n1 ≤ 60 := by have := HN1.out; omega
  have q3 : decide (l.length < n1) = false := decide_eq_false (by have := HN1.out; omega)
  have B1 : Hid (Below w.heap.size w w1) := HH.out.2.2
  have HR1 := Lib.hid (HRi.out w1 _ S1 a HH.out.1 HH.out.2.1)
  have HX := Lib.hid (fun W' c (hb : Below w1.heap.size w1 W') => HHs.out w1 W' _ S1 a c HH.out.1 HH.out.2.1 hb)
  have HMem := Lib.hid (HH.out.2.1.2.1)
  clear hn1 hcell1 HRi
  go_wp2_with (first
    | (go_at_call 12; (with_reducible refine HR1.out.mono ?_); rintro e w2 ⟨rfl, b2⟩; have B2 := Lib.hid b2; clear b2))
  go_loopw [6] (fun i wr => ∃ k : Nat, k ≤ l.length ∧ i = .int .i64 k ∧ Hid (Below w1.heap.size w1 wr)) (fun i _ => l.length - (intOf i).toNat)
  case atStart => exact ⟨0, Nat.zero_le _, rfl, B2⟩
  case round =>
    obtain ⟨k, hk, rfl, HB⟩ := hrel
    have HBw : Hid (Below w.heap.size w wr) := Lib.hid (B1.out.trans (HB.out.mono B1.out.size))
    by_cases hlt : k < l.length
    · obtain ⟨b, off, rfl, hb, hcell⟩ := HC.out (by intro h; simp [h] at hlt)
      have k1 : wr.cell? ⟨b, off + k * 34 + 1, none⟩ = some (.int .i64 (l[k]).se) := (HBw.out.cell (p := ⟨b, off + k * 34 + 1, none⟩) hb).trans (hcell k _ (List.getElem?_eq_getElem hlt) 1 _ (EvV.row_se _))
      have HXs := Lib.hid (fun W' hb => HX.out W' (l[k]).se hb)
      have HRs := Lib.hid (fun W' hb => HRP.out W' (l[k]).se hb)
      have HPs := Lib.hid (fun W' hb => HPt.out W' (l[k]).se hb)
      have HBk : Hid (∀ W W' p S, IdsAt W p S → PartsAre l (l[k]).se S → Below W.heap.size W W' → Calls Try.prog 11 #[p, .int .i64 a] W' fun e w' => e = .returned (.bool (partnersB l a (l[k]).se)) ∧ w' = W') := fun W W' p S hi hp hb => by
        rw [partners_sym]
        exact HHs.out W W' p S _ a hi hp hb
      clear hcell hb HX HRP HPt HHs HC HFi HRF HKy HR1 HMem HC1
      generalize partnersB l a (l[k]).se = z at *
      generalize (l[k]).se = se at *
      cases z with
      | false =>
        clear HPs HBk
        go_wp2_with (first
          | (go_at_call 11; (with_reducible refine (HXs.out _ HB.out).mono ?_); rintro e w3 ⟨rfl, hw⟩; have hw := hw.symm; subst hw)
          | (go_at_call 18; (with_reducible refine (HRs.out _ HBw.out).mono ?_); rintro e w4 ⟨rfl, b4⟩; have B4 := Lib.hid (HB.out.trans (b4.mono HB.out.size)); have B4w := Lib.hid (HBw.out.trans (b4.mono HBw.out.size)); clear b4 HBw)
          | (go_at_call 18; (with_reducible refine (HRs.out _ B4w.out).mono ?_); rintro e w5 ⟨rfl, b5⟩; have B5 := Lib.hid (B4.out.trans (b5.mono B4.out.size)); clear b5))
        go_roundw
        case rel => exact ⟨k + 1, by omega, by go_num, B5⟩
        case measure => simp [intOf]; omega
      | true =>
        go_wp2_with (first
          | (go_at_call 11; (with_reducible refine (HXs.out _ HB.out).mono ?_); rintro e w3 ⟨rfl, hw⟩; have hw := hw.symm; subst hw; clear HXs)
          | (go_at_call 18; (with_reducible refine (HRs.out _ HBw.out).mono ?_); rintro e w4 ⟨rfl, b4⟩; have B4 := Lib.hid (HB.out.trans (b4.mono HB.out.size)); have B4w := Lib.hid (HBw.out.trans (b4.mono HBw.out.size)); clear b4 HBw)
          | (go_at_call 18; (with_reducible refine (HRs.out _ B4w.out).mono ?_); rintro e w5 ⟨rfl, b5⟩; have B5 := Lib.hid (B4.out.trans (b5.mono B4.out.size)); have B5w := Lib.hid (B4w.out.trans (b5.mono B4w.out.size)); clear b5 B4w)
          | (go_at_call 17; (with_reducible refine (HPs.out _ B5w.out).mono ?_); rintro e w6 ⟨v6, S6, rfl, i6, p6, b6⟩; have B6 := Lib.hid (B5.out.trans (b6.mono B5.out.size)); have I6 := Lib.hid i6; have P6 := Lib.hid p6; clear b6 i6 p6)
          | (go_at_call 11; (with_reducible refine (HBk.out _ _ _ _ I6.out P6.out (Below.refl _ _)).mono ?_); rintro e w7 ⟨rfl, hw⟩; have hw := hw.symm; subst hw))
        go_roundw
        case rel => exact ⟨k + 1, by omega, by go_num, B6⟩
        case measure => simp [intOf]; omega
    · have hkl : k = l.length := by omega
      subst hkl
      clear hlt HX HR1 HHs HPt
      obtain ⟨W2, hW2⟩ : ∃ W2, wr = W2 := ⟨_, rfl⟩
      rw [hW2] at HBw HB ⊢
      clear hW2
      clear wr
      go_wp2_with fail
      go_loopw [8] (fun i wr => ∃ k : Nat, k ≤ n1 ∧ i = .int .i64 k ∧ Hid (Below W2.heap.size W2 wr)) (fun i _ => n1 - (intOf i).toNat)
      case atStart => exact ⟨0, Nat.zero_le _, rfl, Lib.hid (Below.refl _ _)⟩
      case round =>
        obtain ⟨k, hk, rfl, HB2⟩ := hrel
        have HBw2 : Hid (Below w.heap.size w wr) := Lib.hid (HBw.out.trans (HB2.out.mono HBw.out.size))
        by_cases hlt : k < n1
        · have hkS : k < S1.length := by have := HN1.out; omega
          have HLT := Lib.hid hlt
          obtain ⟨b1, off1, rfl, hb1, hcell1⟩ := HC1.out (by intro h; simp [h] at hkS)
          have k1 : wr.cell? ⟨b1, off1 + k, none⟩ = some (.int .i64 S1[k]) := (((HB.out.trans (HB2.out.mono HB.out.size))).cell (p := ⟨b1, off1 + k, none⟩) hb1).trans (hcell1 k _ (List.getElem?_eq_getElem hkS))
          have HRs := Lib.hid (fun W' hb => HRP.out W' S1[k] hb)
          rw [(HMem.out S1[k]).1 (List.getElem_mem hkS)] at HRs
          clear hcell1 HMem HC1 HRP HFi HRF HKy HC
          generalize S1[k] = x at *
          go_wp2_with (first
            | (go_at_call 18; (with_reducible refine (HRs.out _ HBw2.out).mono ?_); rintro e w3 ⟨rfl, b3⟩; have B3 := Lib.hid (HB2.out.trans (b3.mono HB2.out.size)); clear b3))
          go_roundw
          case rel => exact ⟨k + 1, by have := HLT.out; omega, by go_num, B3⟩
          case measure => have := HLT.out; simp [intOf]; omega
        · have hkl : k = n1 := by omega
          subst hkl
          clear hlt HMem HC1 HRP
          obtain ⟨W3, hW3⟩ : ∃ W3, wr = W3 := ⟨_, rfl⟩
          rw [hW3] at HBw2 HB2 ⊢
          clear hW3
          clear wr
          have HF1 := Lib.hid (HFi.out W3 HBw2.out)
          clear HB2 HB HBw q2 q3 HFi HN1 hn60
          rcases idxP_cases (firstP a) l with ⟨hz, h0⟩ | ⟨j, hj, hz, h1, h0⟩
          · rw [firstE_none h0] at HF1
            have HDs2 : Hid ((doneO none).row.toArray.size = 26 ∧ (doneO none).row.toArray.all (·.oneCell') = true) := ⟨rfl, DoV.one _⟩
            have heq := doneEq31 (doneO none) (zeroE 0 0).dn
            rw [decide_eq_true (show doneO none = (zeroE 0 0).dn from rfl)] at heq
            have HEq := Lib.hid heq
            have HRF1 := Lib.hid (fun W hb => HRF.out W hb)
            rw [hz] at HRF1
            have HQ : Hid ((none : Option EvV).isSome = false) := rfl
            rw [HQ.out] at HF1
            clear hz h0 heq HRF HQ
            generalize (doneO none).row.toArray = D at *
            go_upto_region 19 with (first
              | (go_at_call 19; (with_reducible refine HF1.out.mono ?_); rintro e w4 ⟨rfl, b4⟩; have B4 := Lib.hid (HBw2.out.trans (b4.mono HBw2.out.size)); clear b4)
              | (refine wpList_store_new rfl 36 _ _ rfl w4.heap.size _ D 36 rfl rfl rfl (by rw [HDs2.out.1]; exact sizeDone) (by rw [HDs2.out.1]; rfl) HDs2.out.2 ?_; have B5 := Lib.hid (B4.out.alloc B4.out.size (.cells D 36)))
              | (go_at_call 20; (with_reducible refine (HRF1.out _ B5.out).mono ?_); rintro e w6 ⟨rfl, hw⟩; have hw := hw.symm; subst hw))
            obtain ⟨B9, hB9⟩ : ∃ B9, Hid (B9 = w4.heap.size) := ⟨_, Lib.hid rfl⟩
            have HB9 : Hid (∀ j u, D[j]? = some u → (w4.alloc (.cells D 36)).cell? ((⟨B9, 0, none⟩ : Addr).add j) = some u) := fun j u hj => by
              rw [Addr.add_lit, Nat.zero_add, hB9.out]
              exact ((Holds.new w4 36 D).cell j).trans hj
            rw [← hB9.out]
            have BW9 := B5
            have HDs : Hid (D.size = 26) := HDs2.out.1
            clear hB9 B4 HF1 HRF1 B5
            generalize w4.alloc (.cells D 36) = W9 at *
            refine wp_region_quiet_gen (by kernel_rfl) (by kernel_rfl) ?_
            intro O hO
            refine wpQuiet_plain rfl (fun K hK => ?_)
            go_simp
            refine hK _ ?_
            clear hK K
            refine wpQuiet_plain rfl (fun K hK => ?_)
            go_simp
            refine hK _ ?_
            clear hK K
            refine wpQuiet_plain rfl (fun K hK => ?_)
            go_simp
            refine hK _ ?_
            clear hK K
            refine wpQuiet_plain rfl (fun K hK => ?_)
            go_simp
            refine hK _ ?_
            clear hK K
            refine wpQuiet_plain rfl (fun K hK => ?_)
            go_simp
            refine hK _ ?_
            clear hK K
            refine wpQuiet_take (by rw [hO]; kernel_rfl) (fun K hK => ?_)
            go_simp
            refine hK _ ?_
            clear hK K
            refine wpQuiet_take (by rw [hO]; kernel_rfl) (fun K hK => ?_)
            go_simp
            refine hK _ ?_
            clear hK K
            refine wpQuiet_skip (by rw [hO]; kernel_rfl) ?_
            refine wpQuiet_skip (by rw [hO]; kernel_rfl) ?_
            refine wpQuiet_skip (by rw [hO]; kernel_rfl) ?_
            refine wpQuiet_skip (by rw [hO]; kernel_rfl) ?_
            refine wpQuiet_skip (by rw [hO]; kernel_rfl) ?_
            refine wpQuiet_skip (by rw [hO]; kernel_rfl) ?_
            refine wpQuiet_skip (by rw [hO]; kernel_rfl) ?_
            refine wpQuiet_take (by rw [hO]; kernel_rfl) (fun K hK => ?_)
            go_simp
            refine hK _ ?_
            clear hK K
            refine wpQuiet_plain rfl (fun K hK => ?_)
            go_simp
            refine hK _ ?_
            clear hK K
            refine wpQuiet_plain rfl (fun K hK => ?_)
            go_simp
            refine hK _ ?_
            clear hK K
            refine wpQuiet_take (by rw [hO]; kernel_rfl) (fun K hK => ?_)
            go_simp
            refine hK _ ?_
            clear hK K
            refine wpQuiet_take (by rw [hO]; kernel_rfl) (fun K hK => ?_)
            go_simp
            refine hK _ ?_
            clear hK K
            refine wpQuiet_take (by rw [hO]; kernel_rfl) (fun K hK => ?_)
            go_simp
            refine hK _ ?_
            clear hK K
            refine wpQuiet_load (by rw [hO]; kernel_rfl) 36 _ rfl ⟨B9, 0, none⟩ rfl D _ HB9.out Try.underlying36 rfl (by rw [HDs.out]; exact sizeDone) ?_
            refine wpQuiet_build (by rw [hO]; kernel_rfl) 36 #[] rfl (zeroE 0 0).dn.row.toArray (by kernel_rfl) ?_
            refine wpQuiet_neq (by rw [hO]; kernel_rfl) 36 _ _ _ rfl D (zeroE 0 0).dn.row.toArray rfl rfl guardDone true HEq.out ?_
            refine wpQuiet_take (by rw [hO]; kernel_rfl) (fun K hK => ?_)
            go_simp
            refine hK _ ?_
            clear hK K
            refine wpQuiet_plain rfl (fun K hK => ?_)
            go_simp
            refine hK _ ?_
            clear hK K
            refine wpQuiet_nil ?_
            intro _ hw'
            obtain ⟨nq, hw''⟩ := hw'
            subst hw''
            clear hO O
            have HBq : Hid (∀ n, Below w.heap.size w (W9.drewN n)) := Lib.hid fun _ => ⟨BW9.out.os, BW9.out.tape, BW9.out.output, BW9.out.size, BW9.out.block⟩
            go_upto_region 22 with (first
              | (go_at_call 21; (with_reducible refine (HKy.out _ (HBq.out nq)).mono ?_); rintro e w12 ⟨v12, rfl, k12, b12⟩; have HD12 := Lib.hid k12; have B12 := Lib.hid ((HBq.out nq).trans (b12.mono (HBq.out nq).size)); clear k12 b12))
            obtain ⟨ak, ck, hv12, hk12⟩ := HD12.out
            subst hv12
            have HKc := Lib.hid hk12
            have HKl : Hid (∀ k, k ≤ l.length → (keysL l a k).length ≤ k) := fun k _ => keys_len l a k
            have hkn : (keysL l a l.length).length ≤ 60 := Nat.le_trans (keys_len l a l.length) h60'
            clear hk12 HD12 HKy HBq
            go_wp2_with fail
            go_loopw [13, 14] (fun x i wr => ∃ k : Nat, k ≤ l.length ∧ i = .int .i64 k ∧ x = .int .i64 ((keysL l a k).length : Nat) ∧ Hid (Below w12.heap.size w12 wr)) (fun _ i _ => l.length - (intOf i).toNat)
            case atStart => exact ⟨0, Nat.zero_le _, rfl, rfl, Lib.hid (Below.refl _ _)⟩
            case round =>
              obtain ⟨k, hk, rfl, rfl, HBr⟩ := hrel
              have HBw4 : Hid (Below w.heap.size w wr) := Lib.hid (B12.out.trans (HBr.out.mono B12.out.size))
              by_cases hlt : k < l.length
              · have HLT := Lib.hid hlt
                obtain ⟨b, off, rfl, hb, hcell⟩ := HC.out (by intro h; simp [h] at hlt)
                have k0 : wr.cell? ⟨b, off + k * 34, none⟩ = some (.int .i64 (l[k]).ki) := (HBw4.out.cell (p := ⟨b, off + k * 34, none⟩) hb).trans (hcell k _ (List.getElem?_eq_getElem hlt) 0 _ (EvV.row_ki _))
                have k1 : wr.cell? ⟨b, off + k * 34 + 1, none⟩ = some (.int .i64 (l[k]).se) := (HBw4.out.cell (p := ⟨b, off + k * 34 + 1, none⟩) hb).trans (hcell k _ (List.getElem?_eq_getElem hlt) 1 _ (EvV.row_se _))
                have HLd : Hid (∀ j u, (l[k]).dn.row.toArray[j]? = some u → wr.cell? ((⟨b, off + k * 34 + 8, none⟩ : Addr).add j) = some u) := fun j u hj => by
                  rw [Addr.add_lit, Nat.add_assoc]
                  exact (HBw4.out.cell (p := ⟨b, off + k * 34 + (8 + j), none⟩) hb).trans (hcell k _ (List.getElem?_eq_getElem hlt) (8 + j) u (row_dn _ j u hj))
                have HDk : Hid ((l[k]).dn.row.toArray.size = 26) := rfl
                have heq := doneEq31 (l[k]).dn (l[k]).dn
                rw [decide_eq_true rfl] at heq
                have HEk := Lib.hid heq
                have HKP : Hid (keyP a l[k] = ((((l[k]).ki == 1) || ((l[k]).ki == 2)) && (l[k]).se == a)) := rfl
                have HY : Hid (keyP a l[k] = true → (keysL l a (k + 1)).length = (keysL l a k).length + 1 ∧ (keysL l a k).length < (keysL l a l.length).length ∧ ∃ bk ofk, ak = some ⟨bk, ofk, none⟩ ∧ ∀ j u, (l[k]).dn.row.toArray[j]? = some u → wr.cell? ((⟨bk, ofk + (keysL l a k).length * 26, none⟩ : Addr).add j) = some u) := fun e => by
                  have hat := keys_at hlt e
                  have hlen := (List.getElem?_eq_some_iff.1 hat).1
                  obtain ⟨bk, ofk, e1, e2, e3⟩ := HKc.out (by intro h; rw [h] at hat; simp at hat)
                  refine ⟨by rw [keys_yes hlt e]; simp, hlen, bk, ofk, e1, fun j u hj => ?_⟩
                  rw [Addr.add_lit]
                  exact (HBr.out.cell (p := ⟨bk, ofk + (keysL l a k).length * 26 + j, none⟩) e2).trans (e3 _ _ hat j u hj)
                have HNo : Hid (keyP a l[k] = false → (keysL l a (k + 1)).length = (keysL l a k).length) := fun e => by rw [keys_no hlt e]
                have hkk : (keysL l a k).length ≤ 60 := by have := keys_len l a k; omega
                generalize hN1 : (keysL l a (k + 1)).length = N1 at *
                have HN1 := Lib.hid hN1
                clear hN1 hcell hb heq HKc HC HKl
                generalize (keysL l a k).length = n at *
                generalize (keysL l a l.length).length = nk at *
                generalize keyP a l[k] = kp at *
                generalize (l[k]).dn.row.toArray = D at *
                generalize (l[k]).ki = ki at *
                generalize (l[k]).se = se at *
                by_cases hse : se = a
                case neg =>
                  have q1 : (se == a) = false := by rw [beq_eq_false_iff_ne]; exact hse
                  have HF := Lib.hid (HNo.out (by rw [HKP.out, q1, Bool.and_false]))
                  clear HY HNo HKP hse
                  go_wp2_with fail
                  go_roundw
                  case rel => exact ⟨k + 1, by have := HLT.out; omega, by go_num, by rw [HN1.out, HF.out], HBr⟩
                  case measure => have := HLT.out; simp [intOf]; omega
                have q1 : (se == a) = true := by rw [hse]; exact beq_self_eq_true _
                by_cases hk1 : ki = 1
                case pos =>
                  subst hk1
                  obtain ⟨y1, y2, bk, ofk, rfl, y3⟩ := HY.out (by rw [HKP.out, q1]; rfl)
                  have HY1 := Lib.hid y1
                  have HLk := Lib.hid y3
                  have s1 : decide ((n : Int) ≥ (nk : Int)) = false := decide_eq_false (by omega)
                  have s2 : decide (nk ≤ n) = false := decide_eq_false (by omega)
                  have HDs := HDk
                  have HEq := HEk
                  clear HY HNo HKP hse y1 y3
                  go_upto_region 27 with fail
                  refine wp_region_quiet_gen (by kernel_rfl) (by kernel_rfl) ?_
                  intro O hO
                  refine wpQuiet_plain rfl (fun K hK => ?_)
                  go_simp
                  refine hK _ ?_
                  clear hK K
                  refine wpQuiet_plain rfl (fun K hK => ?_)
                  go_simp
                  refine hK _ ?_
                  clear hK K
                  refine wpQuiet_plain rfl (fun K hK => ?_)
                  go_simp
                  refine hK _ ?_
                  clear hK K
                  refine wpQuiet_plain rfl (fun K hK => ?_)
                  go_simp
                  refine hK _ ?_
                  clear hK K
                  refine wpQuiet_plain rfl (fun K hK => ?_)
                  go_simp
                  refine hK _ ?_
                  clear hK K
                  refine wpQuiet_take (by rw [hO]; kernel_rfl) (fun K hK => ?_)
                  go_simp
                  refine hK _ ?_
                  clear hK K
                  refine wpQuiet_take (by rw [hO]; kernel_rfl) (fun K hK => ?_)
                  go_simp
                  refine hK _ ?_
                  clear hK K
                  refine wpQuiet_take (by rw [hO]; kernel_rfl) (fun K hK => ?_)
                  go_simp
                  refine hK _ ?_
                  clear hK K
                  refine wpQuiet_load (by rw [hO]; kernel_rfl) 36 _ rfl ⟨bk, ofk + n * 26, none⟩ rfl D _ HLk.out Try.underlying36 rfl (by rw [HDs.out]; exact sizeDone) ?_
                  refine wpQuiet_take (by rw [hO]; kernel_rfl) (fun K hK => ?_)
                  go_simp
                  refine hK _ ?_
                  clear hK K
                  refine wpQuiet_take (by rw [hO]; kernel_rfl) (fun K hK => ?_)
                  go_simp
                  refine hK _ ?_
                  clear hK K
                  refine wpQuiet_take (by rw [hO]; kernel_rfl) (fun K hK => ?_)
                  go_simp
                  refine hK _ ?_
                  clear hK K
                  refine wpQuiet_take (by rw [hO]; kernel_rfl) (fun K hK => ?_)
                  go_simp
                  refine hK _ ?_
                  clear hK K
                  refine wpQuiet_load (by rw [hO]; kernel_rfl) 36 _ rfl ⟨b, off + k * 34 + 8, none⟩ rfl D _ HLd.out Try.underlying36 rfl (by rw [HDs.out]; exact sizeDone) ?_
                  refine wpQuiet_neq (by rw [hO]; kernel_rfl) 36 _ _ _ rfl D D rfl rfl guardDone true HEq.out ?_
                  refine wpQuiet_plain rfl (fun K hK => ?_)
                  go_simp
                  refine hK _ ?_
                  clear hK K
                  refine wpQuiet_nil ?_
                  intro _ hw'
                  obtain ⟨nq, hw''⟩ := hw'
                  subst hw''
                  clear hO O
                  have HBr2 : Hid (Below w12.heap.size w12 (wr.drewN nq)) := Lib.hid ⟨HBr.out.os, HBr.out.tape, HBr.out.output, HBr.out.size, HBr.out.block⟩
                  go_wp2_with fail
                  go_roundw
                  case rel => exact ⟨k + 1, by have := HLT.out; omega, by go_num, by rw [HN1.out, HY1.out]; go_num, HBr2⟩
                  case measure => have := HLT.out; simp [intOf]; omega
                have r1 : (ki == 1) = false := by rw [beq_eq_false_iff_ne]; exact hk1
                by_cases hk2 : ki = 2
                case pos =>
                  subst hk2
                  obtain ⟨y1, y2, bk, ofk, rfl, y3⟩ := HY.out (by rw [HKP.out, q1]; rfl)
                  have HY1 := Lib.hid y1
                  have HLk := Lib.hid y3
                  have s1 : decide ((n : Int) ≥ (nk : Int)) = false := decide_eq_false (by omega)
                  have s2 : decide (nk ≤ n) = false := decide_eq_false (by omega)
                  have HDs := HDk
                  have HEq := HEk
                  clear HY HNo HKP hse y1 y3
                  go_upto_region 27 with fail
                  refine wp_region_quiet_gen (by kernel_rfl) (by kernel_rfl) ?_
                  intro O hO
                  refine wpQuiet_plain rfl (fun K hK => ?_)
                  go_simp
                  refine hK _ ?_
                  clear hK K
                  refine wpQuiet_plain rfl (fun K hK => ?_)
                  go_simp
                  refine hK _ ?_
                  clear hK K
                  refine wpQuiet_plain rfl (fun K hK => ?_)
                  go_simp
                  refine hK _ ?_
                  clear hK K
                  refine wpQuiet_plain rfl (fun K hK => ?_)
                  go_simp
                  refine hK _ ?_
                  clear hK K
                  refine wpQuiet_plain rfl (fun K hK => ?_)
                  go_simp
                  refine hK _ ?_
                  clear hK K
                  refine wpQuiet_take (by rw [hO]; kernel_rfl) (fun K hK => ?_)
                  go_simp
                  refine hK _ ?_
                  clear hK K
                  refine wpQuiet_take (by rw [hO]; kernel_rfl) (fun K hK => ?_)
                  go_simp
                  refine hK _ ?_
                  clear hK K
                  refine wpQuiet_take (by rw [hO]; kernel_rfl) (fun K hK => ?_)
                  go_simp
                  refine hK _ ?_
                  clear hK K
                  refine wpQuiet_load (by rw [hO]; kernel_rfl) 36 _ rfl ⟨bk, ofk + n * 26, none⟩ rfl D _ HLk.out Try.underlying36 rfl (by rw [HDs.out]; exact sizeDone) ?_
                  refine wpQuiet_take (by rw [hO]; kernel_rfl) (fun K hK => ?_)
                  go_simp
                  refine hK _ ?_
                  clear hK K
                  refine wpQuiet_take (by rw [hO]; kernel_rfl) (fun K hK => ?_)
                  go_simp
                  refine hK _ ?_
                  clear hK K
                  refine wpQuiet_take (by rw [hO]; kernel_rfl) (fun K hK => ?_)
                  go_simp
                  refine hK _ ?_
                  clear hK K
                  refine wpQuiet_take (by rw [hO]; kernel_rfl) (fun K hK => ?_)
                  go_simp
                  refine hK _ ?_
                  clear hK K
                  refine wpQuiet_load (by rw [hO]; kernel_rfl) 36 _ rfl ⟨b, off + k * 34 + 8, none⟩ rfl D _ HLd.out Try.underlying36 rfl (by rw [HDs.out]; exact sizeDone) ?_
                  refine wpQuiet_neq (by rw [hO]; kernel_rfl) 36 _ _ _ rfl D D rfl rfl guardDone true HEq.out ?_
                  refine wpQuiet_plain rfl (fun K hK => ?_)
                  go_simp
                  refine hK _ ?_
                  clear hK K
                  refine wpQuiet_nil ?_
                  intro _ hw'
                  obtain ⟨nq, hw''⟩ := hw'
                  subst hw''
                  clear hO O
                  have HBr2 : Hid (Below w12.heap.size w12 (wr.drewN nq)) := Lib.hid ⟨HBr.out.os, HBr.out.tape, HBr.out.output, HBr.out.size, HBr.out.block⟩
                  go_wp2_with fail
                  go_roundw
                  case rel => exact ⟨k + 1, by have := HLT.out; omega, by go_num, by rw [HN1.out, HY1.out]; go_num, HBr2⟩
                  case measure => have := HLT.out; simp [intOf]; omega
                have r2 : (ki == 2) = false := by rw [beq_eq_false_iff_ne]; exact hk2
                have HF := Lib.hid (HNo.out (by rw [HKP.out, r1, r2]; rfl))
                clear HY HNo HKP hse hk1 hk2
                go_wp2_with fail
                go_roundw
                case rel => exact ⟨k + 1, by have := HLT.out; omega, by go_num, by rw [HN1.out, HF.out], HBr⟩
                case measure => have := HLT.out; simp [intOf]; omega
              · have hkl : k = l.length := by omega
                subst hkl
                clear hlt HKc HC HKl
                generalize (keysL l a l.length).length = nk at *
                have q9 : ((nk : Int) == (nk : Int)) = true := beq_self_eq_true _
                go_wp2_with (first
                  | (go_at_call 7; (with_reducible refine (HW.out _).mono ?_); rintro e w20 ⟨rfl, b20⟩; have B20 := Lib.hid (HBw4.out.trans (b20.mono HBw4.out.size)); clear b20))
                go_ret
                exact ⟨rfl, B20.out⟩
          · rw [firstE_some hj h1 h0] at HF1
            have HDs2 : Hid ((doneO (some l[j])).row.toArray.size = 26 ∧ (doneO (some l[j])).row.toArray.all (·.oneCell') = true) := ⟨rfl, DoV.one _⟩
            have heq := doneEq31 (doneO (some l[j])) (l[j]).dn
            rw [decide_eq_true (show doneO (some l[j]) = (l[j]).dn from rfl)] at heq
            have HEq := Lib.hid heq
            have HRF1 := Lib.hid (fun W hb => HRF.out W hb)
            rw [hz] at HRF1
            have HQ : Hid ((some l[j]).isSome = true) := rfl
            rw [HQ.out] at HF1
            obtain ⟨b, off, rfl, hb, hcell⟩ := HC.out (by intro h; simp [h] at hj)
            have HL2 : Hid (∀ W, Below w.heap.size w W → ∀ i u, (l[j]).dn.row.toArray[i]? = some u → W.cell? ((⟨b, off + j * 34 + 8, none⟩ : Addr).add i) = some u) := fun W hB i u hi => by
              rw [Addr.add_lit, Nat.add_assoc]
              exact (hB.cell (p := ⟨b, off + j * 34 + (8 + i), none⟩) hb).trans (hcell j _ (List.getElem?_eq_getElem hj) (8 + i) u (row_dn _ i u hi))
            have HD2s : Hid ((l[j]).dn.row.toArray.size = 26) := rfl
            have HJ : Hid (j < l.length) := hj
            have qj : decide ((j : Int) ≥ 0) = true := decide_eq_true (by omega)
            clear hz h0 heq HRF HQ hb hcell h1
            generalize (doneO (some l[j])).row.toArray = D at *
            generalize (l[j]).dn.row.toArray = D2 at *
            go_upto_region 19 with (first
              | (go_at_call 19; (with_reducible refine HF1.out.mono ?_); rintro e w4 ⟨rfl, b4⟩; have B4 := Lib.hid (HBw2.out.trans (b4.mono HBw2.out.size)); clear b4)
              | (refine wpList_store_new rfl 36 _ _ rfl w4.heap.size _ D 36 rfl rfl rfl (by rw [HDs2.out.1]; exact sizeDone) (by rw [HDs2.out.1]; rfl) HDs2.out.2 ?_; have B5 := Lib.hid (B4.out.alloc B4.out.size (.cells D 36)))
              | (go_at_call 20; (with_reducible refine (HRF1.out _ B5.out).mono ?_); rintro e w6 ⟨rfl, hw⟩; have hw := hw.symm; subst hw))
            obtain ⟨B9, hB9⟩ : ∃ B9, Hid (B9 = w4.heap.size) := ⟨_, Lib.hid rfl⟩
            have HB9 : Hid (∀ j u, D[j]? = some u → (w4.alloc (.cells D 36)).cell? ((⟨B9, 0, none⟩ : Addr).add j) = some u) := fun j u hj => by
              rw [Addr.add_lit, Nat.zero_add, hB9.out]
              exact ((Holds.new w4 36 D).cell j).trans hj
            rw [← hB9.out]
            have BW9 := B5
            have HDs : Hid (D.size = 26) := HDs2.out.1
            have HL2 := Lib.hid (HL2.out _ B5.out)
            clear hB9 B4 HF1 HRF1 B5
            generalize w4.alloc (.cells D 36) = W9 at *
            refine wp_region_quiet_gen (by kernel_rfl) (by kernel_rfl) ?_
            intro O hO
            refine wpQuiet_plain rfl (fun K hK => ?_)
            go_simp
            refine hK _ ?_
            clear hK K
            refine wpQuiet_plain rfl (fun K hK => ?_)
            go_simp
            refine hK _ ?_
            clear hK K
            refine wpQuiet_plain rfl (fun K hK => ?_)
            go_simp
            refine hK _ ?_
            clear hK K
            refine wpQuiet_plain rfl (fun K hK => ?_)
            go_simp
            refine hK _ ?_
            clear hK K
            refine wpQuiet_plain rfl (fun K hK => ?_)
            go_simp
            refine hK _ ?_
            clear hK K
            refine wpQuiet_take (by rw [hO]; kernel_rfl) (fun K hK => ?_)
            go_simp
            refine hK _ ?_
            clear hK K
            refine wpQuiet_take (by rw [hO]; kernel_rfl) (fun K hK => ?_)
            go_simp
            refine hK _ ?_
            clear hK K
            refine wpQuiet_load (by rw [hO]; kernel_rfl) 36 _ rfl ⟨B9, 0, none⟩ rfl D _ HB9.out Try.underlying36 rfl (by rw [HDs.out]; exact sizeDone) ?_
            refine wpQuiet_take (by rw [hO]; kernel_rfl) (fun K hK => ?_)
            go_simp
            refine hK _ ?_
            clear hK K
            refine wpQuiet_take (by rw [hO]; kernel_rfl) (fun K hK => ?_)
            go_simp
            refine hK _ ?_
            clear hK K
            refine wpQuiet_take (by rw [hO]; kernel_rfl) (fun K hK => ?_)
            go_simp
            refine hK _ ?_
            clear hK K
            refine wpQuiet_take (by rw [hO]; kernel_rfl) (fun K hK => ?_)
            go_simp
            refine hK _ ?_
            clear hK K
            refine wpQuiet_load (by rw [hO]; kernel_rfl) 36 _ rfl ⟨b, off + j * 34 + 8, none⟩ rfl D2 _ HL2.out Try.underlying36 rfl (by rw [HD2s.out]; exact sizeDone) ?_
            refine wpQuiet_neq (by rw [hO]; kernel_rfl) 36 _ _ _ rfl D D2 rfl rfl guardDone true HEq.out ?_
            refine wpQuiet_take (by rw [hO]; kernel_rfl) (fun K hK => ?_)
            go_simp
            refine hK _ ?_
            clear hK K
            refine wpQuiet_plain rfl (fun K hK => ?_)
            go_simp
            refine hK _ ?_
            clear hK K
            refine wpQuiet_plain rfl (fun K hK => ?_)
            go_simp
            refine hK _ ?_
            clear hK K
            refine wpQuiet_take (by rw [hO]; kernel_rfl) (fun K hK => ?_)
            go_simp
            refine hK _ ?_
            clear hK K
            refine wpQuiet_take (by rw [hO]; kernel_rfl) (fun K hK => ?_)
            go_simp
            refine hK _ ?_
            clear hK K
            refine wpQuiet_take (by rw [hO]; kernel_rfl) (fun K hK => ?_)
            go_simp
            refine hK _ ?_
            clear hK K
            refine wpQuiet_skip (by rw [hO]; kernel_rfl) ?_
            refine wpQuiet_skip (by rw [hO]; kernel_rfl) ?_
            refine wpQuiet_skip (by rw [hO]; kernel_rfl) ?_
            refine wpQuiet_take (by rw [hO]; kernel_rfl) (fun K hK => ?_)
            go_simp
            refine hK _ ?_
            clear hK K
            refine wpQuiet_plain rfl (fun K hK => ?_)
            go_simp
            refine hK _ ?_
            clear hK K
            refine wpQuiet_nil ?_
            intro _ hw'
            obtain ⟨nq, hw''⟩ := hw'
            subst hw''
            clear hO O
            have HBq : Hid (∀ n, Below w.heap.size w (W9.drewN n)) := Lib.hid fun _ => ⟨BW9.out.os, BW9.out.tape, BW9.out.output, BW9.out.size, BW9.out.block⟩
            go_upto_region 22 with (first
              | (go_at_call 21; (with_reducible refine (HKy.out _ (HBq.out nq)).mono ?_); rintro e w12 ⟨v12, rfl, k12, b12⟩; have HD12 := Lib.hid k12; have B12 := Lib.hid ((HBq.out nq).trans (b12.mono (HBq.out nq).size)); clear k12 b12))
            obtain ⟨ak, ck, hv12, hk12⟩ := HD12.out
            subst hv12
            have HKc := Lib.hid hk12
            have HKl : Hid (∀ k, k ≤ l.length → (keysL l a k).length ≤ k) := fun k _ => keys_len l a k
            have hkn : (keysL l a l.length).length ≤ 60 := Nat.le_trans (keys_len l a l.length) h60'
            clear hk12 HD12 HKy HBq
            go_wp2_with fail
            go_loopw [13, 14] (fun x i wr => ∃ k : Nat, k ≤ l.length ∧ i = .int .i64 k ∧ x = .int .i64 ((keysL l a k).length : Nat) ∧ Hid (Below w12.heap.size w12 wr)) (fun _ i _ => l.length - (intOf i).toNat)
            case atStart => exact ⟨0, Nat.zero_le _, rfl, rfl, Lib.hid (Below.refl _ _)⟩
            case round =>
              obtain ⟨k, hk, rfl, rfl, HBr⟩ := hrel
              have HBw4 : Hid (Below w.heap.size w wr) := Lib.hid (B12.out.trans (HBr.out.mono B12.out.size))
              by_cases hlt : k < l.length
              · have HLT := Lib.hid hlt
                obtain ⟨b2, off2, hbo, hb, hcell⟩ := HC.out (by intro h; simp [h] at hlt)
                simp only [Option.some.injEq, Addr.mk.injEq] at hbo
                obtain ⟨rfl, rfl, _⟩ := hbo
                have k0 : wr.cell? ⟨b, off + k * 34, none⟩ = some (.int .i64 (l[k]).ki) := (HBw4.out.cell (p := ⟨b, off + k * 34, none⟩) hb).trans (hcell k _ (List.getElem?_eq_getElem hlt) 0 _ (EvV.row_ki _))
                have k1 : wr.cell? ⟨b, off + k * 34 + 1, none⟩ = some (.int .i64 (l[k]).se) := (HBw4.out.cell (p := ⟨b, off + k * 34 + 1, none⟩) hb).trans (hcell k _ (List.getElem?_eq_getElem hlt) 1 _ (EvV.row_se _))
                have HLd : Hid (∀ j u, (l[k]).dn.row.toArray[j]? = some u → wr.cell? ((⟨b, off + k * 34 + 8, none⟩ : Addr).add j) = some u) := fun j u hj => by
                  rw [Addr.add_lit, Nat.add_assoc]
                  exact (HBw4.out.cell (p := ⟨b, off + k * 34 + (8 + j), none⟩) hb).trans (hcell k _ (List.getElem?_eq_getElem hlt) (8 + j) u (row_dn _ j u hj))
                have HDk : Hid ((l[k]).dn.row.toArray.size = 26) := rfl
                have heq := doneEq31 (l[k]).dn (l[k]).dn
                rw [decide_eq_true rfl] at heq
                have HEk := Lib.hid heq
                have HKP : Hid (keyP a l[k] = ((((l[k]).ki == 1) || ((l[k]).ki == 2)) && (l[k]).se == a)) := rfl
                have HY : Hid (keyP a l[k] = true → (keysL l a (k + 1)).length = (keysL l a k).length + 1 ∧ (keysL l a k).length < (keysL l a l.length).length ∧ ∃ bk ofk, ak = some ⟨bk, ofk, none⟩ ∧ ∀ j u, (l[k]).dn.row.toArray[j]? = some u → wr.cell? ((⟨bk, ofk + (keysL l a k).length * 26, none⟩ : Addr).add j) = some u) := fun e => by
                  have hat := keys_at hlt e
                  have hlen := (List.getElem?_eq_some_iff.1 hat).1
                  obtain ⟨bk, ofk, e1, e2, e3⟩ := HKc.out (by intro h; rw [h] at hat; simp at hat)
                  refine ⟨by rw [keys_yes hlt e]; simp, hlen, bk, ofk, e1, fun j u hj => ?_⟩
                  rw [Addr.add_lit]
                  exact (HBr.out.cell (p := ⟨bk, ofk + (keysL l a k).length * 26 + j, none⟩) e2).trans (e3 _ _ hat j u hj)
                have HNo : Hid (keyP a l[k] = false → (keysL l a (k + 1)).length = (keysL l a k).length) := fun e => by rw [keys_no hlt e]
                have hkk : (keysL l a k).length ≤ 60 := by have := keys_len l a k; omega
                generalize hN1 : (keysL l a (k + 1)).length = N1 at *
                have HN1 := Lib.hid hN1
                clear hN1 hcell hb heq HKc HC HKl
                generalize (keysL l a k).length = n at *
                generalize (keysL l a l.length).length = nk at *
                generalize keyP a l[k] = kp at *
                generalize (l[k]).dn.row.toArray = D at *
                generalize (l[k]).ki = ki at *
                generalize (l[k]).se = se at *
                by_cases hse : se = a
                case neg =>
                  have q1 : (se == a) = false := by rw [beq_eq_false_iff_ne]; exact hse
                  have HF := Lib.hid (HNo.out (by rw [HKP.out, q1, Bool.and_false]))
                  clear HY HNo HKP hse
                  go_wp2_with fail
                  go_roundw
                  case rel => exact ⟨k + 1, by have := HLT.out; omega, by go_num, by rw [HN1.out, HF.out], HBr⟩
                  case measure => have := HLT.out; simp [intOf]; omega
                have q1 : (se == a) = true := by rw [hse]; exact beq_self_eq_true _
                by_cases hk1 : ki = 1
                case pos =>
                  subst hk1
                  obtain ⟨y1, y2, bk, ofk, rfl, y3⟩ := HY.out (by rw [HKP.out, q1]; rfl)
                  have HY1 := Lib.hid y1
                  have HLk := Lib.hid y3
                  have s1 : decide ((n : Int) ≥ (nk : Int)) = false := decide_eq_false (by omega)
                  have s2 : decide (nk ≤ n) = false := decide_eq_false (by omega)
                  have HDs := HDk
                  have HEq := HEk
                  clear HY HNo HKP hse y1 y3
                  go_upto_region 27 with fail
                  refine wp_region_quiet_gen (by kernel_rfl) (by kernel_rfl) ?_
                  intro O hO
                  refine wpQuiet_plain rfl (fun K hK => ?_)
                  go_simp
                  refine hK _ ?_
                  clear hK K
                  refine wpQuiet_plain rfl (fun K hK => ?_)
                  go_simp
                  refine hK _ ?_
                  clear hK K
                  refine wpQuiet_plain rfl (fun K hK => ?_)
                  go_simp
                  refine hK _ ?_
                  clear hK K
                  refine wpQuiet_plain rfl (fun K hK => ?_)
                  go_simp
                  refine hK _ ?_
                  clear hK K
                  refine wpQuiet_plain rfl (fun K hK => ?_)
                  go_simp
                  refine hK _ ?_
                  clear hK K
                  refine wpQuiet_take (by rw [hO]; kernel_rfl) (fun K hK => ?_)
                  go_simp
                  refine hK _ ?_
                  clear hK K
                  refine wpQuiet_take (by rw [hO]; kernel_rfl) (fun K hK => ?_)
                  go_simp
                  refine hK _ ?_
                  clear hK K
                  refine wpQuiet_take (by rw [hO]; kernel_rfl) (fun K hK => ?_)
                  go_simp
                  refine hK _ ?_
                  clear hK K
                  refine wpQuiet_load (by rw [hO]; kernel_rfl) 36 _ rfl ⟨bk, ofk + n * 26, none⟩ rfl D _ HLk.out Try.underlying36 rfl (by rw [HDs.out]; exact sizeDone) ?_
                  refine wpQuiet_take (by rw [hO]; kernel_rfl) (fun K hK => ?_)
                  go_simp
                  refine hK _ ?_
                  clear hK K
                  refine wpQuiet_take (by rw [hO]; kernel_rfl) (fun K hK => ?_)
                  go_simp
                  refine hK _ ?_
                  clear hK K
                  refine wpQuiet_take (by rw [hO]; kernel_rfl) (fun K hK => ?_)
                  go_simp
                  refine hK _ ?_
                  clear hK K
                  refine wpQuiet_take (by rw [hO]; kernel_rfl) (fun K hK => ?_)
                  go_simp
                  refine hK _ ?_
                  clear hK K
                  refine wpQuiet_load (by rw [hO]; kernel_rfl) 36 _ rfl ⟨b, off + k * 34 + 8, none⟩ rfl D _ HLd.out Try.underlying36 rfl (by rw [HDs.out]; exact sizeDone) ?_
                  refine wpQuiet_neq (by rw [hO]; kernel_rfl) 36 _ _ _ rfl D D rfl rfl guardDone true HEq.out ?_
                  refine wpQuiet_plain rfl (fun K hK => ?_)
                  go_simp
                  refine hK _ ?_
                  clear hK K
                  refine wpQuiet_nil ?_
                  intro _ hw'
                  obtain ⟨nq, hw''⟩ := hw'
                  subst hw''
                  clear hO O
                  have HBr2 : Hid (Below w12.heap.size w12 (wr.drewN nq)) := Lib.hid ⟨HBr.out.os, HBr.out.tape, HBr.out.output, HBr.out.size, HBr.out.block⟩
                  go_wp2_with fail
                  go_roundw
                  case rel => exact ⟨k + 1, by have := HLT.out; omega, by go_num, by rw [HN1.out, HY1.out]; go_num, HBr2⟩
                  case measure => have := HLT.out; simp [intOf]; omega
                have r1 : (ki == 1) = false := by rw [beq_eq_false_iff_ne]; exact hk1
                by_cases hk2 : ki = 2
                case pos =>
                  subst hk2
                  obtain ⟨y1, y2, bk, ofk, rfl, y3⟩ := HY.out (by rw [HKP.out, q1]; rfl)
                  have HY1 := Lib.hid y1
                  have HLk := Lib.hid y3
                  have s1 : decide ((n : Int) ≥ (nk : Int)) = false := decide_eq_false (by omega)
                  have s2 : decide (nk ≤ n) = false := decide_eq_false (by omega)
                  have HDs := HDk
                  have HEq := HEk
                  clear HY HNo HKP hse y1 y3
                  go_upto_region 27 with fail
                  refine wp_region_quiet_gen (by kernel_rfl) (by kernel_rfl) ?_
                  intro O hO
                  refine wpQuiet_plain rfl (fun K hK => ?_)
                  go_simp
                  refine hK _ ?_
                  clear hK K
                  refine wpQuiet_plain rfl (fun K hK => ?_)
                  go_simp
                  refine hK _ ?_
                  clear hK K
                  refine wpQuiet_plain rfl (fun K hK => ?_)
                  go_simp
                  refine hK _ ?_
                  clear hK K
                  refine wpQuiet_plain rfl (fun K hK => ?_)
                  go_simp
                  refine hK _ ?_
                  clear hK K
                  refine wpQuiet_plain rfl (fun K hK => ?_)
                  go_simp
                  refine hK _ ?_
                  clear hK K
                  refine wpQuiet_take (by rw [hO]; kernel_rfl) (fun K hK => ?_)
                  go_simp
                  refine hK _ ?_
                  clear hK K
                  refine wpQuiet_take (by rw [hO]; kernel_rfl) (fun K hK => ?_)
                  go_simp
                  refine hK _ ?_
                  clear hK K
                  refine wpQuiet_take (by rw [hO]; kernel_rfl) (fun K hK => ?_)
                  go_simp
                  refine hK _ ?_
                  clear hK K
                  refine wpQuiet_load (by rw [hO]; kernel_rfl) 36 _ rfl ⟨bk, ofk + n * 26, none⟩ rfl D _ HLk.out Try.underlying36 rfl (by rw [HDs.out]; exact sizeDone) ?_
                  refine wpQuiet_take (by rw [hO]; kernel_rfl) (fun K hK => ?_)
                  go_simp
                  refine hK _ ?_
                  clear hK K
                  refine wpQuiet_take (by rw [hO]; kernel_rfl) (fun K hK => ?_)
                  go_simp
                  refine hK _ ?_
                  clear hK K
                  refine wpQuiet_take (by rw [hO]; kernel_rfl) (fun K hK => ?_)
                  go_simp
                  refine hK _ ?_
                  clear hK K
                  refine wpQuiet_take (by rw [hO]; kernel_rfl) (fun K hK => ?_)
                  go_simp
                  refine hK _ ?_
                  clear hK K
                  refine wpQuiet_load (by rw [hO]; kernel_rfl) 36 _ rfl ⟨b, off + k * 34 + 8, none⟩ rfl D _ HLd.out Try.underlying36 rfl (by rw [HDs.out]; exact sizeDone) ?_
                  refine wpQuiet_neq (by rw [hO]; kernel_rfl) 36 _ _ _ rfl D D rfl rfl guardDone true HEq.out ?_
                  refine wpQuiet_plain rfl (fun K hK => ?_)
                  go_simp
                  refine hK _ ?_
                  clear hK K
                  refine wpQuiet_nil ?_
                  intro _ hw'
                  obtain ⟨nq, hw''⟩ := hw'
                  subst hw''
                  clear hO O
                  have HBr2 : Hid (Below w12.heap.size w12 (wr.drewN nq)) := Lib.hid ⟨HBr.out.os, HBr.out.tape, HBr.out.output, HBr.out.size, HBr.out.block⟩
                  go_wp2_with fail
                  go_roundw
                  case rel => exact ⟨k + 1, by have := HLT.out; omega, by go_num, by rw [HN1.out, HY1.out]; go_num, HBr2⟩
                  case measure => have := HLT.out; simp [intOf]; omega
                have r2 : (ki == 2) = false := by rw [beq_eq_false_iff_ne]; exact hk2
                have HF := Lib.hid (HNo.out (by rw [HKP.out, r1, r2]; rfl))
                clear HY HNo HKP hse hk1 hk2
                go_wp2_with fail
                go_roundw
                case rel => exact ⟨k + 1, by have := HLT.out; omega, by go_num, by rw [HN1.out, HF.out], HBr⟩
                case measure => have := HLT.out; simp [intOf]; omega
              · have hkl : k = l.length := by omega
                subst hkl
                clear hlt HKc HC HKl
                generalize (keysL l a l.length).length = nk at *
                have q9 : ((nk : Int) == (nk : Int)) = true := beq_self_eq_true _
                go_wp2_with (first
                  | (go_at_call 7; (with_reducible refine (HW.out _).mono ?_); rintro e w20 ⟨rfl, b20⟩; have B20 := Lib.hid (HBw4.out.trans (b20.mono HBw4.out.size)); clear b20))
                go_ret
                exact ⟨rfl, B20.out⟩
end Go.Proofs.Ytfjbpaigbphbbaa
