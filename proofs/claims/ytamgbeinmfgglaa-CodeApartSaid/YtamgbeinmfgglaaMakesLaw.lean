/- The walk of TermMakes. -/
import Derived.Test.YtamgbeinmfgglaaMost
import Derived.Test.YtamgbeinmfgglaaLong
import Derived.BigQuiet
namespace Go.Proofs.Ytamgbeinmfgglaa
open Go.RowKit

theorem id_text {L : List Ent} (hG : Good L) {i : Int} {t : List UInt8} (h : TAt L i t) : (t = [] ∧ i = -1) ∨ (t ≠ [] ∧ i ≠ -1) := by
  have := h.none_iff hG
  by_cases ht : t = []
  · exact .inl ⟨ht, this.2 ht⟩
  · exact .inr ⟨ht, fun e => ht (this.1 e)⟩

theorem below_drewN {B : Nat} {w w' : World} (h : Below B w w') (n : Nat) : Below B w (w'.drewN n) := ⟨h.os, h.tape, h.output, h.size, h.block⟩
theorem mostOf_ge (l : List Int) : -1 ≤ mostOf l := by
  unfold mostOf
  suffices ∀ a : Int, -1 ≤ a → -1 ≤ l.foldl (fun m i => if i > m then i else m) a from this (-1) (by omega)
  induction l with
  | nil => intro a h; exact h
  | cons x l ih =>
    intro a h
    rw [List.foldl_cons]
    apply ih
    split <;> omega
theorem InOrder.le {L : List Ent} {ids : List Int} (h : InOrder L ids) : ∀ k : Nat, k ≤ ids.length → mostOf (ids.take k) < (k : Int)
  | 0, _ => by simp [mostOf]
  | k + 1, hk => by
    have ih := h.le k (by omega)
    have ha := h.all k (ids[k]'(by omega)) (List.getElem?_eq_getElem (by omega))
    rw [List.take_succ_eq_append_getElem (by omega), mostOf_snoc]
    split <;> omega
/-- What the walk asks of the number and the text at a place. -/
theorem step_facts {n : Nat} {L : List Ent} {ids : List Int} {texts : List (List UInt8)} (hA : AllMade n L ids texts) (hO : InOrder L ids) {k : Nat} (hk : k < ids.length) {i : Int} {t : List UInt8} (hi : ids[k]? = some i) (ht : texts[k]? = some t) :
    (∃ b : Bool, (i == -1) = b ∧ (bs t).toList.isEmpty = b) ∧ -1 ≤ i ∧ i ≤ mostOf (ids.take k) + 1 ∧ mostOf (ids.take (k + 1)) = (if i > mostOf (ids.take k) then i else mostOf (ids.take k)) := by
  have h := hA.pairs.at_ k i t hi ht
  have ho := hO.all k i hi
  refine ⟨?_, ho.1, ho.2, ?_⟩
  · rcases id_text hA.good h with ⟨h1, h2⟩ | ⟨h1, h2⟩
    · exact ⟨true, by simp [h2], none_yes h1⟩
    · exact ⟨false, by simpa using h2, none_no h1⟩
  · rw [List.take_succ_eq_append_getElem hk, mostOf_snoc]
    have : ids[k] = i := by rw [List.getElem?_eq_getElem hk] at hi; exact Option.some.inj hi
    rw [this]
theorem pair_facts {n : Nat} {L : List Ent} {ids : List Int} {texts : List (List UInt8)} (hA : AllMade n L ids texts) {k j : Nat} {i i' : Int} {t t' : List UInt8} (hi : ids[k]? = some i) (ht : texts[k]? = some t) (hi' : ids[j]? = some i') (ht' : texts[j]? = some t') :
    ∃ b : Bool, (i == i') = b ∧ ((bs t).toList == (bs t').toList) = b := by
  have h := (hA.pairs.at_ k i t hi ht).same hA.good (hA.pairs.at_ j i' t' hi' ht')
  by_cases he : i = i'
  · exact ⟨true, by simpa using he, same_yes (congrArg bs (h.1 he))⟩
  · exact ⟨false, by simpa using he, same_no fun e => he (h.2 (bs_inj e))⟩

set_option maxHeartbeats 2000000 in
set_option maxRecDepth 100000 in
theorem termMakes_any {w : World} {v : Value} {l : List MakeR} (hM : MakesAt w v l) (hs : ∀ x ∈ l, x.s.length ≤ 9223372036854775807) (hl : l.length ≤ 9223372036854775807) :
    Calls Try.prog 3 #[v] w fun e w' => e = .returned (.bool true) ∧ Below w.heap.size w w' := by
  have HFw := Lib.hid (few_any hM 30 hs hl)
  cases hf : fewP l 30 with
  | false =>
    rw [hf] at HFw
    go_enter Try.func3, Try.ntmps3
    go_wp2_with (first
      | (go_at_call 11; with_reducible refine HFw.out.mono ?_; rintro e w1 ⟨rfl, hw⟩; have hw := hw.symm; subst hw)
      | (go_at_call 12; refine (awake1_any _).mono ?_; rintro e w2 ⟨rfl, b2⟩))
    go_ret
    exact ⟨rfl, b2⟩
  | true =>
    rw [hf] at HFw
    obtain ⟨hl30, hs2⟩ := of_decide_eq_true hf
    have hl30 : l.length ≤ 30 := by omega
    have HMk : Hid (∀ (A : Nat) (F : Nat → Prop) (w1 : World), ArenaAt w.heap.size A [] F w1 → Below w.heap.size w w1 → Calls Try.prog 14 #[.pointer (some ⟨A, 0, none⟩), v] w1 fun e w' => ∃ L ids texts ai ci at' ct F2, MadeTo [] l L ids texts ∧ e = .returned (.agg #[.slice ai l.length ci, .slice at' l.length ct]) ∧
        (l ≠ [] → ∃ bi oi bt ot, ai = some ⟨bi, oi, none⟩ ∧ at' = some ⟨bt, ot, none⟩ ∧ bi < w'.heap.size ∧ bt < w'.heap.size ∧ ∀ k i t, ids[k]? = some i → texts[k]? = some t → w'.cell? ⟨bi, oi + k, none⟩ = some (.int .i64 i) ∧ w'.cell? ⟨bt, ot + k, none⟩ = some (.string (bs t))) ∧ ArenaAt w.heap.size A L F2 w' ∧ Below w.heap.size w1 w') := fun A F w1 ha b1 =>
      (makes_any hM b1 (Nat.le_refl _) ha (by omega) (fun x hx => by have := hs2 x hx; omega) (made_ok (by omega))).mono (by
        rintro e w' ⟨L, ids, texts, vi, vt, F2, hto, rfl, ⟨ai, ci, rfl, hI⟩, ⟨at', ct, rfl, hT⟩, har, b2⟩
        have hln := hto.lens
        refine ⟨L, ids, texts, ai, ci, at', ct, F2, hto, by rw [List.length_map, hln.1, hln.2], fun hne => ?_, har, b2⟩
        obtain ⟨bi, oi, rfl, hbi, hci⟩ := hI (by intro h; rw [h] at hln; exact hne (List.eq_nil_of_length_eq_zero hln.1.symm))
        obtain ⟨bt, ot, rfl, hbt, hct⟩ := hT (by intro h; simp at h; rw [h] at hln; exact hne (List.eq_nil_of_length_eq_zero hln.2.symm))
        exact ⟨bi, oi, bt, ot, rfl, rfl, hbi, hbt, fun k i t h1 h2 => ⟨hci k i h1, hct k (bs t) (by simp [h2])⟩⟩)
    obtain ⟨ao0, cap0, rfl, _⟩ := hM
    clear hs hl hs2 hf
    go_enter Try.func3, Try.ntmps3
    go_wp2_with (first
      | (go_at_call 11; with_reducible refine HFw.out.mono ?_; rintro e w1 ⟨rfl, hw⟩; have hw := hw.symm; subst hw)
      | (go_at_call 13; refine (New_any _).mono ?_; rintro e w1 ⟨A, F, rfl, ha1, b1⟩)
      | (go_at_call 14; with_reducible refine (HMk.out _ _ _ ha1 b1).mono ?_; rintro e w2 ⟨L, ids, texts, ai, ci, at', ct, F2, hto, rfl, hcells, har, b2⟩))
    have hln := hto.lens
    have hA := hto.all exp_same (by omega)
    have hO := hto.order (by omega)
    obtain ⟨W3, hW3⟩ : ∃ W3, W3 = w2.alloc (.cells #[.slice ai l.length ci, .slice at' l.length ct] 30) := ⟨_, rfl⟩
    have hN3 : Holds W3 w2.heap.size 30 #[.slice ai l.length ci, .slice at' l.length ct] := by rw [hW3]; exact Holds.new _ _ _
    have hb3 : Below w2.heap.size w2 W3 := by rw [hW3]; exact (Below.refl _ _).alloc (Nat.le_refl _) _
    have har3 := har.below hb3
    have hbw3 : Below w.heap.size w W3 := (b1.trans b2).trans (hb3.mono (Nat.le_trans b1.size b2.size))
    rw [← hW3]
    have HC := Lib.hid hcells
    have HN3 := Lib.hid hN3
    have HB3 := Lib.hid hb3
    have HBw := Lib.hid hbw3
    have HAr := Lib.hid har3
    have HA := Lib.hid hA
    have HO := Lib.hid hO
    have hNl := hN3.lt
    obtain ⟨hil, htl⟩ := hln
    clear hcells hW3 hN3 hb3 har har3 hbw3 b1 b2 ha1 hto HMk HFw hA hO
    generalize w2.heap.size = N at *
    have HSF : Hid (∀ (k : Nat) (i : Int) (t : List UInt8), k < l.length → ids[k]? = some i → texts[k]? = some t → (∃ b : Bool, (i == -1) = b ∧ (bs t).toList.isEmpty = b) ∧ -1 ≤ i ∧ i ≤ mostOf (ids.take k) + 1 ∧ mostOf (ids.take (k + 1)) = (if i > mostOf (ids.take k) then i else mostOf (ids.take k))) := fun k i t hk hi ht => step_facts HA.out HO.out (by omega) hi ht
    have HPF : Hid (∀ (k j : Nat) (i i' : Int) (t t' : List UInt8), ids[k]? = some i → texts[k]? = some t → ids[j]? = some i' → texts[j]? = some t' → ∃ b : Bool, (i == i') = b ∧ ((bs t).toList == (bs t').toList) = b) := fun k j i i' t t' hi ht hi' ht' => pair_facts HA.out hi ht hi' ht'
    have HLE : Hid (∀ k : Nat, k ≤ l.length → -1 ≤ mostOf (ids.take k) ∧ mostOf (ids.take k) < (k : Int)) := fun k hk => ⟨mostOf_ge _, HO.out.le k (by omega)⟩
    have HLast : Hid ((L.length : Int) = mostOf ids + 1) := HO.out.last
    have HLfew : Hid (L.length ≤ 30) := by have := HA.out.few; show _ ≤ _; omega
    clear HO HA
    have hN0 : Hid (∀ W, Below W3.heap.size W3 W → W.cell? ⟨N, 0, none⟩ = some (.slice ai l.length ci) ∧ W.cell? ⟨N, 1, none⟩ = some (.slice at' l.length ct)) := fun W hb => by
      have h := HN3.out
      have h0 := h.cell 0
      have h1 := h.cell 1
      simp only [List.getElem?_toArray, List.getElem?_cons_zero, List.getElem?_cons_succ] at h0 h1
      exact ⟨(hb.cell (p := ⟨N, 0, none⟩) hNl).trans h0, (hb.cell (p := ⟨N, 1, none⟩) hNl).trans h1⟩
    have hCC : Hid (∀ W, Below W3.heap.size W3 W → l ≠ [] → ∃ bi oi bt ot, ai = some ⟨bi, oi, none⟩ ∧ at' = some ⟨bt, ot, none⟩ ∧ ∀ (k : Nat) (i : Int) (t : List UInt8), ids[k]? = some i → texts[k]? = some t → W.cell? ⟨bi, oi + k, none⟩ = some (.int .i64 i) ∧ W.cell? ⟨bt, ot + k, none⟩ = some (.string (bs t))) := fun W hb hne => by
      obtain ⟨bi, oi, bt, ot, e1, e2, hbi, hbt, h⟩ := HC.out hne
      refine ⟨bi, oi, bt, ot, e1, e2, fun k i t hi ht => ?_⟩
      obtain ⟨a, b⟩ := h k i t hi ht
      exact ⟨((hb.cell (p := ⟨bi, oi + k, none⟩) (by show bi < _; omega)).trans (HB3.out.cell (p := ⟨bi, oi + k, none⟩) hbi)).trans a, ((hb.cell (p := ⟨bt, ot + k, none⟩) (by show bt < _; omega)).trans (HB3.out.cell (p := ⟨bt, ot + k, none⟩) hbt)).trans b⟩
    clear HC HN3 HB3
    go_loopw [5, 6] (fun m i wr => ∃ k : Nat, k ≤ l.length ∧ m = .int .i64 (mostOf (ids.take k)) ∧ i = .int .i64 k ∧ Below W3.heap.size W3 wr) (fun _ i _ => l.length - (intOf i).toNat)
    case atStart => exact ⟨0, Nat.zero_le _, rfl, rfl, Below.refl _ _⟩
    case round =>
      obtain ⟨k, hk, rfl, rfl, hbel⟩ := hrel
      by_cases hlt : k < l.length
      · obtain ⟨y0, y1⟩ := hN0.out wr hbel
        obtain ⟨bi, oi, bt, ot, rfl, rfl, hcc⟩ := hCC.out wr hbel (by intro h; simp [h] at hlt)
        obtain ⟨i, hi⟩ : ∃ i, ids[k]? = some i := ⟨_, List.getElem?_eq_getElem (by omega)⟩
        obtain ⟨t, ht⟩ : ∃ t, texts[k]? = some t := ⟨_, List.getElem?_eq_getElem (by omega)⟩
        obtain ⟨y2, y3⟩ := hcc k i t hi ht
        obtain ⟨⟨b, q1, q2⟩, h3, h4, h5⟩ := HSF.out k i t hlt hi ht
        have hle := HLE.out k hk
        have HBel := Lib.hid hbel
        have HI := Lib.hid hi
        have HT := Lib.hid ht
        have HK5 : Hid (mostOf (ids.take (k + 1)) = if i > mostOf (ids.take k) then i else mostOf (ids.take k)) := h5
        clear hcc hbel hi ht h5
        generalize mostOf (ids.take k) = m at *
        have hw1 : IntKind.i64.wrap (m + 1) = m + 1 := IntWalk.i64_in _ (by omega)
        have q3 : decide (i > m + 1) = false := decide_eq_false (by omega)
        have q4 : decide (i < -1) = false := decide_eq_false (by omega)
        have hxb : (b != b) = false := by simp
        generalize bs t = T at *
        go_wp2_with fail
        go_quiet (fail)
        have hbd := below_drewN HBel.out nq
        clear HBel y0 y1 y2 y3 q1 q2 q3 q4 hxb hw1
        generalize wr.drewN nq = Wd at *
        obtain ⟨y0, y1⟩ := hN0.out Wd hbd
        obtain ⟨_, _, _, _, e1, e2, hcc⟩ := hCC.out Wd hbd (by intro h; simp [h] at hlt)
        cases e1; cases e2
        obtain ⟨y2, y3⟩ := hcc k i t HI.out HT.out
        clear hcc y1 y3
        have HM : (decide (i > m) = true ∧ mostOf (ids.take (k + 1)) = i) ∨ (decide (i > m) = false ∧ mostOf (ids.take (k + 1)) = m) := by
          by_cases h : i > m
          · exact .inl ⟨decide_eq_true h, by rw [HK5.out, if_pos h]⟩
          · exact .inr ⟨decide_eq_false h, by rw [HK5.out, if_neg h]⟩
        have HBd := Lib.hid hbd
        clear hbd HK5
        have hil' := Lib.hid hil
        have htl' := Lib.hid htl
        clear hil htl
        rcases HM with ⟨q5, hM⟩ | ⟨q5, hM⟩
        all_goals
          have HM := Lib.hid hM
          clear hM
          go_wp2_with fail
          go_loopw [7] (fun i wi => ∃ j : Nat, j ≤ k ∧ i = .int .i64 j ∧ Below W3.heap.size W3 wi) (fun i _ => k - (intOf i).toNat)
          case atStart => exact ⟨0, Nat.zero_le _, rfl, HBd.out⟩
          case round =>
            obtain ⟨j, hj, rfl, hbi⟩ := hrel
            by_cases hjk : j < k
            · obtain ⟨z0, z1⟩ := hN0.out wr hbi
              obtain ⟨_, _, _, _, e1, e2, hcc⟩ := hCC.out wr hbi (by intro h; simp [h] at hlt)
              cases e1; cases e2
              obtain ⟨i', hi'⟩ : ∃ i', ids[j]? = some i' := ⟨_, List.getElem?_eq_getElem (by have := hil'.out; omega)⟩
              obtain ⟨t', ht'⟩ : ∃ t', texts[j]? = some t' := ⟨_, List.getElem?_eq_getElem (by have := htl'.out; omega)⟩
              obtain ⟨z2, z3⟩ := hcc k i t HI.out HT.out
              obtain ⟨z4, z5⟩ := hcc j i' t' hi' ht'
              obtain ⟨b, q6, q7⟩ := HPF.out k j i i' t t' HI.out HT.out hi' ht'
              have hxb : (b != b) = false := by simp
              have HBi := Lib.hid hbi
              clear hcc hi' ht' hbi y0 y2
              generalize bs t = T1 at *
              generalize bs t' = T2 at *
              go_wp2_with fail
              go_quiet (fail)
              have hbi2 := below_drewN HBi.out nq
              clear HBi z0 z1 z2 z3 z4 z5 q6 q7 hxb
              go_wp2_with fail
              go_roundw
              case rel => exact ⟨j + 1, by omega, by go_num, hbi2⟩
              case measure => simp [intOf]; omega
            · have hjk : j = k := by omega
              subst hjk
              go_wp2_with fail
              go_roundw
              case rel => exact ⟨j + 1, by omega, by rw [HM.out], by go_num, hbi⟩
              case measure => simp [intOf]; omega
      · have hkl : k = l.length := by omega
        subst hkl
        have he : ids.take l.length = ids := List.take_of_length_le (by omega)
        have hle := HLE.out l.length (Nat.le_refl _)
        have hla := HLast.out
        rw [he] at hle
        rw [he]
        have har := HAr.out.below hbel
        have hbw := HBw.out.trans (hbel.mono HBw.out.size)
        have HBF := Lib.hid hbw
        have HAR := Lib.hid har
        have HAW := Lib.hid awake1_any
        clear he har hbw hlt
        generalize mostOf ids = m at *
        have hsum : IntKind.i64.wrap (m + 1) = m + 1 := IntWalk.i64_in _ (by have := HLfew.out; omega)
        have hq : (m + 1 == m + 1) = true := by simp
        go_wp2_with (first
          | (go_at_call 12; with_reducible refine (HAW.out _).mono ?_; rintro e w4 ⟨rfl, b4⟩)
          | (go_at_call 15; refine (Len_any (HAR.out.below b4)).mono ?_; rw [hla]; rintro e w5 ⟨rfl, h5⟩; have h5 := h5.symm; subst h5))
        go_ret
        exact ⟨by simp, HBF.out.trans (b4.mono HBF.out.size)⟩
end Go.Proofs.Ytamgbeinmfgglaa
