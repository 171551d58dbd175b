/- Layer 31: slices.IndexFunc and ContainsFunc of integers; trust.Good; the harness's has and rises. -/
import Derived.Test.YtfjbpaigbphbbaaEv5
import Derived.Shelf.Abstract
namespace Go.Proofs.Ytfjbpaigbphbbaa
open Go.RowKit

set_option maxHeartbeats 1000000 in
set_option maxRecDepth 100000 in
theorem idxInt_any {p : Int → Bool} (g : Nat) (lb : Array Value) (eg : ∀ args w, (callFunc g args).run Try.prog w = .ok (.enter g args) w) {w : World} {v : Value} {l : List Int} (h : IdsAt w v l) (hl : l.length ≤ maxLen)
    (hp : ∀ W x, x ∈ l → Below w.heap.size w W → Calls Try.prog g (#[.int .i64 x] ++ lb) W fun e w' => e = .returned (.bool (p x)) ∧ Below W.heap.size W w') :
    Calls Try.prog 31 #[v, .func (.func g) #[] lb] w fun e w' => e = .returned (.int .i64 (idxP p l)) ∧ Below w.heap.size w w' := by
  obtain ⟨ao, cap, rfl, hc⟩ := h
  unfold maxLen at hl
  have HP := Lib.hid hp
  have HC := Lib.hid hc
  have HH : Hid (∀ k (hk : k < l.length), p l[k] = true → (∀ x ∈ l.take k, p x = false) → idxP p l = k) := fun k hk h1 h0 => idxP_hit hk h1 h0
  have HM : Hid ((∀ x ∈ l, p x = false) → idxP p l = -1) := idxP_miss
  clear hp hc
  generalize idxP p l = z at *
  go_enter Try.func31, Try.ntmps31
  go_wp2_with fail
  go_loopw [8] (fun i wr => ∃ k : Nat, k ≤ l.length ∧ i = .int .i64 k ∧ Hid (∀ x ∈ l.take k, p x = false) ∧ Hid (Below w.heap.size w wr)) (fun i _ => l.length - (intOf i).toNat)
  case atStart => exact ⟨0, Nat.zero_le _, rfl, Lib.hid (by simp), Lib.hid (Below.refl _ _)⟩
  case round =>
    obtain ⟨k, hk, rfl, HT, HB⟩ := hrel
    by_cases hlt : k < l.length
    · obtain ⟨b, off, rfl, hb, hcell⟩ := HC.out (by intro h; simp [h] at hlt)
      have c1 : wr.cell? ⟨b, off + k, none⟩ = some (.int .i64 l[k]) := (HB.out.cell (p := ⟨b, off + k, none⟩) hb).trans (hcell k _ (List.getElem?_eq_getElem hlt))
      have HQ := Lib.hid (HP.out wr l[k] (List.getElem_mem hlt) HB.out)
      have H1 : Hid (p l[k] = true → z = k) := fun e => HH.out k hlt e HT.out
      have H0 : Hid (p l[k] = false → ∀ y ∈ l.take (k + 1), p y = false) := fun e => evTake hlt HT.out e
      clear hcell HC HP HH HM HT
      generalize p l[k] = q at *
      generalize l[k] = x at *
      cases q with
      | true =>
        have HF := Lib.hid (H1.out rfl)
        clear H1 H0
        go_wp2_with (first
          | (go_at_fn g; refine HQ.out.mono ?_; rintro e w' ⟨rfl, hb'⟩; have B' := Lib.hid hb'; clear hb'))
        go_ret
        exact ⟨by rw [HF.out]; rfl, HB.out.trans (B'.out.mono HB.out.size)⟩
      | false =>
        have HF := Lib.hid (H0.out rfl)
        clear H1 H0
        go_wp2_with (first
          | (go_at_fn g; refine HQ.out.mono ?_; rintro e w' ⟨rfl, hb'⟩; have B' := Lib.hid hb'; clear hb'))
        go_roundw
        case rel => exact ⟨k + 1, by omega, by go_num, HF, Lib.hid (HB.out.trans (B'.out.mono HB.out.size))⟩
        case measure => simp [intOf]; omega
    · have hkl : k = l.length := by omega
      subst hkl
      have HF := Lib.hid (HM.out (by have := HT.out; rwa [List.take_length] at this))
      clear hlt HC HT HM HH HP
      go_wp2_with fail
      go_ret
      exact ⟨by rw [HF.out]; rfl, HB.out⟩
theorem idx_nonneg {α : Type} (p : α → Bool) (l : List α) : decide (idxP p l ≥ 0) = l.any p := by
  rcases idxP_cases p l with ⟨h, h0⟩ | ⟨k, hk, h, h1, h0⟩
  · rw [h, List.any_eq_false.2 fun x hx => by rw [h0 x hx]; simp]
    rfl
  · rw [h, List.any_eq_true.2 ⟨l[k], List.getElem_mem hk, h1⟩, decide_eq_true (by omega)]
set_option maxHeartbeats 1000000 in
set_option maxRecDepth 100000 in
theorem contInt_any {p : Int → Bool} (g : Nat) (lb : Array Value) (eg : ∀ args w, (callFunc g args).run Try.prog w = .ok (.enter g args) w) {w : World} {v : Value} {l : List Int} (h : IdsAt w v l) (hl : l.length ≤ maxLen)
    (hp : ∀ W x, x ∈ l → Below w.heap.size w W → Calls Try.prog g (#[.int .i64 x] ++ lb) W fun e w' => e = .returned (.bool (p x)) ∧ Below W.heap.size W w') :
    Calls Try.prog 23 #[v, .func (.func g) #[] lb] w fun e w' => e = .returned (.bool (l.any p)) ∧ Below w.heap.size w w' := by
  have HI := Lib.hid (idxInt_any g lb eg h hl hp)
  have HN := Lib.hid (idx_nonneg p l)
  generalize idxP p l = z at *
  generalize l.any p = q at *
  clear h hp
  go_enter Try.func23, Try.ntmps23
  go_wp2_with (first
    | (go_at_call 31; (with_reducible refine HI.out.mono ?_); rintro e w1 ⟨rfl, b1⟩; have B1 := Lib.hid b1; clear b1))
  go_ret
  exact ⟨by rw [← HN.out]; rfl, B1.out⟩
/-- Is the event at a place of a session? -/
def atSess (l : List EvV) (s i : Int) : Bool := match l[i.toNat]? with
  | some e => e.se == s
  | none => false
set_option maxHeartbeats 1000000 in
set_option maxRecDepth 100000 in
theorem good1_any {w : World} {v : Value} {l : List EvV} (h : EventsAt w v l) (s : Int) (k : Nat) (hk : k < l.length) (b1 b2 : Nat) (h1 : w.cell? ⟨b1, 0, none⟩ = some v) (h2 : w.cell? ⟨b2, 0, none⟩ = some (.int .i64 s)) :
    Calls Try.prog 24 #[.int .i64 (k : Int), .pointer (some ⟨b1, 0, none⟩), .pointer (some ⟨b2, 0, none⟩)] w fun e w' => e = .returned (.bool (atSess l s k)) ∧ Below w.heap.size w w' := by
  obtain ⟨ao, cap, rfl, hc⟩ := h
  obtain ⟨b, off, rfl, hb, hcell⟩ := hc (by intro h; simp [h] at hk)
  have c1 : w.cell? ⟨b, off + k * 34 + 1, none⟩ = some (.int .i64 (l[k]).se) := hcell k _ (List.getElem?_eq_getElem hk) 1 _ (EvV.row_se _)
  have d1 : w.drew.cell? ⟨b, off + k * 34 + 1, none⟩ = some (.int .i64 (l[k]).se) := c1
  have d2 : w.drew.cell? ⟨b1, 0, none⟩ = some (.slice (some ⟨b, off, none⟩) l.length cap) := h1
  have d3 : w.drew.cell? ⟨b2, 0, none⟩ = some (.int .i64 s) := h2
  have HA : Hid (atSess l s k = ((l[k]).se == s)) := by
    show atSess l s k = _
    unfold atSess
    rw [Int.toNat_natCast, List.getElem?_eq_getElem hk]
  have HB : Hid (Below w.heap.size w w.drew) := ⟨rfl, rfl, rfl, Nat.le_refl _, fun _ _ => rfl⟩
  clear hcell hc
  generalize atSess l s k = z at *
  generalize (l[k]).se = x at *
  go_enter Try.func24, Try.ntmps24
  go_wp2_with (go_region)
  go_ret
  exact ⟨by rw [HA.out]; rfl, HB.out⟩
/-- Is a session safe? -/
def goodB (l : List EvV) (s : Int) (n : Nat) : Bool := (safesL l n).any (atSess l s)
theorem goodB_is (l : List EvV) (s : Int) (n : Nat) : goodB l s n = (List.range n).any (fun i => safeB l i && atSess l s i) := by
  unfold goodB safesL safesN
  rw [List.any_map, List.any_filter]
  rfl
theorem goodB_step (l : List EvV) (s : Int) (n : Nat) : goodB l s (n + 1) = (goodB l s n || safeB l n && atSess l s n) := by
  rw [goodB_is, goodB_is, List.range_succ, List.any_append]
  simp
theorem atSess_at {l : List EvV} {k : Nat} (hk : k < l.length) (s : Int) : atSess l s k = ((l[k]).se == s) := by
  unfold atSess
  rw [Int.toNat_natCast, List.getElem?_eq_getElem hk]
theorem mem_safes {l : List EvV} {k : Nat} (hk : k < l.length) : decide ((k : Int) ∈ safesL l l.length) = safeB l k := by
  have h : (k : Int) ∈ safesL l l.length ↔ safeB l k = true := by
    unfold safesL safesN
    rw [List.mem_map]
    constructor
    · rintro ⟨n, hn, he⟩
      have : n = k := Int.ofNat.inj he
      subst this
      exact (List.mem_filter.1 hn).2
    · exact fun h => ⟨k, List.mem_filter.2 ⟨List.mem_range.2 hk, h⟩, rfl⟩
  cases hs : safeB l k with
  | true => exact decide_eq_true (h.2 hs)
  | false => exact decide_eq_false fun e => by rw [h.1 e] at hs; cases hs
theorem safes_rise (l : List EvV) (n : Nat) : (safesL l n).Pairwise (· < ·) := by
  unfold safesL safesN
  rw [List.pairwise_map]
  exact (List.Pairwise.filter _ List.pairwise_lt_range).imp fun h => by simpa using h
set_option maxHeartbeats 1000000 in
set_option maxRecDepth 100000 in
theorem good_any {w : World} {v : Value} {l : List EvV} (h : EventsAt w v l) (hl : l.length ≤ 1000) (ho : ∀ x ∈ l, ∀ u ∈ x.row.toList, CellOk u) (s : Int) :
    Calls Try.prog 13 #[v, .int .i64 s] w fun e w' => e = .returned (.bool (goodB l s l.length)) ∧ Below w.heap.size w w' := by
  obtain ⟨W, hW⟩ : ∃ W, Hid (W = (w.alloc (.cells #[v] 22)).alloc (.cells #[.int .i64 s] 3)) := ⟨_, Lib.hid rfl⟩
  have BW : Hid (Below w.heap.size w W) := by
    show Below _ _ _
    rw [hW.out]
    exact ((Below.refl _ w).alloc (Nat.le_refl _) _).alloc (by simp) _
  have hA := h.below BW.out
  have K1 : Hid (Holds W w.heap.size 22 #[v]) := by
    show Holds _ _ _ _
    rw [hW.out]
    exact first2_row w #[v] 22 _ rfl
  have K2 : Hid (Holds W (w.heap.size + 1) 3 #[.int .i64 s]) := by
    show Holds _ _ _ _
    rw [hW.out]
    exact last2_row w _ 3 _ rfl
  have HSf := Lib.hid (safes_any hA hl ho)
  have HCt : Hid (∀ W' v', Below W.heap.size W W' → IdsAt W' v' (safesL l l.length) → Calls Try.prog 23 #[v', .func (.func 24) #[] #[.pointer (some ⟨w.heap.size, 0, none⟩), .pointer (some ⟨w.heap.size + 1, 0, none⟩)]] W' fun e w' => e = .returned (.bool (goodB l s l.length)) ∧ Below W'.heap.size W' w') := fun W' v' hb hi => by
    refine contInt_any 24 #[.pointer (some ⟨w.heap.size, 0, none⟩), .pointer (some ⟨w.heap.size + 1, 0, none⟩)] (fun _ _ => by kernel_rfl) hi (by have := safes_len l l.length; unfold maxLen; omega) fun W2 x hx hb2 => ?_
    have hb3 := hb.trans (hb2.mono hb.size)
    obtain ⟨n, hn, rfl⟩ := List.mem_map.1 hx
    have hk := List.mem_range.1 (List.mem_filter.1 hn).1
    exact good1_any (hA.below hb3) s n hk _ _ ((hb3.block _ K1.out.lt).trans K1.out |> fun q => cell_heap q 0) ((hb3.block _ K2.out.lt).trans K2.out |> fun q => cell_heap q 0)
  have c1 : W.cell? ⟨w.heap.size, 0, none⟩ = some v := K1.out.cell 0
  obtain ⟨ao, cap, rfl, _⟩ := h
  clear hA K1 K2 ho
  generalize goodB l s l.length = z at *
  go_enter Try.func13, Try.ntmps13
  go_upto_region 1 with fail
  rw [← hW.out]
  clear hW
  go_wp2_with (first
    | (go_at_call 8; (with_reducible refine HSf.out.mono ?_); rintro e w1 ⟨v', rfl, i1, b1⟩; have B1 := Lib.hid b1; have I1 := Lib.hid i1; clear b1 i1)
    | (go_at_call 23; (with_reducible refine (HCt.out _ _ B1.out I1.out).mono ?_); rintro e w2 ⟨rfl, b2⟩; have B2 := Lib.hid (B1.out.trans (b2.mono B1.out.size)); clear b2))
  go_ret
  exact ⟨rfl, BW.out.trans (B2.out.mono BW.out.size)⟩
set_option maxHeartbeats 1000000 in
set_option maxRecDepth 100000 in
theorem has31_any {w : World} {v : Value} {l : List Int} (h : IdsAt w v l) (hl : l.length ≤ maxLen) (n : Int) :
    Calls Try.prog 11 #[v, .int .i64 n] w fun e w' => e = .returned (.bool (decide (n ∈ l))) ∧ w' = w := by
  obtain ⟨ao, cap, rfl, hc⟩ := h
  unfold maxLen at hl
  have HC := Lib.hid hc
  have HH : Hid (∀ k (hk : k < l.length), l[k] = n → decide (n ∈ l) = true) := fun k hk h1 => decide_eq_true (by rw [← h1]; exact List.getElem_mem hk)
  have HM : Hid ((∀ x ∈ l, ¬ x = n) → decide (n ∈ l) = false) := fun h0 => decide_eq_false fun e => h0 n e rfl
  clear hc
  generalize decide (n ∈ l) = z at *
  go_enter Try.func11, Try.ntmps11
  go_wp2_with fail
  go_loopw [5] (fun i wr => ∃ k : Nat, k ≤ l.length ∧ i = .int .i64 k ∧ Hid (∀ x ∈ l.take k, ¬ x = n) ∧ wr = w) (fun i _ => l.length - (intOf i).toNat)
  case atStart => exact ⟨0, Nat.zero_le _, rfl, Lib.hid (by simp), rfl⟩
  case round =>
    obtain ⟨k, hk, rfl, HT, hwr⟩ := hrel
    have hw := hwr.symm
    subst hw
    by_cases hlt : k < l.length
    · obtain ⟨b, off, rfl, hb, hcell⟩ := HC.out (by intro h; simp [h] at hlt)
      have c1 := hcell k _ (List.getElem?_eq_getElem hlt)
      have H1 : Hid (l[k] = n → z = true) := fun e => HH.out k hlt e
      have H0 : Hid (¬ l[k] = n → ∀ y ∈ l.take (k + 1), ¬ y = n) := fun e => evTake hlt HT.out e
      clear hcell HC HH HM HT
      generalize l[k] = x at *
      by_cases hx : x = n
      · subst hx
        have q : (x == x) = true := beq_self_eq_true _
        have HF := Lib.hid (H1.out rfl)
        clear H1 H0
        go_wp2_with fail
        go_ret
        exact ⟨by rw [HF.out]; rfl, rfl⟩
      · have q : (x == n) = false := by rw [beq_eq_false_iff_ne]; exact hx
        have HF := Lib.hid (H0.out hx)
        clear H1 H0 hx
        go_wp2_with fail
        go_roundw
        case rel => exact ⟨k + 1, by omega, by go_num, HF, trivial⟩
        case measure => simp [intOf]; omega
    · have hkl : k = l.length := by omega
      subst hkl
      have HF := Lib.hid (HM.out (by have := HT.out; rwa [List.take_length] at this))
      clear hlt HC HT HM HH
      go_wp2_with fail
      go_ret
      exact ⟨by rw [HF.out]; rfl, rfl⟩
set_option maxHeartbeats 1000000 in
set_option maxRecDepth 100000 in
theorem rises31_any {w : World} {v : Value} {l : List Int} (h : IdsAt w v l) (hl : l.length ≤ maxLen) (hr : l.Pairwise (· < ·)) :
    Calls Try.prog 12 #[v] w fun e w' => e = .returned (.bool true) ∧ Below w.heap.size w w' := by
  obtain ⟨ao, cap, rfl, hc⟩ := h
  unfold maxLen at hl
  have HC := Lib.hid hc
  have HR : Hid (∀ k (h1 : k + 1 < l.length), l[k] < l[k + 1]) := fun k h1 => List.pairwise_iff_getElem.1 hr k (k + 1) (by omega) h1 (by omega)
  clear hc hr
  go_enter Try.func12, Try.ntmps12
  go_wp2_with fail
  go_loopw [3] (fun i wr => ∃ k : Nat, 1 ≤ k ∧ i = .int .i64 k ∧ (k ≤ l.length ∨ k = 1) ∧ Hid (Below w.heap.size w wr)) (fun i _ => (l.length + 1) - (intOf i).toNat)
  case atStart => exact ⟨1, Nat.le_refl _, rfl, .inr rfl, Lib.hid (Below.refl _ _)⟩
  case round =>
    obtain ⟨k, hk1, rfl, hk, HB⟩ := hrel
    by_cases hlt : k < l.length
    · obtain ⟨b, off, rfl, hb, hcell⟩ := HC.out (by intro h; simp [h] at hlt)
      obtain ⟨j, rfl⟩ : ∃ j, k = j + 1 := ⟨k - 1, by omega⟩
      have c1 : wr.cell? ⟨b, off + (j + 1), none⟩ = some (.int .i64 l[j + 1]) := (HB.out.cell (p := ⟨b, off + (j + 1), none⟩) hb).trans (hcell (j + 1) _ (List.getElem?_eq_getElem hlt))
      have c0 : wr.cell? ⟨b, off + j, none⟩ = some (.int .i64 l[j]) := (HB.out.cell (p := ⟨b, off + j, none⟩) hb).trans (hcell j _ (List.getElem?_eq_getElem (by omega)))
      have d1 : wr.drew.cell? ⟨b, off + (j + 1), none⟩ = some (.int .i64 l[j + 1]) := c1
      have d0 : wr.drew.cell? ⟨b, off + j, none⟩ = some (.int .i64 l[j]) := c0
      have hlt2 := HR.out j hlt
      have q : decide (l[j + 1] ≤ l[j]) = false := decide_eq_false (by omega)
      have HD : Hid (Below w.heap.size w wr.drew) := ⟨HB.out.os, HB.out.tape, HB.out.output, HB.out.size, HB.out.block⟩
      clear hcell HC HR hlt2
      generalize l[j] = x at *
      generalize l[j + 1] = y at *
      go_wp2_with (go_region)
      go_roundw
      case rel => exact ⟨j + 1 + 1, by omega, by go_num, .inl (by omega), HD⟩
      case measure => simp [intOf]; omega
    · clear HC HR
      go_wp2_with fail
      go_ret
      exact ⟨rfl, HB.out⟩
end Go.Proofs.Ytfjbpaigbphbbaa
