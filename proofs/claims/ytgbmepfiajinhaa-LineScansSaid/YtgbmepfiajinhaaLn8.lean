/- The walks of the laws LineScans and LinePieces. -/
import Derived.Test.YtgbmepfiajinhaaLn4
import Derived.Test.YtgbmepfiajinhaaLn6
namespace Go.Proofs.Ytgbmepfiajinhaa
open Go.RowKit

set_option maxRecDepth 100000 in
theorem LineScans_small (x : List UInt8) (hx : x.length ≤ 600) (w : World) : Calls Try.prog 5 #[.string (bs x)] w fun e w' => e = .returned (.bool true) ∧ Below w.heap.size w w' := by
  have z1 := bs_size x
  have HA := Lib.hid awake10_any
  have HS := Lib.hid (fun W => lnScan_any x (by omega) W)
  have HT := Lib.hid (fun W => rlScan_any x (by omega) W)
  generalize lnScan x = p at *
  obtain ⟨p1, p2, p3⟩ := p
  simp only at HS HT
  generalize bs x = X at *
  generalize bs p1 = A at *
  have q1 : (A.toList == A.toList) = true := by simp
  have q2 : ((p2 : Int) == (p2 : Int)) = true := by simp
  have q3 : ((p3 : Int) == (p3 : Int)) = true := by simp
  go_enter Try.func5, Try.ntmps5
  go_wp2_with (first
    | (go_at_call 16; refine (HS.out _).mono ?_; rintro e w1 ⟨rfl, b1⟩)
    | (go_at_call 17; refine (HT.out _).mono ?_; rintro e w2 ⟨rfl, b2⟩)
    | (go_at_call 7; refine (HA.out _).mono ?_; rintro e w3 ⟨rfl, b3⟩))
  go_ret
  have s1 := b1.size; have s2 := b2.size
  exact ⟨rfl, (b1.trans (b2.mono s1)).trans (b3.mono (by omega))⟩

-- beginnings of lines, on lists
theorem lnTakeWhile_append {p : UInt8 → Bool} (l m : List UInt8) : (l ++ m).takeWhile p = if (l.takeWhile p).length = l.length then l ++ m.takeWhile p else l.takeWhile p := by
  induction l with
  | nil => simp
  | cons b l ih =>
    rw [List.cons_append, List.takeWhile_cons, List.takeWhile_cons]
    cases hb : p b
    · simp
    · simp only [if_true, List.length_cons, Nat.add_right_cancel_iff, ih]
      split <;> simp
theorem lnCount_append (l m : List UInt8) : (lnCount l = l.length ∧ l.length ≤ lnCount (l ++ m)) ∨ (lnCount l < l.length ∧ lnCount (l ++ m) = lnCount l) := by
  have hle := lnCount_le l
  have he := lnTakeWhile_append (p := lnPlainB) l m
  have hd : lnCount l = (l.takeWhile lnPlainB).length := rfl
  have hd2 : lnCount (l ++ m) = ((l ++ m).takeWhile lnPlainB).length := rfl
  rw [he] at hd2
  by_cases h : lnCount l = l.length
  · rw [← hd, if_pos h, List.length_append] at hd2
    exact .inl ⟨h, by omega⟩
  · rw [← hd, if_neg h] at hd2
    exact .inr ⟨by omega, by rw [hd2, ← hd]⟩
theorem lnRest_more (r m : List UInt8) (h : lnRest r ≠ 4) : lnRest (r ++ m) = lnRest r := by
  match r with
  | [] => exact absurd rfl h
  | [a] =>
    by_cases ha : a = 13
    · subst ha; exact absurd rfl h
    · have : a ≠ 13 := ha
      have ha' : ((13 : UInt8) == a) = false := by simpa using Ne.symm this
      have ha2 : (a == (13 : UInt8)) = false := by simpa using this
      simp [lnRest, List.isPrefixOf, ha', ha2]
  | a :: b :: c =>
    have e1 : ([13, 10] : List UInt8).isPrefixOf (a :: b :: c) = ((13 == a) && (10 == b)) := by simp [List.isPrefixOf]
    have e2 : ([13, 10] : List UInt8).isPrefixOf (a :: b :: c ++ m) = ((13 == a) && (10 == b)) := by simp [List.isPrefixOf]
    by_cases hab : ((13 == a) && (10 == b)) = true
    · unfold lnRest
      rw [e1, e2, hab, if_pos rfl, if_pos rfl]
    · have hab' : ((13 == a) && (10 == b)) = false := by simpa using hab
      have e3 : (a :: b :: c).isPrefixOf [13, 10] = false := by
        rw [Bool.eq_false_iff]
        intro e
        have := List.isPrefixOf_iff_prefix.1 e
        obtain ⟨t, ht⟩ := this
        simp only [List.cons_append, List.cons.injEq] at ht
        rw [ht.1, ht.2.1] at hab'
        simp at hab'
      have e4 : (a :: b :: c ++ m).isPrefixOf [13, 10] = false := by
        rw [Bool.eq_false_iff]
        intro e
        have := List.isPrefixOf_iff_prefix.1 e
        obtain ⟨t, ht⟩ := this
        simp only [List.cons_append, List.cons.injEq] at ht
        rw [ht.1, ht.2.1] at hab'
        simp at hab'
      unfold lnRest
      rw [e1, e2, hab', e3, e4]
theorem lnScan_more (l m : List UInt8) (h : (lnScan l).2.2 ≠ 4) : lnScan (l ++ m) = lnScan l := by
  rcases lnCount_append l m with ⟨h1, h2⟩ | ⟨h1, h2⟩
  · by_cases hk : 253 < l.length
    · rw [lnScan_long (by omega), lnScan_long (by omega)]
    · exfalso
      apply h
      rw [lnScan_short h1 (by omega) (by rw [List.drop_length]; rfl) (by rw [List.drop_length]; rfl)]
  · have hd : (l ++ m).drop (lnCount l) = l.drop (lnCount l) ++ m := List.drop_append_of_le_length (by omega)
    have ht : (l ++ m).take (lnCount l) = l.take (lnCount l) := List.take_append_of_le_length (by omega)
    unfold lnScan at h ⊢
    rw [h2, hd, ht]
    split
    · rfl
    · rename_i hk
      rw [if_neg hk] at h
      rw [lnRest_more _ _ (by
        intro e
        rw [e] at h
        simp at h)]
theorem lnScan_err {l : List UInt8} (h : (lnScan l).2.2 ≠ 0) : (lnScan l).1 = [] ∧ (lnScan l).2.1 = 0 := by
  unfold lnScan at h ⊢
  split
  · exact ⟨rfl, rfl⟩
  · rename_i hk
    rw [if_neg hk] at h
    split
    · rename_i h0
      rw [if_pos h0] at h
      simp at h
    · exact ⟨rfl, rfl⟩
theorem lnScan_ok {l : List UInt8} (h : (lnScan l).2.2 = 0) : lnCount l ≤ 253 ∧ (lnScan l).2.1 = lnCount l + 2 ∧ lnCount l + 2 ≤ l.length ∧ ∃ r, l.drop (lnCount l) = 13 :: 10 :: r := by
  unfold lnScan at h ⊢
  split at h
  · simp at h
  · rename_i hk
    rw [if_neg hk]
    split at h
    · rename_i h0
      rw [if_pos h0]
      have hp : ([13, 10] : List UInt8).isPrefixOf (l.drop (lnCount l)) = true := by
        unfold lnRest at h0
        split at h0
        · rename_i h1; exact h1
        · split at h0 <;> simp at h0
      obtain ⟨r, hr⟩ := List.isPrefixOf_iff_prefix.1 hp
      have hl := congrArg List.length hr
      simp only [List.length_append, List.length_drop, List.length_cons, List.length_nil] at hl
      exact ⟨by omega, rfl, by omega, r, by rw [← hr]; rfl⟩
    · rename_i h0
      exact absurd h h0
theorem lnTake_next {l : List UInt8} {k : Nat} {c : UInt8} {r : List UInt8} (h : l.drop k = c :: r) : l.take (k + 1) = l.take k ++ [c] := by
  have hk : k < l.length := by
    have := congrArg List.length h
    rw [List.length_drop, List.length_cons] at this
    omega
  rw [List.drop_eq_getElem_cons hk] at h
  rw [List.take_succ_eq_append_getElem hk, (List.cons.inj h).1]
theorem lnScan_cut {l : List UInt8} (h : (lnScan l).2.2 = 0) (j : Nat) (hj : j < lnCount l + 2) : lnScan (l.take j) = ([], 0, 4) := by
  obtain ⟨hk, _, hlen, r, hr⟩ := lnScan_ok h
  have hall : ∀ b ∈ l.take (lnCount l), lnPlainB b = true := by
    intro b hb
    have : l.take (lnCount l) = l.takeWhile lnPlainB := by
      unfold lnCount
      exact List.prefix_iff_eq_take.1 (List.takeWhile_prefix _) |>.symm
    rw [this] at hb
    have : ∀ (m : List UInt8), b ∈ m.takeWhile lnPlainB → lnPlainB b = true := by
      intro m
      induction m with
      | nil => simp
      | cons c m ih =>
        rw [List.takeWhile_cons]
        cases hc : lnPlainB c
        · simp
        · simp only [if_true, List.mem_cons]
          rintro (rfl | hb)
          · exact hc
          · exact ih hb
    exact this l hb
  by_cases h1 : j ≤ lnCount l
  · have hsub : ∀ b ∈ l.take j, lnPlainB b = true := fun b hb => hall b (by
      have : l.take j = (l.take (lnCount l)).take j := by rw [List.take_take, Nat.min_eq_left h1]
      rw [this] at hb
      exact List.mem_of_mem_take hb)
    have hc := lnCount_all hsub
    have hjl : (l.take j).length = j := by rw [List.length_take]; omega
    exact lnScan_short hc (by omega) (by rw [List.drop_length]; rfl) (by rw [List.drop_length]; rfl)
  · have hj1 : j = lnCount l + 1 := by omega
    have ht : l.take j = l.take (lnCount l) ++ [13] := by
      rw [hj1]
      exact lnTake_next hr
    have hl : (l.take (lnCount l)).length = lnCount l := by rw [List.length_take]; omega
    have hc : lnCount (l.take j) = lnCount l := by
      have hlt : lnCount l < (l.take j).length := by rw [List.length_take]; omega
      refine lnCount_at hlt (fun b hb => ?_) ?_
      · rw [List.take_take, Nat.min_eq_left (by omega)] at hb
        exact hall b hb
      · have : (l.take j)[lnCount l] = 13 := by
          have h2 : (l.take j)[lnCount l]? = some 13 := by
            rw [ht, List.getElem?_append_right (by omega), hl]
            simp
          exact (List.getElem?_eq_some_iff.1 h2).2
        rw [this]
        rfl
    have hd : (l.take j).drop (lnCount l) = [13] := by
      rw [ht]
      exact List.drop_left' hl
    exact lnScan_short hc (by omega) (by rw [hd]; rfl) (by rw [hd]; rfl)
theorem lnScan_forms (l : List UInt8) : lnScan l = ([], 0, 4) ∨ lnScan l = ([], 0, 11) ∨ ∃ s k, lnScan l = (s, k + 2, 0) ∧ k + 2 ≤ l.length ∧ ∀ j, j < k + 2 → lnScan (l.take j) = ([], 0, 4) := by
  by_cases h0 : (lnScan l).2.2 = 0
  · obtain ⟨_, h2, h3, _⟩ := lnScan_ok h0
    exact .inr (.inr ⟨(lnScan l).1, lnCount l, by rw [← h2, ← h0], h3, fun j hj => lnScan_cut h0 j hj⟩)
  · have he := lnScan_err h0
    have hv : (lnScan l).2.2 = 4 ∨ (lnScan l).2.2 = 11 := by
      unfold lnScan at h0 ⊢
      split
      · exact .inr rfl
      · rename_i hk
        rw [if_neg hk] at h0
        split
        · rename_i h1
          rw [if_pos h1] at h0
          simp at h0
        · rename_i h1
          show lnRest _ = 4 ∨ lnRest _ = 11
          unfold lnRest at h1 ⊢
          split
          · rename_i h2
            rw [if_pos h2] at h1
            simp at h1
          · split
            · exact .inl rfl
            · exact .inr rfl
    rcases hv with hv | hv
    · exact .inl (by rw [← he.1, ← he.2, ← hv])
    · exact .inr (.inl (by rw [← he.1, ← he.2, ← hv]))

set_option maxRecDepth 100000 in
theorem LinePieces_small (x m : List UInt8) (hx : x.length ≤ 600) (hm : m.length ≤ 100) (c : Nat) (hc : c ≤ 65535) (w : World) : Calls Try.prog 6 #[.string (bs x), .string (bs m), .int .u16 c] w fun e w' => e = .returned (.bool true) ∧ Below w.heap.size w w' := by
  have z1 := bs_size x
  have z2 := bs_size m
  have HA := Lib.hid awake10_any
  have HS := Lib.hid (fun W => lnScan_any x (by omega) W)
  have HT := Lib.hid (fun W => lnScan_any (x ++ m) (by simp; omega) W)
  have hg : ∀ W : World, (Op.stringOp .add (bs x) (bs m)).run Try.prog W = .ok (.string (bs (x ++ m))) W := fun W => lnAdd x m (by omega) W
  have hz : (bs ([] : List UInt8)).toList.isEmpty = true := by rw [lnEmptyL]; rfl
  have hmore := lnScan_more x m
  rcases lnScan_forms x with h | h | ⟨s, k, h, hk, hcut⟩
  · rw [h] at HS
    clear h hmore
    generalize lnScan (x ++ m) = p at *
    obtain ⟨p1, p2, p3⟩ := p
    simp only at HS HT
    generalize bs (x ++ m) = X2 at *
    generalize bs ([] : List UInt8) = Z at *
    generalize bs p1 = P1 at *
    generalize bs x = X at *
    generalize bs m = M at *
    go_enter Try.func6, Try.ntmps6
    go_wp2_with (first
      | (go_at_call 16; with_reducible refine (HS.out _).mono ?_; rintro e w1 ⟨rfl, b1⟩)
      | (go_at_call 16; with_reducible refine (HT.out _).mono ?_; rintro e w2 ⟨rfl, b2⟩)
      | (go_at_call 7; refine (HA.out _).mono ?_; rintro e w3 ⟨rfl, b3⟩))
    go_ret
    have s1 := b1.size; have s2 := b2.size
    exact ⟨rfl, (b1.trans (b2.mono s1)).trans (b3.mono (by omega))⟩
  · rw [h] at HS hmore
    rw [hmore (by decide)] at HT
    clear h hmore
    simp only at HS HT
    generalize bs (x ++ m) = X2 at *
    generalize bs ([] : List UInt8) = Z at *
    have qz : (Z.toList == Z.toList) = true := by simp
    generalize bs x = X at *
    generalize bs m = M at *
    go_enter Try.func6, Try.ntmps6
    go_wp2_with (first
      | (go_at_call 16; with_reducible refine (HS.out _).mono ?_; rintro e w1 ⟨rfl, b1⟩)
      | (go_at_call 16; with_reducible refine (HT.out _).mono ?_; rintro e w2 ⟨rfl, b2⟩)
      | (go_at_call 7; refine (HA.out _).mono ?_; rintro e w3 ⟨rfl, b3⟩))
    go_ret
    have s1 := b1.size; have s2 := b2.size
    exact ⟨rfl, (b1.trans (b2.mono s1)).trans (b3.mono (by omega))⟩
  · rw [h] at HS hmore
    rw [hmore (by show (0 : Nat) ≠ 4; omega)] at HT
    have hj : c % (k + 2) < k + 2 := Nat.mod_lt _ (by omega)
    have HU := Lib.hid (fun W => lnScan_any (x.take (c % (k + 2))) (by simp; omega) W)
    rw [hcut _ hj] at HU
    have htk := bs_take x (c % (k + 2))
    clear h hmore hcut
    simp only at HS HT HU
    obtain ⟨n, hn⟩ : ∃ n, n = k + 2 := ⟨_, rfl⟩
    rw [← hn] at HS HT HU htk hj hk
    have hn1 : 1 ≤ n := by omega
    clear hn
    generalize bs (x.take (c % n)) = U at *
    generalize bs (x ++ m) = X2 at *
    generalize bs ([] : List UInt8) = Z at *
    generalize bs s = Y at *
    have qy : (Y.toList == Y.toList) = true := by simp
    generalize bs x = X at *
    generalize bs m = M at *
    go_enter Try.func6, Try.ntmps6
    go_wp2_with (first
      | (go_at_call 16; with_reducible refine (HS.out _).mono ?_; rintro e w1 ⟨rfl, b1⟩)
      | (go_at_call 16; with_reducible refine (HT.out _).mono ?_; rintro e w2 ⟨rfl, b2⟩)
      | (go_at_call 16; with_reducible refine (HU.out _).mono ?_; rintro e w4 ⟨rfl, b4⟩)
      | (go_at_call 7; refine (HA.out _).mono ?_; rintro e w3 ⟨rfl, b3⟩))
    go_ret
    have s1 := b1.size; have s2 := b2.size; have s4 := b4.size
    exact ⟨rfl, ((b1.trans (b2.mono s1)).trans (b4.mono (by omega))).trans (b3.mono (by omega))⟩
end Go.Proofs.Ytgbmepfiajinhaa
