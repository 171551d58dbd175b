/- The document's values of messages: put, Value. -/
import Derived.Test.YtkdbmfgbokbnfaaDoorMq2
namespace Go.Proofs.YtkdbmfgbokbnfaaDoor
open Go.RowKit

theorem bel_drewN {B : Nat} {w w' : World} (h : Below B w w') (n : Nat) : Below B w (w'.drewN n) := ⟨h.os, h.tape, h.output, h.size, h.block⟩
def putQ (x : FieldR) : Wrote :=
  if plainQ x = false then ([], 3)
  else if x.kind.toNat = 98 then (if x.n < 0 ∨ 1 < x.n then ([], 5) else (boolL (decide (x.n = 1)), 0))
  else if x.kind.toNat = 117 then (if x.n < 0 ∨ 4294967295 < x.n then ([], 5) else (pack4 x.n.toNat, 0))
  else if x.kind.toNat = 109 then (if startsZ x.s = true then ([], 3) else (cnt (wholeL x.s), 0))
  else if x.kind.toNat = 110 then (if checkP x.l = 0 then (cnt (joinL x.l), 0) else ([], checkP x.l))
  else if x.kind.toNat = 99 then (if x.s.length = 16 then (x.s, 0) else ([], 3))
  else if x.kind.toNat = 101 then extsP x.l
  else (cnt x.s, 0)
theorem plain_zero (s : List UInt8) : plainL s = s ↔ startsZ s = false := by
  cases s with
  | nil => simp [plainL, startsZ]
  | cons b r =>
    unfold plainL startsZ
    by_cases h : b = 0
    · subst h
      simp only [if_true, decide_true, Bool.true_eq_false, iff_false]
      intro e
      have := congrArg List.length e
      have h2 := plainL_le r
      simp at this
      omega
    · simp [h]

set_option maxHeartbeats 2000000 in
set_option maxRecDepth 100000 in
theorem put_any {x : FieldR} {w : World} {v : Value} (hv : TextsAt w v (x.l.map bs)) (ho : FieldOk x) :
    Calls Tryd.prog 14 #[fieldV x v] w fun e w' => e = wroteV (putQ x) ∧ Below w.heap.size w w' := by
  unfold wroteV
  have HPl := Lib.hid (fun (W : World) (hb : Below w.heap.size w W) => plain_any (hv.below hb) (by have := ho.s; omega : x.s.length ≤ 1000000))
  have HEx := Lib.hid (fun (W : World) (hb : Below w.heap.size w W) => qexts_any (hv.below hb) (by have := ho.l; omega) ho.ls)
  have HWr := Lib.hid (fun (W : World) (hb : Below w.heap.size w W) => rWrong_any (hv.below hb) (by have := ho.l; unfold maxLen; omega) ho.ls)
  have HJo : Hid (checkP x.l = 0 → ∀ (W : World) (hb : Below w.heap.size w W), Calls Tryd.prog 33 #[v] W fun e w' => e = .returned (.string (bs (joinL x.l))) ∧ w' = W) := fun hc W hb =>
    rJoin_any (hv.below hb) ho.l fun y hy => by
      have := (check_all hc).2 y hy
      unfold rightL at this
      rw [Bool.and_eq_true, decide_eq_true_eq] at this
      omega
  have HPq : Hid (∀ W : World, Calls Tryd.prog 29 #[.string (bs x.s)] W fun e w' => e = .returned (.string (bs (plainL x.s))) ∧ w' = W) := fun W => qPlain_any x.s (by have := ho.s; omega) W
  have HWh := Lib.hid (fun W => qW_any x.s ho.s W)
  have HTx := Lib.hid (fun W => qT_any x.s (by have := ho.s; omega) W)
  have hsz := bs_size x.s
  obtain ⟨ao, cap, rfl, _⟩ := hv
  rw [List.length_map] at *
  have HOn := ho.n
  have HOl := ho.l
  obtain ⟨kd, n, s, l⟩ := x
  unfold wroteV fieldV putQ at *
  simp only at *
  have HF := Lib.hid ((Below.refl w.heap.size w).alloc (Nat.le_refl _) (.cells #[.int .u8 (kd.toNat : Int), .int .i64 n, .string (bs s), .slice ao l.length cap] 28))
  have HH := Lib.hid (Holds.new w 28 #[.int .u8 (kd.toNat : Int), .int .i64 n, .string (bs s), .slice ao l.length cap])
  obtain ⟨kz, hkz⟩ : ∃ kz : Int, kz = (kd.toNat : Int) := ⟨_, rfl⟩
  rw [← hkz] at HPl HF HH ⊢
  have each : ∀ j : Int, kz = j ∨ (kz == j) = false := fun j => by
    by_cases h : kz = j
    · exact .inl h
    · exact .inr (by simpa using h)
  generalize plainQ ⟨kd, n, s, l⟩ = pl at *
  cases pl with
  | false =>
    rw [if_pos rfl]
    clear HEx HWr HJo HPq HWh HTx each
    clear hkz
    generalize bs s = S at *
    generalize l.length = m at *
    go_enter Tryd.func14, Tryd.ntmps14
    go_wp2_with (go_at_call 26; with_reducible refine (HPl.out _ HF.out).mono ?_; rintro e w1 ⟨rfl, b1⟩; have hb1 := HF.out.trans (b1.mono HF.out.size))
    go_ret2
    exact ⟨rfl, hb1⟩
  | true =>
    rw [if_neg (by simp)]
    rcases each 98 with rfl | h98
    · rw [if_pos (by omega)]
      clear hkz
      clear HEx HWr HJo HPq HWh HTx each
      generalize bs s = S at *
      generalize l.length = m at *
      by_cases h0 : n < 0
      · rw [if_pos (.inl h0)]
        go_enter Tryd.func14, Tryd.ntmps14
        go_wp2_with (go_at_call 26; with_reducible refine (HPl.out _ HF.out).mono ?_; rintro e w1 ⟨rfl, b1⟩; have hb1 := HF.out.trans (b1.mono HF.out.size); have hH := HH.out.moves (Moves.ofBelow (S := nobody) b1) (fun h => h); have c0 := hH.cell 0; have c1 := hH.cell 1; have c2 := hH.cell 2; have c3 := hH.cell 3)
        go_ret2
        exact ⟨rfl, hb1⟩
      by_cases h1 : 1 < n
      · rw [if_pos (.inr h1)]
        have q1 : n > 1 := h1
        go_enter Tryd.func14, Tryd.ntmps14
        go_wp2_with (go_at_call 26; with_reducible refine (HPl.out _ HF.out).mono ?_; rintro e w1 ⟨rfl, b1⟩; have hb1 := HF.out.trans (b1.mono HF.out.size); have hH := HH.out.moves (Moves.ofBelow (S := nobody) b1) (fun h => h); have c0 := hH.cell 0; have c1 := hH.cell 1; have c2 := hH.cell 2; have c3 := hH.cell 3)
        go_ret2
        exact ⟨rfl, hb1⟩
      rw [if_neg (by omega)]
      by_cases hn : n = 1
      · subst hn
        have HBl := Lib.hid (fun W => qBl_any true W)
        clear h0 h1 HOn
        go_enter Tryd.func14, Tryd.ntmps14
        go_wp2_with (first
          | (go_at_call 26; with_reducible refine (HPl.out _ HF.out).mono ?_; rintro e w1 ⟨rfl, b1⟩; have hb1 := HF.out.trans (b1.mono HF.out.size); have hH := HH.out.moves (Moves.ofBelow (S := nobody) b1) (fun h => h); have c0 := hH.cell 0; have c1 := hH.cell 1; have c2 := hH.cell 2; have c3 := hH.cell 3)
          | (go_at_call 27; with_reducible refine (HBl.out _).mono ?_; rintro e w2 ⟨rfl, b2⟩; have hb2 := hb1.trans (b2.mono hb1.size)))
        go_ret2
        exact ⟨rfl, hb2⟩
      · obtain rfl : n = 0 := by omega
        have HBl := Lib.hid (fun W => qBl_any false W)
        clear h0 h1 HOn hn
        go_enter Tryd.func14, Tryd.ntmps14
        go_wp2_with (first
          | (go_at_call 26; with_reducible refine (HPl.out _ HF.out).mono ?_; rintro e w1 ⟨rfl, b1⟩; have hb1 := HF.out.trans (b1.mono HF.out.size); have hH := HH.out.moves (Moves.ofBelow (S := nobody) b1) (fun h => h); have c0 := hH.cell 0; have c1 := hH.cell 1; have c2 := hH.cell 2; have c3 := hH.cell 3)
          | (go_at_call 27; with_reducible refine (HBl.out _).mono ?_; rintro e w2 ⟨rfl, b2⟩; have hb2 := hb1.trans (b2.mono hb1.size)))
        go_ret2
        exact ⟨rfl, hb2⟩
    have g98 : kd.toNat ≠ 98 := by intro h; rw [hkz, h] at h98; simp at h98
    rw [if_neg g98]
    rcases each 117 with rfl | h117
    · rw [if_pos (by omega)]
      clear hkz
      clear HEx HWr HJo HPq HWh HTx each h98
      generalize bs s = S at *
      generalize l.length = m at *
      by_cases h0 : n < 0
      · rw [if_pos (.inl h0)]
        go_enter Tryd.func14, Tryd.ntmps14
        go_wp2_with (go_at_call 26; with_reducible refine (HPl.out _ HF.out).mono ?_; rintro e w1 ⟨rfl, b1⟩; have hb1 := HF.out.trans (b1.mono HF.out.size); have hH := HH.out.moves (Moves.ofBelow (S := nobody) b1) (fun h => h); have c0 := hH.cell 0; have c1 := hH.cell 1; have c2 := hH.cell 2; have c3 := hH.cell 3)
        go_ret2
        exact ⟨rfl, hb1⟩
      by_cases h1 : 4294967295 < n
      · rw [if_pos (.inr h1)]
        have q1 : n > 4294967295 := h1
        go_enter Tryd.func14, Tryd.ntmps14
        go_wp2_with (go_at_call 26; with_reducible refine (HPl.out _ HF.out).mono ?_; rintro e w1 ⟨rfl, b1⟩; have hb1 := HF.out.trans (b1.mono HF.out.size); have hH := HH.out.moves (Moves.ofBelow (S := nobody) b1) (fun h => h); have c0 := hH.cell 0; have c1 := hH.cell 1; have c2 := hH.cell 2; have c3 := hH.cell 3)
        go_ret2
        exact ⟨rfl, hb1⟩
      rw [if_neg (by omega)]
      obtain ⟨j, rfl⟩ : ∃ j : Nat, n = j := ⟨n.toNat, by omega⟩
      have HU := Lib.hid (refU32_any j (by omega))
      have hj : ((j : Int).toNat) = j := by omega
      rw [hj]
      have q0 : ¬ (j : Int) > 4294967295 := by omega
      clear h0 h1 HOn hj
      generalize bs (pack4 j) = PJ at *
      go_enter Tryd.func14, Tryd.ntmps14
      go_wp2_with (first
        | (go_at_call 26; with_reducible refine (HPl.out _ HF.out).mono ?_; rintro e w1 ⟨rfl, b1⟩; have hb1 := HF.out.trans (b1.mono HF.out.size); have hH := HH.out.moves (Moves.ofBelow (S := nobody) b1) (fun h => h); have c0 := hH.cell 0; have c1 := hH.cell 1; have c2 := hH.cell 2; have c3 := hH.cell 3)
        | (go_at_call 28; with_reducible refine (HU.out _).mono ?_; rintro e w2 ⟨rfl, b2⟩; have hb2 := hb1.trans (b2.mono hb1.size)))
      go_ret2
      exact ⟨rfl, hb2⟩
    have g117 : kd.toNat ≠ 117 := by intro h; rw [hkz, h] at h117; simp at h117
    rw [if_neg g117]
    have z98 : (kz == 98) = false := h98
    have z117 : (kz == 117) = false := h117
    clear h98 h117 HOn
    rcases each 109 with rfl | h109
    · rw [if_pos (by omega)]
      clear hkz
      clear HEx HWr HJo HTx each z98 z117
      cases hz : startsZ s with
      | true =>
        rw [if_pos rfl]
        have hq : ((bs (plainL s)).toList == (bs s).toList) = false := same_no fun e => by
          have := (plain_zero s).1 (bs_inj e)
          rw [hz] at this
          cases this
        clear hz HWh
        generalize bs (plainL s) = PS at *
        generalize bs s = S at *
        generalize l.length = m at *
        go_enter Tryd.func14, Tryd.ntmps14
        go_wp2_with (go_at_call 26; with_reducible refine (HPl.out _ HF.out).mono ?_; rintro e w1 ⟨rfl, b1⟩; have hb1 := HF.out.trans (b1.mono HF.out.size); have hH := HH.out.moves (Moves.ofBelow (S := nobody) b1) (fun h => h); have c0 := hH.cell 0; have c1 := hH.cell 1; have c2 := hH.cell 2; have c3 := hH.cell 3)
        go_quiet (first | (go_at_call 29; refine Calls.quiet_of_same (HPq.out _)))
        have hbq := bel_drewN hb1 nq
        go_wp2_with fail
        go_ret2
        exact ⟨rfl, hbq⟩
      | false =>
        rw [if_neg (by simp)]
        have hq : ((bs (plainL s)).toList == (bs s).toList) = true := same_yes (congrArg bs ((plain_zero s).2 hz))
        clear hz
        generalize bs (plainL s) = PS at *
        generalize bs (cnt (wholeL s)) = WS at *
        generalize bs s = S at *
        generalize l.length = m at *
        go_enter Tryd.func14, Tryd.ntmps14
        go_wp2_with (go_at_call 26; with_reducible refine (HPl.out _ HF.out).mono ?_; rintro e w1 ⟨rfl, b1⟩; have hb1 := HF.out.trans (b1.mono HF.out.size); have hH := HH.out.moves (Moves.ofBelow (S := nobody) b1) (fun h => h); have c0 := hH.cell 0; have c1 := hH.cell 1; have c2 := hH.cell 2; have c3 := hH.cell 3)
        go_quiet (first | (go_at_call 29; refine Calls.quiet_of_same (HPq.out _)))
        have hbq := bel_drewN hb1 nq
        have d2 : (w1.drewN nq).cell? ⟨w.heap.size, 2, none⟩ = some (.string S) := c2
        go_wp2_with (go_at_call 30; with_reducible refine (HWh.out _).mono ?_; rintro e w2 ⟨rfl, b2⟩; have hb2 := hbq.trans (b2.mono hbq.size))
        go_ret2
        exact ⟨rfl, hb2⟩
    have g109 : kd.toNat ≠ 109 := by intro h; rw [hkz, h] at h109; simp at h109
    rw [if_neg g109]
    have z109 : (kz == 109) = false := h109
    clear h109
    rcases each 110 with rfl | h110
    · rw [if_pos (by omega)]
      clear hkz
      clear HEx HTx each z98 z117 z109 HPq HWh
      by_cases hc : checkP l = 0
      · rw [if_pos hc]
        rw [hc] at HWr
        have HJo := Lib.hid (HJo.out hc)
        have hjl : (joinL l).length ≤ 1000000 := by
          have h1 := joinL_le 64 l fun x hx => by
            have := (check_all hc).2 x hx
            unfold rightL at this
            rw [Bool.and_eq_true, decide_eq_true_eq] at this
            omega
          have h2 := Nat.mul_le_mul_right (64 + 1) HOl
          omega
        have HTj := Lib.hid (fun W => qT_any (joinL l) hjl W)
        clear hc hjl
        generalize bs (joinL l) = J at *
        generalize bs (cnt (joinL l)) = CJ at *
        generalize bs s = S at *
        generalize l.length = m at *
        go_enter Tryd.func14, Tryd.ntmps14
        go_wp2_with (first
          | (go_at_call 26; with_reducible refine (HPl.out _ HF.out).mono ?_; rintro e w1 ⟨rfl, b1⟩; have hb1 := HF.out.trans (b1.mono HF.out.size); have hH := HH.out.moves (Moves.ofBelow (S := nobody) b1) (fun h => h); have c0 := hH.cell 0; have c1 := hH.cell 1; have c2 := hH.cell 2; have c3 := hH.cell 3)
          | (go_at_call 31; with_reducible refine (HWr.out _ hb1).mono ?_; rintro e w2 ⟨rfl, hw⟩; have hw := hw.symm; subst hw)
          | (go_at_call 33; with_reducible refine (HJo.out _ hb1).mono ?_; rintro e w2 ⟨rfl, hw⟩; have hw := hw.symm; subst hw)
          | (go_at_call 32; with_reducible refine (HTj.out _).mono ?_; rintro e w2 ⟨rfl, b2⟩; have hb2 := hb1.trans (b2.mono hb1.size)))
        go_ret2
        exact ⟨rfl, hb2⟩
      · rw [if_neg hc]
        have hq : ((checkP l : Int) != 0) = true := by rw [bne_iff_ne]; omega
        clear HJo hc
        generalize checkP l = c at *
        generalize bs s = S at *
        generalize l.length = m at *
        go_enter Tryd.func14, Tryd.ntmps14
        go_wp2_with (first
          | (go_at_call 26; with_reducible refine (HPl.out _ HF.out).mono ?_; rintro e w1 ⟨rfl, b1⟩; have hb1 := HF.out.trans (b1.mono HF.out.size); have hH := HH.out.moves (Moves.ofBelow (S := nobody) b1) (fun h => h); have c0 := hH.cell 0; have c1 := hH.cell 1; have c2 := hH.cell 2; have c3 := hH.cell 3)
          | (go_at_call 31; with_reducible refine (HWr.out _ hb1).mono ?_; rintro e w2 ⟨rfl, hw⟩; have hw := hw.symm; subst hw))
        go_ret2
        exact ⟨rfl, hb1⟩
    have g110 : kd.toNat ≠ 110 := by intro h; rw [hkz, h] at h110; simp at h110
    rw [if_neg g110]
    have z110 : (kz == 110) = false := h110
    clear h110 HWr HJo HPq HWh
    rcases each 99 with rfl | h99
    · rw [if_pos (by omega)]
      clear hkz
      clear HEx HTx each z98 z117 z109 z110
      by_cases h16 : s.length = 16
      · rw [if_pos h16]
        have hq : ((s.length : Int) != 16) = false := by rw [h16]; rfl
        clear h16
        generalize s.length = sl at *
        generalize bs s = S at *
        generalize l.length = m at *
        go_enter Tryd.func14, Tryd.ntmps14
        go_wp2_with (go_at_call 26; with_reducible refine (HPl.out _ HF.out).mono ?_; rintro e w1 ⟨rfl, b1⟩; have hb1 := HF.out.trans (b1.mono HF.out.size); have hH := HH.out.moves (Moves.ofBelow (S := nobody) b1) (fun h => h); have c0 := hH.cell 0; have c1 := hH.cell 1; have c2 := hH.cell 2; have c3 := hH.cell 3)
        go_ret2
        exact ⟨rfl, hb1⟩
      · rw [if_neg h16]
        have hq : ((s.length : Int) != 16) = true := by rw [bne_iff_ne]; omega
        clear h16
        generalize s.length = sl at *
        generalize bs s = S at *
        generalize l.length = m at *
        go_enter Tryd.func14, Tryd.ntmps14
        go_wp2_with (go_at_call 26; with_reducible refine (HPl.out _ HF.out).mono ?_; rintro e w1 ⟨rfl, b1⟩; have hb1 := HF.out.trans (b1.mono HF.out.size); have hH := HH.out.moves (Moves.ofBelow (S := nobody) b1) (fun h => h); have c0 := hH.cell 0; have c1 := hH.cell 1; have c2 := hH.cell 2; have c3 := hH.cell 3)
        go_ret2
        exact ⟨rfl, hb1⟩
    have g99 : kd.toNat ≠ 99 := by intro h; rw [hkz, h] at h99; simp at h99
    rw [if_neg g99]
    have z99 : (kz == 99) = false := h99
    clear h99
    rcases each 101 with rfl | h101
    · rw [if_pos (by omega)]
      clear hkz
      clear HTx each z98 z117 z109 z110 z99
      generalize extsP l = p at *
      obtain ⟨ps, pn⟩ := p
      simp only at *
      generalize bs ps = PS at *
      generalize bs s = S at *
      generalize l.length = m at *
      go_enter Tryd.func14, Tryd.ntmps14
      go_wp2_with (first
        | (go_at_call 26; with_reducible refine (HPl.out _ HF.out).mono ?_; rintro e w1 ⟨rfl, b1⟩; have hb1 := HF.out.trans (b1.mono HF.out.size); have hH := HH.out.moves (Moves.ofBelow (S := nobody) b1) (fun h => h); have c0 := hH.cell 0; have c1 := hH.cell 1; have c2 := hH.cell 2; have c3 := hH.cell 3)
        | (go_at_call 34; with_reducible refine (HEx.out _ hb1).mono ?_; rintro e w2 ⟨rfl, b2⟩; have hb2 := hb1.trans (b2.mono hb1.size)))
      go_ret2
      exact ⟨rfl, hb2⟩
    have g101 : kd.toNat ≠ 101 := by intro h; rw [hkz, h] at h101; simp at h101
    rw [if_neg g101]
    have z101 : (kz == 101) = false := h101
    clear h101 each g98 g117 g109 g110 g99 g101 HEx
    clear hkz
    generalize bs (cnt s) = CS at *
    generalize bs s = S at *
    generalize l.length = m at *
    go_enter Tryd.func14, Tryd.ntmps14
    go_wp2_with (first
      | (go_at_call 26; with_reducible refine (HPl.out _ HF.out).mono ?_; rintro e w1 ⟨rfl, b1⟩; have hb1 := HF.out.trans (b1.mono HF.out.size); have hH := HH.out.moves (Moves.ofBelow (S := nobody) b1) (fun h => h); have c0 := hH.cell 0; have c1 := hH.cell 1; have c2 := hH.cell 2; have c3 := hH.cell 3)
      | (go_at_call 32; with_reducible refine (HTx.out _).mono ?_; rintro e w2 ⟨rfl, b2⟩; have hb2 := hb1.trans (b2.mono hb1.size)))
    go_ret2
    exact ⟨rfl, hb2⟩
end Go.Proofs.YtkdbmfgbokbnfaaDoor
