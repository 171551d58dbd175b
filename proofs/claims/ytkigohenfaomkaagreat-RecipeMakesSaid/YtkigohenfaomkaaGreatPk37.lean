/- Part 37 of what the statement wants. -/
import Derived.Laws.AppendOwn
import Derived.Test.YtkigohenfaomkaaGreatPk05
import Derived.Test.YtkigohenfaomkaaGreatPk13
import Derived.Test.YtkigohenfaomkaaGreatPk21
import Derived.Test.YtkigohenfaomkaaGreatPk36
namespace Go.Proofs.YtkigohenfaomkaaGreat
open Go.RowKit

theorem atT_no {l : List (List UInt8)} {i : Int} (h : i < 0 ∨ (l.length : Int) ≤ i) : atT l i = [] := if_neg (by omega)
theorem atT_at {l : List (List UInt8)} {k : Nat} (h : k < l.length) : atT l (k : Int) = l[k] := by
  unfold atT
  rw [if_pos (by omega)]
  simp [h]
set_option maxRecDepth 100000 in
theorem r14At_any {w : World} {v : Value} {l : List (List UInt8)} (hv : TextsAt w v (l.map bs)) (i : Int) : Calls Tryz.prog 62 #[v, .int .i64 i] w fun r w' => r = .returned (.string (bs (atT l i))) ∧ w' = w := by
  obtain ⟨ao, cap, rfl, hc⟩ := hv
  rw [List.length_map] at *
  by_cases h : i < 0 ∨ (l.length : Int) ≤ i
  · rw [atT_no h]
    rw [show bs ([] : List UInt8) = ⟨#[]⟩ from rfl]
    clear hc
    generalize l.length = n at *
    by_cases h0 : i < 0
    · have q : decide (i < 0) = true := decide_eq_true h0
      clear h
      go_enter Tryz.func62, Tryz.ntmps62
      go_wp2
      go_ret
      exact ⟨rfl, rfl⟩
    · have q : decide (i < 0) = false := decide_eq_false h0
      have q2 : decide ((n : Int) ≤ i) = true := decide_eq_true (by omega)
      clear h
      go_enter Tryz.func62, Tryz.ntmps62
      go_wp2
      go_ret
      exact ⟨rfl, rfl⟩
  · obtain ⟨k, rfl⟩ : ∃ k : Nat, i = k := ⟨i.toNat, by omega⟩
    have hk : k < l.length := by omega
    rw [atT_at hk]
    obtain ⟨b, off, rfl, hb, hat⟩ := hc (by intro e; simp at e; rw [e] at hk; simp at hk)
    have c0 := hat k (bs l[k]) (by simp [hk])
    have q2 : decide (l.length ≤ k) = false := decide_eq_false (by omega)
    generalize bs l[k] = x at *
    clear hat h
    generalize l.length = n at *
    go_enter Tryz.func62, Tryz.ntmps62
    go_wp2
    go_ret
    exact ⟨rfl, rfl⟩
/-- What the walks ask of a text: each term's text has it. -/
structure OkT (t : List UInt8) : Prop where
  len : t.length ≤ 131072
  exp : t.length ≤ 10000 ∨ kindL t ≠ 2
  raise : Raisable t
  two : kindL t = 9 → ∃ a b, (nodeOf t).args = [a, b]
  few : (nodeOf t).args.length ≤ 900
  short : ∀ a ∈ (nodeOf t).args, a.length ≤ 131072
theorem TextsO.own {base : Nat} {w : World} {v : Value} {l : List ByteArray} (h : TextsO base w v l) : w.ownsRow base 9 1 v l.length (strs l) := by
  obtain ⟨_, B, hB, hown⟩ := h
  refine ⟨hown.1, ?_⟩
  rcases hown.2 with h | ⟨g, cap, cur, h1, h2, h3⟩
  · exact .inl h
  · exact .inr ⟨g, cap, cur, h1, by omega, h3⟩
theorem rp_index (s : List UInt8) (ch : UInt8) (W : World) : (Instr.index 9 (.string (bs (ch :: s))) (.int .i64 0)).run Tryz.prog W = .ok (.int .u8 (ch.toNat : Int)) W := index_bs (ch :: s) 0 (by simp) W
theorem rp_field (k0 a0 b0 : Int) (s0 : ByteArray) (ao : Option Addr) (n cap : Nat) (W : World) :
    (Instr.field 107 (.agg #[.int .i64 k0, .int .i64 a0, .int .i64 b0, .string s0, .slice ao n cap]) 4).run Tryz.prog W = .ok (.slice ao n cap) W := by
  kernel_rfl
theorem rpNe {a b : ByteArray} (h : a ≠ b) : (a.toList == b.toList) = false := by
  rw [beq_eq_false_iff_ne]
  intro e
  rw [ByteArray.toList_eq, ByteArray.toList_eq] at e
  exact h (ByteArray.ext (Array.ext' e))

set_option maxHeartbeats 4000000 in
set_option maxRecDepth 100000 in
theorem r14More_any {w : World} {vm : Value} {mt : List (List UInt8)} (hm : TextsAt w vm (mt.map bs)) (o : OpR) (hsz : o.s.length ≤ 10000) (hok : ∀ i, OkT (atT mt i)) :
    Calls Tryz.prog 63 #[vm, o.value] w fun e w' => e = .returned (.string (bs (moreT mt o))) ∧ Below w.heap.size w w' := by
  obtain ⟨K, a, b, c, s⟩ := o
  unfold OpR.value OpR.cells at *
  simp only at *
  have hO := Holds.new w 43 #[.int .i64 K, .int .i64 a, .int .i64 b, .int .i64 c, .string (bs s)]
  have b0 : Below w.heap.size w (w.alloc (.cells #[.int .i64 K, .int .i64 a, .int .i64 b, .int .i64 c, .string (bs s)] 43)) := (Below.refl _ w).alloc (Nat.le_refl _) _
  obtain ⟨W0, hW0⟩ : ∃ W0, Hid (W0 = w.alloc (.cells #[.int .i64 K, .int .i64 a, .int .i64 b, .int .i64 c, .string (bs s)] 43)) := ⟨_, Lib.hid rfl⟩
  obtain ⟨X, hXe⟩ : ∃ X, Hid (X = w.heap.size) := ⟨_, Lib.hid rfl⟩
  rw [← hW0.out] at hO b0
  rw [← hXe.out] at hO
  have HAa := Lib.hid (r14At_any (hm.below b0) a)
  have HAb := Lib.hid (r14At_any (hm.below b0) b)
  have HAd := Lib.hid (r14At_any ((hm.below b0).drew) c)
  have HP := Lib.hid (hok a)
  have HQ := Lib.hid (hok b)
  have HR := Lib.hid (hok c)
  have HB0 := Lib.hid b0
  have HKp := Lib.hid (fun W => refKind_any (atT mt a) W)
  have HVp := Lib.hid (fun W => refView_own (atT mt a) (by have := HP.out.len; omega) W)
  have HO := Lib.hid hO
  have o0 := hO.cell 0
  have o1 := hO.cell 1
  have o2 := hO.cell 2
  have o3 := hO.cell 3
  have o4 := hO.cell 4
  clear hm hok hO b0
  by_cases k9 : K = 9
  · subst k9
    have HT : Hid (moreT mt ⟨9, a, b, c, s⟩ = deriveT s (atT mt a) (atT mt b) (atT mt c)) := by unfold moreT Hid; simp
    rw [HT.out]
    cases s with
    | nil =>
      have q0 : (bs ([] : List UInt8)).size = 0 := rfl
      show Calls _ _ _ _ fun e w' => e = .returned (.string (bs [])) ∧ _
      rw [show bs ([] : List UInt8) = ⟨#[]⟩ from rfl] at *
      clear HT HKp HVp
      generalize bs (atT mt a) = P at *
      generalize bs (atT mt b) = Q at *
      go_enter Tryz.func63, Tryz.ntmps63
      go_wp2_with fail
      rw [← hW0.out, ← hXe.out]
      go_wp2_with (first | (go_at_call 62; (with_reducible refine HAa.out.mono ?_); rintro e w' ⟨rfl, hw⟩; have hw := hw.symm; subst hw) | (go_at_call 62; (with_reducible refine HAb.out.mono ?_); rintro e w' ⟨rfl, hw⟩; have hw := hw.symm; subst hw))
      go_ret
      exact ⟨rfl, HB0.out⟩
    | cons ch r =>
      have q0 : (bs (ch :: r)).size = r.length + 1 := by rw [bs_size]; rfl
      have hix := rp_index r ch
      have HC := Lib.hid (fun (W : World) => refDerive_any ch (atT mt a) (atT mt b) (atT mt c) (by have := HP.out.len; omega) (by have := HQ.out.len; omega) (by have := HR.out.len; omega) W)
      show Calls _ _ _ _ fun e w' => e = .returned (.string (bs (refDeriveL ch (atT mt a) (atT mt b) (atT mt c)))) ∧ _
      generalize refDeriveL ch (atT mt a) (atT mt b) (atT mt c) = T at *
      clear HT HKp HVp HP HQ HR
      generalize bs (atT mt a) = P at *
      generalize bs (atT mt b) = Q at *
      generalize bs (atT mt c) = R at *
      generalize bs (ch :: r) = S at *
      have d3 : W0.drew.cell? ⟨X, 3, none⟩ = some (.int .i64 c) := o3
      have d4 : W0.drew.cell? ⟨X, 4, none⟩ = some (.string S) := o4
      have HK : Hid (∀ W, Below W0.heap.size W0 W → W.cell? ⟨X, 3, none⟩ = some (.int .i64 c) ∧ W.cell? ⟨X, 4, none⟩ = some (.string S)) := fun W hb => by
        have h := HO.out.moves (S := nobody) (Moves.ofBelow hb) (fun h => h)
        exact ⟨h.cell 3, h.cell 4⟩
      have HD := Lib.hid ((Below.refl W0.heap.size W0).drew)
      go_enter Tryz.func63, Tryz.ntmps63
      go_wp2_with fail
      rw [← hW0.out, ← hXe.out]
      go_wp2_with (first | (go_at_call 62; (with_reducible refine HAa.out.mono ?_); rintro e w' ⟨rfl, hw⟩; have hw := hw.symm; subst hw) | (go_at_call 62; (with_reducible refine HAb.out.mono ?_); rintro e w' ⟨rfl, hw⟩; have hw := hw.symm; subst hw))
      go_region_held3 (fun w' => w'.cell? ⟨X, 3, none⟩ = some (.int .i64 c) ∧ w'.cell? ⟨X, 4, none⟩ = some (.string S))
        (first | with_reducible exact ⟨d3, d4⟩ | with_reducible exact ⟨z3, z4⟩ | go_keep)
        (first
          | (go_at_call 62; (with_reducible refine HAd.out.mono ?_); rintro e w' ⟨rfl, hw⟩; have hw := hw.symm; subst hw)
          | (go_at_call 50; (with_reducible refine (HC.out _).mono ?_); rintro e w5 ⟨rfl, b5⟩; have hb5 := HD.out.trans (b5.mono HD.out.size); obtain ⟨z3, z4⟩ := HK.out _ hb5; have HB5 := Lib.hid hb5; clear hb5 b5))
      all_goals
        go_wp2_with fail
        go_ret
        exact ⟨rfl, HB0.out.trans (HB5.out.mono HB0.out.size)⟩
  by_cases k10 : K = 10
  · subst k10
    by_cases hc : c < 0 ∨ 4294967295 < c
    · have HT : Hid (moreT mt ⟨10, a, b, c, s⟩ = []) := by unfold moreT Hid; simp [hc]
      rw [HT.out, show bs ([] : List UInt8) = ⟨#[]⟩ from rfl]
      clear HT HKp HVp
      generalize bs (atT mt a) = P at *
      generalize bs (atT mt b) = Q at *
      generalize bs s = S at *
      by_cases h0 : c < 0
      · have q1 : decide (c < 0) = true := decide_eq_true h0
        clear hc
        go_enter Tryz.func63, Tryz.ntmps63
        go_wp2_with fail
        rw [← hW0.out, ← hXe.out]
        go_wp2_with (first | (go_at_call 62; (with_reducible refine HAa.out.mono ?_); rintro e w' ⟨rfl, hw⟩; have hw := hw.symm; subst hw) | (go_at_call 62; (with_reducible refine HAb.out.mono ?_); rintro e w' ⟨rfl, hw⟩; have hw := hw.symm; subst hw))
        go_ret
        exact ⟨rfl, HB0.out⟩
      · have q1 : decide (c < 0) = false := decide_eq_false h0
        have q2 : decide (c > 4294967295) = true := decide_eq_true (by omega)
        clear hc
        go_enter Tryz.func63, Tryz.ntmps63
        go_wp2_with fail
        rw [← hW0.out, ← hXe.out]
        go_wp2_with (first | (go_at_call 62; (with_reducible refine HAa.out.mono ?_); rintro e w' ⟨rfl, hw⟩; have hw := hw.symm; subst hw) | (go_at_call 62; (with_reducible refine HAb.out.mono ?_); rintro e w' ⟨rfl, hw⟩; have hw := hw.symm; subst hw))
        go_ret
        exact ⟨rfl, HB0.out⟩
    · obtain ⟨n, rfl⟩ : ∃ n : Nat, c = n := ⟨c.toNat, by omega⟩
      have hn : n ≤ 4294967295 := by omega
      have HT : Hid (moreT mt ⟨10, a, b, n, s⟩ = refSealL (atT mt a) n (atT mt b)) := by unfold moreT Hid; simp [hc]
      rw [HT.out]
      have HC := Lib.hid (fun (W : World) => refSeal_any (atT mt a) (atT mt b) n (by have := HP.out.len; omega) (by have := HQ.out.len; omega) (by omega) W)
      have hcv := conv_seq n hn
      have q1 : decide ((n : Int) < 0) = false := decide_eq_false (by omega)
      have q2 : decide ((n : Int) > 4294967295) = false := decide_eq_false (by omega)
      clear HT HKp HVp hc
      generalize refSealL (atT mt a) n (atT mt b) = T at *
      generalize bs (atT mt a) = P at *
      generalize bs (atT mt b) = Q at *
      generalize bs s = S at *
      go_enter Tryz.func63, Tryz.ntmps63
      go_wp2_with fail
      rw [← hW0.out, ← hXe.out]
      go_wp2_with (first
        | (go_at_call 62; (with_reducible refine HAa.out.mono ?_); rintro e w' ⟨rfl, hw⟩; have hw := hw.symm; subst hw)
        | (go_at_call 62; (with_reducible refine HAb.out.mono ?_); rintro e w' ⟨rfl, hw⟩; have hw := hw.symm; subst hw)
        | (go_at_call 51; (with_reducible refine (HC.out _).mono ?_); rintro e w5 ⟨rfl, b5⟩))
      go_ret
      exact ⟨rfl, HB0.out.trans (b5.mono HB0.out.size)⟩
  by_cases k11 : K = 11
  · subst k11
    have HT : Hid (moreT mt ⟨11, a, b, c, s⟩ = openT (atT mt a) (atT mt b)) := by unfold moreT Hid; simp
    rw [HT.out]
    unfold openT
    by_cases h9 : kindL (atT mt a) = 9
    · rw [if_pos h9]
      obtain ⟨y0, y1, hy⟩ := HP.out.two h9
      have q9 : ((kindL (atT mt a) : Int) == 9) = true := by rw [h9]; rfl
      have hne : ∀ W, Calls Tryz.prog 78 #[.string (bs (atT mt a))] W fun e w' => ∃ (ao : Option Addr) (cap bk og : Nat) (k0 a0 b0 : Int) (s0 : ByteArray), e = .returned (.agg #[.int .i64 k0, .int .i64 a0, .int .i64 b0, .string s0, .slice ao 2 cap]) ∧ ao = some ⟨bk, og, none⟩ ∧ bk < w'.heap.size ∧ w'.cell? ⟨bk, og + 0, none⟩ = some (.string (bs y0)) ∧ w'.cell? ⟨bk, og + 1, none⟩ = some (.string (bs y1)) ∧ Below W.heap.size W w' := fun W => (HVp.out W).mono fun e w' ⟨v, h1, h2, h3⟩ => by
        rw [hy] at h2
        obtain ⟨ao, cap, rfl, hcl⟩ := h2.1
        obtain ⟨bk, og, rfl, hbk, hat⟩ := hcl (by simp)
        exact ⟨_, cap, bk, og, _, _, _, _, h1, rfl, hbk, hat 0 _ rfl, hat 1 _ rfl, h3⟩
      have HN := Lib.hid hne
      rw [hy]
      show Calls _ _ _ _ fun e w' => e = .returned (.string (bs (if y0 = atT mt b then y1 else []))) ∧ _
      clear HT HVp hne hy
      by_cases he : y0 = atT mt b
      · rw [if_pos he]
        have qe : ((bs y0).toList == (bs (atT mt b)).toList) = true := by rw [he]; simp
        clear he h9
        go_enter Tryz.func63, Tryz.ntmps63
        go_wp2_with fail
        rw [← hW0.out, ← hXe.out]
        go_wp2_with (first
          | (go_at_call 62; (with_reducible refine HAa.out.mono ?_); rintro e w' ⟨rfl, hw⟩; have hw := hw.symm; subst hw)
          | (go_at_call 62; (with_reducible refine HAb.out.mono ?_); rintro e w' ⟨rfl, hw⟩; have hw := hw.symm; subst hw)
          | (go_at_call 73; (with_reducible refine (HKp.out _).mono ?_); rintro e w' ⟨rfl, hw⟩; have hw := hw.symm; subst hw)
          | (go_at_call 78; (with_reducible refine (HN.out _).mono ?_); rintro e w5 ⟨ao, cap, bk, og, k0, a0, b0, s0, rfl, rfl, hbk, c50, c51, b5⟩; have hn5 := Holds.new w5 107 #[.int .i64 k0, .int .i64 a0, .int .i64 b0, .string s0, .slice (some ⟨bk, og, none⟩) 2 cap]; have n4 := hn5.cell 4; have hb6 := (Below.refl w5.heap.size w5).alloc (Nat.le_refl _) (.cells #[.int .i64 k0, .int .i64 a0, .int .i64 b0, .string s0, .slice (some ⟨bk, og, none⟩) 2 cap] 107); have c60 := (hb6.cell (p := ⟨bk, og + 0, none⟩) hbk).trans c50; have c61 := (hb6.cell (p := ⟨bk, og + 1, none⟩) hbk).trans c51; rw [Nat.add_zero] at c60; have HB6 := Lib.hid (b5.trans (hb6.mono b5.size)); clear b5 hb6 c50 c51 hn5))
        go_ret
        exact ⟨rfl, HB0.out.trans (HB6.out.mono HB0.out.size)⟩
      · rw [if_neg he]
        have qe : ((bs y0).toList == (bs (atT mt b)).toList) = false := rpNe fun e => he (bs_inj e)
        rw [show bs ([] : List UInt8) = ⟨#[]⟩ from rfl]
        clear he h9
        go_enter Tryz.func63, Tryz.ntmps63
        go_wp2_with fail
        rw [← hW0.out, ← hXe.out]
        go_wp2_with (first
          | (go_at_call 62; (with_reducible refine HAa.out.mono ?_); rintro e w' ⟨rfl, hw⟩; have hw := hw.symm; subst hw)
          | (go_at_call 62; (with_reducible refine HAb.out.mono ?_); rintro e w' ⟨rfl, hw⟩; have hw := hw.symm; subst hw)
          | (go_at_call 73; (with_reducible refine (HKp.out _).mono ?_); rintro e w' ⟨rfl, hw⟩; have hw := hw.symm; subst hw)
          | (go_at_call 78; (with_reducible refine (HN.out _).mono ?_); rintro e w5 ⟨ao, cap, bk, og, k0, a0, b0, s0, rfl, rfl, hbk, c50, c51, b5⟩; have hn5 := Holds.new w5 107 #[.int .i64 k0, .int .i64 a0, .int .i64 b0, .string s0, .slice (some ⟨bk, og, none⟩) 2 cap]; have n4 := hn5.cell 4; have hb6 := (Below.refl w5.heap.size w5).alloc (Nat.le_refl _) (.cells #[.int .i64 k0, .int .i64 a0, .int .i64 b0, .string s0, .slice (some ⟨bk, og, none⟩) 2 cap] 107); have c60 := (hb6.cell (p := ⟨bk, og + 0, none⟩) hbk).trans c50; rw [Nat.add_zero] at c60; have HB6 := Lib.hid (b5.trans (hb6.mono b5.size)); clear b5 hb6 c50 c51 hn5))
        go_ret
        exact ⟨rfl, HB0.out.trans (HB6.out.mono HB0.out.size)⟩
    · rw [if_neg h9, show bs ([] : List UInt8) = ⟨#[]⟩ from rfl]
      have q9 : ((kindL (atT mt a) : Int) == 9) = false := by simp; omega
      clear HT HVp h9
      go_enter Tryz.func63, Tryz.ntmps63
      go_wp2_with fail
      rw [← hW0.out, ← hXe.out]
      go_wp2_with (first
        | (go_at_call 62; (with_reducible refine HAa.out.mono ?_); rintro e w' ⟨rfl, hw⟩; have hw := hw.symm; subst hw)
        | (go_at_call 62; (with_reducible refine HAb.out.mono ?_); rintro e w' ⟨rfl, hw⟩; have hw := hw.symm; subst hw)
        | (go_at_call 73; (with_reducible refine (HKp.out _).mono ?_); rintro e w' ⟨rfl, hw⟩; have hw := hw.symm; subst hw))
      go_ret
      exact ⟨rfl, HB0.out⟩
  by_cases k13 : K = 13
  · subst k13
    have HT : Hid (moreT mt ⟨13, a, b, c, s⟩ = if kindL (atT mt a) = 10 then refListL ((nodeOf (atT mt a)).args ++ [atT mt b]) else []) := by unfold moreT Hid; simp
    rw [HT.out]
    by_cases h10 : kindL (atT mt a) = 10
    · rw [if_pos h10]
      have q10 : ((kindL (atT mt a) : Int) == 10) = true := by rw [h10]; rfl
      obtain ⟨l, hl⟩ : ∃ l, l = (nodeOf (atT mt a)).args := ⟨_, rfl⟩
      rw [← hl]
      have hlf : l.length ≤ 900 := by rw [hl]; exact HP.out.few
      have hV : ∀ W, Calls Tryz.prog 78 #[.string (bs (atT mt a))] W fun e w' => ∃ (ao : Option Addr) (cap : Nat) (k0 a0 b0 : Int) (s0 : ByteArray), e = .returned (.agg #[.int .i64 k0, .int .i64 a0, .int .i64 b0, .string s0, .slice ao l.length cap]) ∧ TextsAt w' (.slice ao l.length cap) (l.map bs) ∧ w'.ownsRow W.heap.size 9 1 (.slice ao l.length cap) l.length (strs (l.map bs)) ∧ Below W.heap.size W w' := fun W => (HVp.out W).mono fun e w' ⟨v, h1, h2, h3⟩ => by
        rw [← hl] at h2
        have ho := h2.own
        obtain ⟨ao, cap, rfl, hcl⟩ := id h2.1
        rw [List.length_map] at *
        exact ⟨ao, cap, _, _, _, _, h1, h2.1, ho, h3⟩
      have HV := Lib.hid hV
      have HLs : Hid (∀ x ∈ l ++ [atT mt b], x.length ≤ 200000) := fun x hx => by
        rcases List.mem_append.1 hx with hx | hx
        · have := HP.out.short x (by rw [← hl]; exact hx); omega
        · rw [List.mem_singleton.1 hx]; have := HQ.out.len; omega
      have HL6 : Hid (∀ W v, World.ownsRow W W0.heap.size 9 1 v (l.length + 1) (strs (l.map bs) ++ [.string (bs (atT mt b))]) → TextsAt W v ((l ++ [atT mt b]).map bs)) := fun W v h => by
        have e : strs ((l ++ [atT mt b]).map bs) = strs (l.map bs) ++ [.string (bs (atT mt b))] := by rw [List.map_append, List.map_cons, List.map_nil, strs_snoc]
        refine TextsAt.ofRow (base := W0.heap.size) ?_ (fun e => by simp at e)
        rw [e]
        simpa using h
      obtain ⟨i0, hi, hz0, hz1, hz2⟩ := info_parts infoStr
      clear HT HVp h10 hV hl
      go_enter Tryz.func63, Tryz.ntmps63
      go_wp2_with fail
      rw [← hW0.out, ← hXe.out]
      go_wp2_with (first
        | (go_at_call 62; (with_reducible refine HAa.out.mono ?_); rintro e w' ⟨rfl, hw⟩; have hw := hw.symm; subst hw)
        | (go_at_call 62; (with_reducible refine HAb.out.mono ?_); rintro e w' ⟨rfl, hw⟩; have hw := hw.symm; subst hw)
        | (go_at_call 73; (with_reducible refine (HKp.out _).mono ?_); rintro e w' ⟨rfl, hw⟩; have hw := hw.symm; subst hw)
        | (go_at_call 78; (with_reducible refine (HV.out _).mono ?_); rintro e w5 ⟨ao, cap, k0, a0, b0, s0, rfl, hT5, ho5, b5⟩; have hO5 := HO.out.moves (S := nobody) (Moves.ofBelow b5) (fun h => h); have c50 := hO5.cell 0; have c52 := hO5.cell 2; have hs5 := b5.size; have hfl := rp_field k0 a0 b0 s0 ao l.length cap; have HB5 := Lib.hid b5; have HT5 := Lib.hid hT5; have HO5 := Lib.hid ho5; clear b5 hO5 hT5 ho5)
        | (at_builtin; refine wpList_append_own _ rfl _ _ 30 rfl W0.heap.size 9 i0 (.string ⟨#[]⟩) 1 16 Tryz.underlying30 hi hz0 hz1 hz2 rfl (by decide) _ _ _ rfl (HO5.out.alloc _) ⟨w5.heap.size, 0, none⟩ 1 1 [.string (bs (atT mt b))] rfl rfl (cell_one_new w5 _ _) (str_one _) (by unfold maxLen; omega) (by omega) (by simp; omega) ?_; intro v6 w6 ho6 hg6 hn6; have b6 := (HB5.out.alloc HB5.out.size _).grown hg6 (by simp; omega) (fun j hj => (HO5.out.lt j hj).1); have HB6 := Lib.hid b6; have HT6 := Lib.hid (HL6.out w6 v6 ho6); obtain ⟨p6, n6, c6, rfl⟩ := row_slice ho6; clear b6 ho6 hg6 hn6)
        | (go_at_call 52; (with_reducible refine (refList_any (l := l ++ [atT mt b]) HT6.out (by simp; omega) HLs.out).mono ?_); rintro e w7 ⟨rfl, b7⟩; have HB7 := Lib.hid (HB6.out.trans (b7.mono HB6.out.size)); clear b7))
      go_ret
      exact ⟨rfl, HB0.out.trans (HB7.out.mono HB0.out.size)⟩
    · rw [if_neg h10, show bs ([] : List UInt8) = ⟨#[]⟩ from rfl]
      have q10 : ((kindL (atT mt a) : Int) == 10) = false := by simp; omega
      clear HT HVp h10
      go_enter Tryz.func63, Tryz.ntmps63
      go_wp2_with fail
      rw [← hW0.out, ← hXe.out]
      go_wp2_with (first
        | (go_at_call 62; (with_reducible refine HAa.out.mono ?_); rintro e w' ⟨rfl, hw⟩; have hw := hw.symm; subst hw)
        | (go_at_call 62; (with_reducible refine HAb.out.mono ?_); rintro e w' ⟨rfl, hw⟩; have hw := hw.symm; subst hw)
        | (go_at_call 73; (with_reducible refine (HKp.out _).mono ?_); rintro e w' ⟨rfl, hw⟩; have hw := hw.symm; subst hw))
      go_ret
      exact ⟨rfl, HB0.out⟩
  by_cases k14 : K = 14
  · subst k14
    have HT : Hid (moreT mt ⟨14, a, b, c, s⟩ = if kindL (atT mt a) = 10 then atT (nodeOf (atT mt a)).args b else []) := by unfold moreT Hid; simp
    rw [HT.out]
    by_cases h10 : kindL (atT mt a) = 10
    · rw [if_pos h10]
      have q10 : ((kindL (atT mt a) : Int) == 10) = true := by rw [h10]; rfl
      obtain ⟨l, hl⟩ : ∃ l, l = (nodeOf (atT mt a)).args := ⟨_, rfl⟩
      rw [← hl]
      have hlf : l.length ≤ 900 := by rw [hl]; exact HP.out.few
      have hV : ∀ W, Calls Tryz.prog 78 #[.string (bs (atT mt a))] W fun e w' => ∃ (ao : Option Addr) (cap : Nat) (k0 a0 b0 : Int) (s0 : ByteArray), e = .returned (.agg #[.int .i64 k0, .int .i64 a0, .int .i64 b0, .string s0, .slice ao l.length cap]) ∧ TextsAt w' (.slice ao l.length cap) (l.map bs) ∧ w'.ownsRow W.heap.size 9 1 (.slice ao l.length cap) l.length (strs (l.map bs)) ∧ Below W.heap.size W w' := fun W => (HVp.out W).mono fun e w' ⟨v, h1, h2, h3⟩ => by
        rw [← hl] at h2
        have ho := h2.own
        obtain ⟨ao, cap, rfl, hcl⟩ := id h2.1
        rw [List.length_map] at *
        exact ⟨ao, cap, _, _, _, _, h1, h2.1, ho, h3⟩
      have HV := Lib.hid hV
      clear HT HVp h10 hV hl
      go_enter Tryz.func63, Tryz.ntmps63
      go_wp2_with fail
      rw [← hW0.out, ← hXe.out]
      go_wp2_with (first
        | (go_at_call 62; (with_reducible refine HAa.out.mono ?_); rintro e w' ⟨rfl, hw⟩; have hw := hw.symm; subst hw)
        | (go_at_call 62; (with_reducible refine HAb.out.mono ?_); rintro e w' ⟨rfl, hw⟩; have hw := hw.symm; subst hw)
        | (go_at_call 73; (with_reducible refine (HKp.out _).mono ?_); rintro e w' ⟨rfl, hw⟩; have hw := hw.symm; subst hw)
        | (go_at_call 78; (with_reducible refine (HV.out _).mono ?_); rintro e w5 ⟨ao, cap, k0, a0, b0, s0, rfl, hT5, ho5, b5⟩; have hO5 := HO.out.moves (S := nobody) (Moves.ofBelow b5) (fun h => h); have c50 := hO5.cell 0; have c52 := hO5.cell 2; have hs5 := b5.size; have hfl := rp_field k0 a0 b0 s0 ao l.length cap; have HB5 := Lib.hid b5; have HT5 := Lib.hid hT5; have HO5 := Lib.hid ho5; clear b5 hO5 hT5 ho5)
        | (go_at_call 62; (with_reducible refine (r14At_any HT5.out b).mono ?_); rintro e w' ⟨rfl, hw⟩; have hw := hw.symm; subst hw))
      go_ret
      exact ⟨rfl, HB0.out.trans (HB5.out.mono HB0.out.size)⟩
    · rw [if_neg h10, show bs ([] : List UInt8) = ⟨#[]⟩ from rfl]
      have q10 : ((kindL (atT mt a) : Int) == 10) = false := by simp; omega
      clear HT HVp h10
      go_enter Tryz.func63, Tryz.ntmps63
      go_wp2_with fail
      rw [← hW0.out, ← hXe.out]
      go_wp2_with (first
        | (go_at_call 62; (with_reducible refine HAa.out.mono ?_); rintro e w' ⟨rfl, hw⟩; have hw := hw.symm; subst hw)
        | (go_at_call 62; (with_reducible refine HAb.out.mono ?_); rintro e w' ⟨rfl, hw⟩; have hw := hw.symm; subst hw)
        | (go_at_call 73; (with_reducible refine (HKp.out _).mono ?_); rintro e w' ⟨rfl, hw⟩; have hw := hw.symm; subst hw))
      go_ret
      exact ⟨rfl, HB0.out⟩
  have HT : Hid (moreT mt ⟨K, a, b, c, s⟩ = []) := by
    unfold moreT Hid
    simp only
    rw [if_neg k9, if_neg k10, if_neg k11, if_neg k13, if_neg k14]
  rw [HT.out, show bs ([] : List UInt8) = ⟨#[]⟩ from rfl]
  have q9 : (K == 9) = false := by simpa using k9
  have q10 : (K == 10) = false := by simpa using k10
  have q11 : (K == 11) = false := by simpa using k11
  have q13 : (K == 13) = false := by simpa using k13
  have q14 : (K == 14) = false := by simpa using k14
  clear HT HVp HKp k9 k10 k11 k13 k14
  go_enter Tryz.func63, Tryz.ntmps63
  go_wp2_with fail
  rw [← hW0.out, ← hXe.out]
  go_wp2_with (first
    | (go_at_call 62; (with_reducible refine HAa.out.mono ?_); rintro e w' ⟨rfl, hw⟩; have hw := hw.symm; subst hw)
    | (go_at_call 62; (with_reducible refine HAb.out.mono ?_); rintro e w' ⟨rfl, hw⟩; have hw := hw.symm; subst hw))
  go_ret
  exact ⟨rfl, HB0.out⟩
end Go.Proofs.YtkigohenfaomkaaGreat
