/- Part 30 of what the statement wants. -/
import Derived.Deep.RegionHeld3
import Derived.Test.YtbhekicoohcaeaaPk29
namespace Go.Proofs.Ytbhekicoohcaeaa
open Go.RowKit

def freshL (s x : Int) : List UInt8 := if s < 0 ∨ s ≥ 2147483647 then [] else refNonceL (s + 1) x
def offerL (g x : List UInt8) : List UInt8 := refExpL (refBaseL g) x
/-- An acceptable share of a group. -/
def rightB (g t : List UInt8) : Bool := decide (kindL t = 5 ∧ (nodeOf t).s = g ∧ 1 ≤ (nodeOf t).args.length ∧ (nodeOf t).args.length ≤ 7)
def checkZ (g t : List UInt8) : Int := if rightB g t = true then 0 else 5
def secretL (g t x : List UInt8) : List UInt8 := if rightB g t = true ∧ kindL x = 2 then refExpL t x else []
def secretZ (g t x : List UInt8) : Int := if rightB g t = true ∧ kindL x = 2 then 0 else 5

section
variable {B A n : Nat} {w0 W : World} {P : List (Int × List UInt8)}
theorem Ta.nonePost (h : Ta B w0 A P n W) {m : Nat} (hm : n ≤ m) {t : List UInt8} (ht : t = []) : TaPost B w0 A P m W t (.returned (.int .i64 (-1))) W := by
  subst ht
  exact ⟨-1, rfl, (h.mono hm fun p hp => hp).cons (.inr rfl), Kept.refl W⟩
theorem freshL_wrap (s x : Int) (h1 : 0 ≤ s) (h2 : s ≤ 9223372036854775807) : refNonceL (wrap64 (s + 1)) x = freshL s x := by
  rw [← IntWalk.i64_left]
  unfold freshL
  by_cases hs : s ≥ 2147483647
  · rw [if_pos (.inr hs)]
    unfold refNonceL
    rw [if_neg]
    rintro ⟨h, _⟩
    have h := of_decide_eq_true h
    by_cases he : s = 9223372036854775807
    · subst he
      have : IntKind.i64.wrap (9223372036854775807 + 1) = -9223372036854775808 := by decide
      omega
    · rw [IntWalk.i64_in _ (by omega)] at h
      omega
  · rw [if_neg (by omega), IntWalk.i64_in _ (by omega)]
set_option maxRecDepth 100000 in
theorem hFresh_any (h : Ta B w0 A P n W) (hn : n ≤ 10000) (s x : Int) (h2 : s ≤ 9223372036854775807) : Calls Try.prog 20 #[.pointer (some ⟨A, 0, none⟩), .int .i64 s, .int .i64 x] W (TaPost B w0 A P (n + 1) W (freshL s x)) := by
  by_cases h0 : s < 0
  · have q1 : decide (s < 0) = true := decide_eq_true h0
    have HT := Lib.hid (h.nonePost (m := n + 1) (by omega) (t := freshL s x) (if_pos (.inl h0)))
    clear h
    go_enter Try.func20, Try.ntmps20
    go_wp2_with fail
    go_ret
    exact HT.out
  · have q1 : decide (s < 0) = false := decide_eq_false h0
    have hN := taNonce h (by omega) (wrap64 (s + 1)) x
    rw [freshL_wrap s x (by omega) h2] at hN
    have HN := Lib.hid hN
    clear hN h
    generalize freshL s x = T at *
    go_enter Try.func20, Try.ntmps20
    go_wp2_with (go_at_call 44; with_reducible refine HN.out.mono ?_; rintro e w1 ⟨i1, rfl, t1, k1⟩)
    go_ret
    exact ⟨i1, rfl, t1, k1⟩
set_option maxRecDepth 100000 in
theorem hOffer_any (h : Ta B w0 A P n W) (hn : n ≤ 10000) (g : List UInt8) (hg : g.length ≤ 1000000) {i : Int} {x : List UInt8} (hi : (i, x) ∈ P) : Calls Try.prog 18 #[.pointer (some ⟨A, 0, none⟩), .string (bs g), .int .i64 i] W (TaPost B w0 A P (n + 2) W (offerL g x)) := by
  have HB := Lib.hid (taBase h (by omega) g hg)
  have HE : Hid (∀ (b : Int) (w1 : World), Ta B w0 A ((b, refBaseL g) :: P) (n + 1) w1 → Calls Try.prog 36 #[.pointer (some ⟨A, 0, none⟩), .int .i64 b, .int .i64 i] w1 (TaPost B w0 A ((b, refBaseL g) :: P) (n + 2) w1 (offerL g x))) := fun b w1 hb =>
    taExp hb (by omega) (by simp) (List.mem_cons_of_mem _ hi)
  generalize offerL g x = T at *
  generalize refBaseL g = T0 at *
  clear h
  go_enter Try.func18, Try.ntmps18
  go_wp2_with (first
    | (go_at_call 22; with_reducible refine HB.out.mono ?_; rintro e w1 ⟨i1, rfl, t1, k1⟩)
    | (go_at_call 36; with_reducible refine (HE.out _ _ t1).mono ?_; rintro e w2 ⟨i2, rfl, t2, k2⟩))
  go_ret
  exact ⟨i2, rfl, t2.mono (Nat.le_refl _) (fun p hp => by
    rcases List.mem_cons.1 hp with rfl | hp
    · simp
    · simp [hp]), k1.trans k2⟩
set_option maxHeartbeats 2000000 in
set_option maxRecDepth 100000 in
theorem hCheck_any (h : Ta B w0 A P n W) (g : List UInt8) {i : Int} {t : List UInt8} (hi : (i, t) ∈ P) : Calls Try.prog 16 #[.pointer (some ⟨A, 0, none⟩), .string (bs g), .int .i64 i] W fun e w' => e = .returned (.int .i64 (checkZ g t)) ∧ Below W.heap.size W w' := by
  have HV : Hid (Calls Try.prog 38 #[.pointer (some ⟨A, 0, none⟩), .int .i64 i] W fun r w' => ∃ (a b : Int) (s : ByteArray) (ao : Option Addr) (m c : Nat), r = .returned (.tuple #[.agg #[.int .i64 (kindL t : Int), .int .i64 a, .int .i64 b, .string s, .slice ao m c], .bool (!t.isEmpty)]) ∧ (t ≠ [] → s = bs (nodeOf t).s ∧ m = (nodeOf t).args.length) ∧ Below W.heap.size W w') :=
    (taView h hi).mono fun r w' ⟨a, b, s, ao, m, c, h1, h2, _, _, h5⟩ => ⟨a, b, bs s, ao, m, c, h1, fun hne => by
      obtain ⟨h6, h7⟩ := h2 hne
      exact ⟨by rw [h6], h7⟩, h5⟩
  clear h hi
  have hne : kindL t = 5 → t ≠ [] := by rintro h rfl; simp [kindL] at h
  have HF1 : Hid (∀ (W2 : World) (x : Obj), Below W.heap.size W W2 → Below W.heap.size W (W2.alloc x)) := fun W2 x b3 => b3.alloc b3.size _
  by_cases h5 : kindL t = 5
  · have hn5 := hne h5
    have q5 : ((kindL t : Int) == 5) = true := by rw [h5]; rfl
    have q6 : ((kindL t : Int) != 5) = false := by rw [h5]; rfl
    by_cases hs : (nodeOf t).s = g
    · by_cases h0 : (nodeOf t).args.length = 0
      · have HS : Hid (bs (nodeOf t).s = bs g) := congrArg bs hs
        have HN5 := Lib.hid hn5
        have qS : ((bs g).toList == (bs g).toList) = true := by simp
        have qS2 : ((bs g).toList != (bs g).toList) = false := by simp
        have hz : checkZ g t = 5 := if_neg (by unfold rightB; rw [decide_eq_true_iff]; rintro ⟨_, _, h1, h2⟩; omega)
        rw [hz]
        clear hz
        have HM : Hid (∀ m : Nat, m = (nodeOf t).args.length → ((m : Int) == 0) = true) := fun m hm => by rw [hm, h0]; rfl
        clear h0
        clear hs hn5 h5 hne
        generalize bs g = G at *
        generalize (kindL t : Int) = K at *
        go_enter Try.func16, Try.ntmps16
        go_wp2_with (go_at_call 38; (with_reducible refine HV.out.mono ?_); rintro r w3 ⟨ea, eb, es, ao, nn, cc, rfl, hnd, b3⟩; have B3 := Lib.hid b3; clear b3; obtain ⟨hes, hnn⟩ := hnd HN5.out; rw [HS.out] at hes; subst hes; have qn := HM.out _ hnn; clear hnn)
        go_ret
        exact ⟨rfl, HF1.out _ _ B3.out⟩
      · by_cases h8 : 8 ≤ (nodeOf t).args.length
        · have HS : Hid (bs (nodeOf t).s = bs g) := congrArg bs hs
          have HN5 := Lib.hid hn5
          have qS : ((bs g).toList == (bs g).toList) = true := by simp
          have qS2 : ((bs g).toList != (bs g).toList) = false := by simp
          have hz : checkZ g t = 5 := if_neg (by unfold rightB; rw [decide_eq_true_iff]; rintro ⟨_, _, h1, h2⟩; omega)
          rw [hz]
          clear hz
          have HM : Hid (∀ m : Nat, m = (nodeOf t).args.length → ((m : Int) == 0) = false ∧ decide ((m : Int) ≥ 8) = true) := fun m hm => ⟨by rw [hm]; simpa using h0, decide_eq_true (by omega)⟩
          clear h0 h8
          clear hs hn5 h5 hne
          generalize bs g = G at *
          generalize (kindL t : Int) = K at *
          go_enter Try.func16, Try.ntmps16
          go_wp2_with (go_at_call 38; (with_reducible refine HV.out.mono ?_); rintro r w3 ⟨ea, eb, es, ao, nn, cc, rfl, hnd, b3⟩; have B3 := Lib.hid b3; clear b3; obtain ⟨hes, hnn⟩ := hnd HN5.out; rw [HS.out] at hes; subst hes; have qn := HM.out _ hnn; clear hnn; obtain ⟨qn, qm⟩ := qn)
          go_ret
          exact ⟨rfl, HF1.out _ _ B3.out⟩
        · have HS : Hid (bs (nodeOf t).s = bs g) := congrArg bs hs
          have HN5 := Lib.hid hn5
          have qS : ((bs g).toList == (bs g).toList) = true := by simp
          have qS2 : ((bs g).toList != (bs g).toList) = false := by simp
          have hz : checkZ g t = 0 := if_pos (by unfold rightB; rw [decide_eq_true_iff]; exact ⟨h5, hs, by omega, by omega⟩)
          rw [hz]
          clear hz
          have HM : Hid (∀ m : Nat, m = (nodeOf t).args.length → ((m : Int) == 0) = false ∧ decide ((m : Int) ≥ 8) = false) := fun m hm => ⟨by rw [hm]; simpa using h0, decide_eq_false (by omega)⟩
          clear h0 h8
          clear hs hn5 h5 hne
          generalize bs g = G at *
          generalize (kindL t : Int) = K at *
          go_enter Try.func16, Try.ntmps16
          go_wp2_with (go_at_call 38; (with_reducible refine HV.out.mono ?_); rintro r w3 ⟨ea, eb, es, ao, nn, cc, rfl, hnd, b3⟩; have B3 := Lib.hid b3; clear b3; obtain ⟨hes, hnn⟩ := hnd HN5.out; rw [HS.out] at hes; subst hes; have qn := HM.out _ hnn; clear hnn; obtain ⟨qn, qm⟩ := qn)
          go_ret
          exact ⟨rfl, HF1.out _ _ B3.out⟩
    · have hz : checkZ g t = 5 := if_neg (by unfold rightB; rw [decide_eq_true_iff]; rintro ⟨_, h1, _⟩; exact hs h1)
      rw [hz]
      clear hz
      have HN5 := Lib.hid hn5
      have HS : Hid (∀ S : ByteArray, S = bs (nodeOf t).s → (S.toList == (bs g).toList) = false ∧ (S.toList != (bs g).toList) = true) := fun S hS => by
        have : (S.toList == (bs g).toList) = false := by rw [hS]; exact same_no fun e => hs (bs_inj e)
        exact ⟨this, by rw [bne, this]; rfl⟩
      clear hs hn5 h5 hne
      generalize bs g = G at *
      generalize (kindL t : Int) = K at *
      go_enter Try.func16, Try.ntmps16
      go_wp2_with (go_at_call 38; (with_reducible refine HV.out.mono ?_); rintro r w3 ⟨ea, eb, es, ao, nn, cc, rfl, hnd, b3⟩; have B3 := Lib.hid b3; clear b3; obtain ⟨hes, hnn⟩ := hnd HN5.out; obtain ⟨qS, qS2⟩ := HS.out _ hes; clear hes hnn)
      go_ret
      exact ⟨rfl, HF1.out _ _ B3.out⟩
  · have hz : checkZ g t = 5 := if_neg (by unfold rightB; rw [decide_eq_true_iff]; rintro ⟨h1, _⟩; exact h5 h1)
    rw [hz]
    clear hz
    have q5 : ((kindL t : Int) == 5) = false := by
      have : (kindL t : Int) ≠ 5 := by omega
      simpa using this
    have q6 : ((kindL t : Int) != 5) = true := by rw [bne, q5]; rfl
    clear h5 hne
    generalize bs g = G at *
    generalize (kindL t : Int) = K at *
    go_enter Try.func16, Try.ntmps16
    go_wp2_with (go_at_call 38; (with_reducible refine HV.out.mono ?_); rintro r w3 ⟨ea, eb, es, ao, nn, cc, rfl, hnd, b3⟩; have B3 := Lib.hid b3; clear b3; clear hnd)
    go_ret
    exact ⟨rfl, HF1.out _ _ B3.out⟩
set_option maxHeartbeats 1000000 in
set_option maxRecDepth 100000 in
theorem hSecret_any (h : Ta B w0 A P n W) (hn : n ≤ 10000) (g : List UInt8) {i j : Int} {t x : List UInt8} (hi : (i, t) ∈ P) (hj : (j, x) ∈ P) : Calls Try.prog 13 #[.pointer (some ⟨A, 0, none⟩), .string (bs g), .int .i64 i, .int .i64 j] W fun e w' => ∃ k : Int, e = .returned (.tuple #[.int .i64 k, .int .i64 (secretZ g t x)]) ∧ Ta B w0 A ((k, secretL g t x) :: P) (n + 1) w' ∧ Kept W w' := by
  have hC := hCheck_any h g hi
  by_cases hr : rightB g t = true
  · have hz : checkZ g t = 0 := if_pos hr
    rw [hz] at hC
    have HC := Lib.hid hC
    have HK : Hid (∀ w1, Below W.heap.size W w1 → Calls Try.prog 33 #[.pointer (some ⟨A, 0, none⟩), .int .i64 j] w1 fun e w' => e = .returned (.int .i64 (kindL x : Int)) ∧ w1 = w') := fun w1 hb => taKind (h.below hb) hj
    by_cases hk : kindL x = 2
    · have HE : Hid (∀ w1, Below W.heap.size W w1 → Calls Try.prog 36 #[.pointer (some ⟨A, 0, none⟩), .int .i64 i, .int .i64 j] w1 fun e w' => ∃ k : Int, e = .returned (.int .i64 k) ∧ Ta B w0 A ((k, refExpL t x) :: P) (n + 1) w' ∧ Kept W w') := fun w1 hb =>
        (taExp (h.below hb) (by omega) hi hj).mono fun e w' ⟨k, h1, h2, h3⟩ => ⟨k, h1, h2, (Kept.ofBelow hb).trans h3⟩
      have e1 : secretZ g t x = 0 := if_pos ⟨hr, hk⟩
      have e2 : secretL g t x = refExpL t x := if_pos ⟨hr, hk⟩
      rw [e1, e2]
      have q1 : ((kindL x : Int) != 2) = false := by rw [hk]; rfl
      generalize (kindL x : Int) = K at *
      clear h hC hz e1 e2 hr hk
      go_enter Try.func13, Try.ntmps13
      go_wp2_with (first
        | (go_at_call 16; with_reducible refine HC.out.mono ?_; rintro e w1 ⟨rfl, b1⟩)
        | (go_at_call 33; with_reducible refine (HK.out _ b1).mono ?_; rintro e w2 ⟨rfl, hw⟩; subst hw)
        | (go_at_call 36; with_reducible refine (HE.out _ b1).mono ?_; rintro e w3 ⟨k, rfl, t3, k3⟩))
      go_ret2
      exact ⟨k, rfl, t3, k3⟩
    · have e1 : secretZ g t x = 5 := if_neg (fun hh => hk hh.2)
      have e2 : secretL g t x = [] := if_neg (fun hh => hk hh.2)
      have HF : Hid (∀ w1, Below W.heap.size W w1 → Ta B w0 A ((-1, secretL g t x) :: P) (n + 1) w1) := fun w1 hb => by
        rw [e2]
        exact ((h.below hb).mono (by omega) fun p hp => hp).cons (.inr rfl)
      rw [e1]
      have q1 : ((kindL x : Int) != 2) = true := by
        have h0 : ((kindL x : Int) == 2) = false := by
          have : (kindL x : Int) ≠ 2 := by omega
          simpa using this
        rw [bne, h0]; rfl
      generalize (kindL x : Int) = K at *
      clear h hC hz e1 e2 hr hk
      go_enter Try.func13, Try.ntmps13
      go_wp2_with (first
        | (go_at_call 16; with_reducible refine HC.out.mono ?_; rintro e w1 ⟨rfl, b1⟩)
        | (go_at_call 33; with_reducible refine (HK.out _ b1).mono ?_; rintro e w2 ⟨rfl, hw⟩; subst hw))
      go_ret2
      exact ⟨-1, rfl, HF.out _ b1, Kept.ofBelow b1⟩
  · have hz : checkZ g t = 5 := if_neg hr
    rw [hz] at hC
    have HC := Lib.hid hC
    have e1 : secretZ g t x = 5 := if_neg (fun hh => hr hh.1)
    have e2 : secretL g t x = [] := if_neg (fun hh => hr hh.1)
    have HF : Hid (∀ w1, Below W.heap.size W w1 → Ta B w0 A ((-1, secretL g t x) :: P) (n + 1) w1) := fun w1 hb => by
      rw [e2]
      exact ((h.below hb).mono (by omega) fun p hp => hp).cons (.inr rfl)
    rw [e1]
    clear h hC hz e1 e2 hr
    go_enter Try.func13, Try.ntmps13
    go_wp2_with (first
      | (go_at_call 16; with_reducible refine HC.out.mono ?_; rintro e w1 ⟨rfl, b1⟩))
    go_ret2
    exact ⟨-1, rfl, HF.out _ b1, Kept.ofBelow b1⟩
end
end Go.Proofs.Ytbhekicoohcaeaa
