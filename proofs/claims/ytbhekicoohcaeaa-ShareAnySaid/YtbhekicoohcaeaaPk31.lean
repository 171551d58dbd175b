/- Part 31 of what the statement wants. -/
import Derived.Test.YtbhekicoohcaeaaPk01
import Derived.Test.YtbhekicoohcaeaaPk30
namespace Go.Proofs.Ytbhekicoohcaeaa
open Go.RowKit

def secret9L (g t x : List UInt8) : List UInt8 := if rightB g t = true then refExpL t x else []
set_option maxRecDepth 100000 in
theorem r19Fresh_any (s x : Int) (h2 : s ≤ 9223372036854775807) (w : World) : Calls Try.prog 21 #[.int .i64 s, .int .i64 x] w fun e w' => e = .returned (.string (bs (freshL s x))) ∧ Below w.heap.size w w' := by
  by_cases h0 : s < 0
  · have hf : freshL s x = [] := if_pos (.inl h0)
    rw [hf]
    have q1 : decide (s < 0) = true := decide_eq_true h0
    clear hf
    go_enter Try.func21, Try.ntmps21
    go_wp2_with fail
    go_ret
    exact ⟨rfl, Below.refl _ _⟩
  · by_cases h1 : s ≥ 2147483647
    · have hf : freshL s x = [] := if_pos (.inr h1)
      rw [hf]
      have q1 : decide (s < 0) = false := decide_eq_false h0
      have q2 : decide (s ≥ 2147483647) = true := decide_eq_true h1
      clear hf h0 h1 h2
      go_enter Try.func21, Try.ntmps21
      go_wp2_with fail
      go_ret
      exact ⟨rfl, Below.refl _ _⟩
    · have hf : freshL s x = refNonceL (s + 1) x := if_neg (by omega)
      have HN := Lib.hid (refNonce_any (s + 1) x w)
      rw [← hf] at HN
      have q1 : decide (s < 0) = false := decide_eq_false h0
      have q2 : decide (s ≥ 2147483647) = false := decide_eq_false h1
      have q3 : wrap64 (s + 1) = s + 1 := IntWalk.wrap64_in _ (by omega)
      clear hf h0 h1 h2
      generalize bs (freshL s x) = T at *
      go_enter Try.func21, Try.ntmps21
      go_wp2_with (go_at_call 45; with_reducible refine HN.out.mono ?_; rintro e w1 ⟨rfl, b1⟩)
      go_ret
      exact ⟨rfl, b1⟩
theorem raise_base (g : List UInt8) : ∀ x, refBaseL g = x → x.length ≤ 131072 := by
  intro x h
  subst h
  unfold refBaseL refShareL fitsL
  split
  · split
    · simp
    · rename_i hh; omega
  · simp
set_option maxRecDepth 100000 in
theorem r19Offer_any (g x : List UInt8) (hg : g.length ≤ 1000000) (hx : x.length ≤ 10000 ∨ kindL x ≠ 2) (hr : Raisable (refBaseL g)) (w : World) : Calls Try.prog 19 #[.string (bs g), .string (bs x)] w fun e w' => e = .returned (.string (bs (offerL g x))) ∧ Below w.heap.size w w' := by
  have HB := Lib.hid (refBase_any g hg w)
  have HE : Hid (∀ w1, Calls Try.prog 37 #[.string (bs (refBaseL g)), .string (bs x)] w1 fun e w' => e = .returned (.string (bs (offerL g x))) ∧ Below w1.heap.size w1 w') := fun w1 => refExp_any' (refBaseL g) x (by have := raise_base g _ rfl; omega) hx hr w1
  generalize bs (offerL g x) = T at *
  generalize bs (refBaseL g) = T0 at *
  clear hr hx
  go_enter Try.func19, Try.ntmps19
  go_wp2_with (first
    | (go_at_call 43; with_reducible refine HB.out.mono ?_; rintro e w1 ⟨rfl, b1⟩)
    | (go_at_call 37; with_reducible refine (HE.out _).mono ?_; rintro e w2 ⟨rfl, b2⟩))
  go_ret
  exact ⟨rfl, b1.trans (b2.mono b1.size)⟩
set_option maxHeartbeats 1000000 in
set_option maxRecDepth 100000 in
theorem r19Right_any (g t : List UInt8) (ht : t.length ≤ 1000000) (ha : ∀ x ∈ (nodeOf t).args, x ≠ []) (w : World) : Calls Try.prog 17 #[.string (bs g), .string (bs t)] w fun e w' => e = .returned (.bool (rightB g t)) ∧ Below w.heap.size w w' := by
  have HK := Lib.hid (refKind_any t w)
  by_cases h5 : kindL t = 5
  · have HV : Hid (Calls Try.prog 42 #[.string (bs t)] w fun r w' => ∃ (k a b : Int) (ao : Option Addr) (c : Nat), r = .returned (.agg #[.int .i64 k, .int .i64 a, .int .i64 b, .string (bs (nodeOf t).s), .slice ao (nodeOf t).args.length c]) ∧ Below w.heap.size w w') :=
      (refView_any t ht ha w).mono fun r w' ⟨v, h1, ⟨ao, c, hv, _⟩, h3⟩ => ⟨(nodeOf t).k, ((nodeOf t).a : Int), ((nodeOf t).b : Int), ao, c, by rw [h1, hv, List.length_map]; rfl, h3⟩
    have q1 : ((kindL t : Int) != 5) = false := by rw [h5]; rfl
    have HR : Hid (rightB g t = ((((bs (nodeOf t).s).toList == (bs g).toList) && decide (((nodeOf t).args.length : Int) ≥ 1)) && decide (((nodeOf t).args.length : Int) ≤ 7))) := by
      show rightB g t = _
      unfold rightB
      by_cases hs : (nodeOf t).s = g
      · have : ((bs (nodeOf t).s).toList == (bs g).toList) = true := by rw [hs]; simp
        rw [this]
        simp only [Bool.true_and]
        rw [← Bool.decide_and]
        exact decide_eq_decide.2 ⟨fun hh => by omega, fun hh => ⟨h5, hs, by omega, by omega⟩⟩
      · have : ((bs (nodeOf t).s).toList == (bs g).toList) = false := same_no fun e => hs (bs_inj e)
        rw [this]
        simp [hs]
    generalize rightB g t = R at *
    clear ht ha h5
    generalize (kindL t : Int) = K at *
    have HL : Hid ((nodeOf t).args.length = (nodeOf t).args.length) := rfl
    generalize hM : (nodeOf t).args.length = M at *
    clear hM HL
    generalize bs (nodeOf t).s = S at *
    generalize bs t = T at *
    generalize bs g = G at *
    have HR := HR.out
    cases hS : (S.toList == G.toList)
    · rw [hS] at HR
      simp only [Bool.false_and] at HR
      subst HR
      go_enter Try.func17, Try.ntmps17
      go_wp2_with (first
        | (go_at_call 41; with_reducible refine HK.out.mono ?_; rintro e w1 ⟨rfl, hw⟩; have hw := hw.symm; subst hw)
        | (go_at_call 42; with_reducible refine HV.out.mono ?_; rintro e w2 ⟨k, a, b, ao, c, rfl, b2⟩; have B2 := Lib.hid (b2.alloc b2.size (.cells #[.int .i64 k, .int .i64 a, .int .i64 b, .string S, .slice ao M c] 86)); clear b2))
      go_ret
      exact ⟨rfl, B2.out⟩
    · rw [hS] at HR
      simp only [Bool.true_and] at HR
      cases h1 : decide ((M : Int) ≥ 1)
      · rw [h1] at HR
        simp only [Bool.false_and] at HR
        subst HR
        go_enter Try.func17, Try.ntmps17
        go_wp2_with (first
          | (go_at_call 41; with_reducible refine HK.out.mono ?_; rintro e w1 ⟨rfl, hw⟩; have hw := hw.symm; subst hw)
          | (go_at_call 42; with_reducible refine HV.out.mono ?_; rintro e w2 ⟨k, a, b, ao, c, rfl, b2⟩; have B2 := Lib.hid (b2.alloc b2.size (.cells #[.int .i64 k, .int .i64 a, .int .i64 b, .string S, .slice ao M c] 86)); clear b2))
        go_ret
        exact ⟨rfl, B2.out⟩
      · rw [h1] at HR
        simp only [Bool.true_and] at HR
        subst HR
        go_enter Try.func17, Try.ntmps17
        go_wp2_with (first
          | (go_at_call 41; with_reducible refine HK.out.mono ?_; rintro e w1 ⟨rfl, hw⟩; have hw := hw.symm; subst hw)
          | (go_at_call 42; with_reducible refine HV.out.mono ?_; rintro e w2 ⟨k, a, b, ao, c, rfl, b2⟩; have B2 := Lib.hid (b2.alloc b2.size (.cells #[.int .i64 k, .int .i64 a, .int .i64 b, .string S, .slice ao M c] 86)); clear b2))
        go_ret
        exact ⟨rfl, B2.out⟩
  · have q1 : ((kindL t : Int) != 5) = true := by
      have h0 : ((kindL t : Int) == 5) = false := by
        have : (kindL t : Int) ≠ 5 := by omega
        simpa using this
      rw [bne, h0]; rfl
    have hr : rightB g t = false := decide_eq_false fun hh => h5 hh.1
    rw [hr]
    clear ht ha h5 hr
    generalize (kindL t : Int) = K at *
    generalize bs t = T at *
    go_enter Try.func17, Try.ntmps17
    go_wp2_with (first
      | (go_at_call 41; with_reducible refine HK.out.mono ?_; rintro e w1 ⟨rfl, hw⟩; have hw := hw.symm; subst hw))
    go_ret
    exact ⟨rfl, Below.refl _ _⟩
set_option maxRecDepth 100000 in
theorem r19Secret_any (g t x : List UInt8) (ht : t.length ≤ 1000000) (ha : ∀ x ∈ (nodeOf t).args, x ≠ []) (hx : x.length ≤ 10000 ∨ kindL x ≠ 2) (hr : Raisable t) (w : World) : Calls Try.prog 14 #[.string (bs g), .string (bs t), .string (bs x)] w fun e w' => e = .returned (.string (bs (secret9L g t x))) ∧ Below w.heap.size w w' := by
  have HR := Lib.hid (r19Right_any g t ht ha w)
  have HE : Hid (∀ w1, Calls Try.prog 37 #[.string (bs t), .string (bs x)] w1 fun e w' => e = .returned (.string (bs (refExpL t x))) ∧ Below w1.heap.size w1 w') := fun w1 => refExp_any' t x ht hx hr w1
  unfold secret9L
  cases h : rightB g t
  · rw [h] at HR
    simp only [Bool.false_eq_true, if_false]
    clear hr hx ha ht h
    go_enter Try.func14, Try.ntmps14
    go_wp2_with (go_at_call 17; with_reducible refine HR.out.mono ?_; rintro e w1 ⟨rfl, b1⟩)
    go_ret
    exact ⟨rfl, b1⟩
  · rw [h] at HR
    simp only [if_true]
    clear hr hx ha ht h
    generalize bs (refExpL t x) = T0 at *
    go_enter Try.func14, Try.ntmps14
    go_wp2_with (first
      | (go_at_call 17; with_reducible refine HR.out.mono ?_; rintro e w1 ⟨rfl, b1⟩)
      | (go_at_call 37; with_reducible refine (HE.out _).mono ?_; rintro e w2 ⟨rfl, b2⟩))
    go_ret
    exact ⟨rfl, b1.trans (b2.mono b1.size)⟩
end Go.Proofs.Ytbhekicoohcaeaa

namespace Go.Proofs.Ytbhekicoohcaeaa
open Go.RowKit

theorem nodeOf_nil : (nodeOf []).args = [] := by decide +kernel
theorem TAt.args {L : List Ent} (hG : Good L) {i : Int} {t : List UInt8} (h : TAt L i t) : ∀ x ∈ (nodeOf t).args, x ≠ [] := by
  rcases h with ⟨_, rfl⟩ | ⟨n, _, hn, rfl⟩
  · rw [nodeOf_nil]; simp
  · have he : L[n]? = some L[n] := List.getElem?_eq_getElem hn
    rw [nodeOf_enc hG he]
    intro x hx
    obtain ⟨u, hu, rfl⟩ := List.mem_map.1 hx
    exact enc_ne hG (Nat.lt_trans ((hG.wf.ok n _ he).args u hu) hn)
/-- The parts of a share's text. -/
theorem TAt.share {L : List Ent} (hG : Good L) {i : Int} {t : List UInt8} (h : TAt L i t) (h5 : kindL t = 5) :
    t = 245 :: (cnt (nodeOf t).s ++ pack4 (nodeOf t).args.length ++ (nodeOf t).args.flatten) ∧ (∀ x ∈ (nodeOf t).args, x.length = 9) ∧ (nodeOf t).args.length ≤ 8 ∧ (nodeOf t).s.length ≤ 2100 := by
  rcases h with ⟨_, rfl⟩ | ⟨n, _, hn, rfl⟩
  · simp [kindL] at h5
  · have he : L[n]? = some L[n] := List.getElem?_eq_getElem hn
    have hs := hG.sh n _ he
    rw [hG.enc_eq he, kind_head hs] at h5
    rw [nodeOf_enc hG he, hG.enc_eq he]
    generalize L[n].sh = sh at *
    cases hs with
    | share s l h1 h2 h3 h4 _ =>
      refine ⟨by simp [nodeSh, headL], fun x hx => ?_, by simpa [nodeSh] using h3, by simp only [nodeSh]; rw [s_len]; exact h2⟩
      obtain ⟨u, hu, rfl⟩ := List.mem_map.1 hx
      exact nonce_nine hG (h4 u hu)
    | _ => simp at h5
theorem flat_nine : ∀ (l : List (List UInt8)), (∀ x ∈ l, x.length = 9) → l.flatten.length = 9 * l.length
  | [], _ => rfl
  | x :: l, h => by
    have := flat_nine l (fun y hy => h y (by simp [hy]))
    rw [List.flatten_cons, List.length_append, h x (by simp), this, List.length_cons]
    omega
theorem insL_len (x : List UInt8) : ∀ l : List (List UInt8), (insL x l).length = l.length + 1 ∧ (insL x l).flatten.length = x.length + l.flatten.length
  | [] => by simp [insL]
  | y :: l => by
    unfold insL
    split
    · simp
    · have := insL_len x l
      simp only [List.length_cons, List.flatten_cons, List.length_append]
      omega
theorem shareT_ne (s : List UInt8) (l : List (List UInt8)) (h : 9 + s.length + l.flatten.length ≤ 131072) : refShareL s l = 245 :: (cnt s ++ pack4 l.length ++ l.flatten) := by
  unfold refShareL fitsL
  have h1 : (tagL 5).length = 1 := rfl
  have h2 : ∀ n, (pack4 n).length = 4 := fun _ => rfl
  rw [if_neg (by simp only [List.length_append, h1, h2]; omega)]
  simp [tagL, cnt]
theorem secret_ne {L : List Ent} (hG : Good L) {i j : Int} {g t x : List UInt8} (ht : TAt L i t) (hx : TAt L j x) (hr : rightB g t = true) (hk : kindL x = 2) : refExpL t x ≠ [] := by
  obtain ⟨h5, h1, h2, h3⟩ := of_decide_eq_true hr
  obtain ⟨_, h9, _, hs⟩ := ht.share hG h5
  have hxl := hx.nine hG
  have hf := flat_nine _ h9
  obtain ⟨i1, i2⟩ := insL_len x (nodeOf t).args
  unfold refExpL
  rw [if_pos ⟨h5, hk, by omega⟩, shareT_ne _ _ (by rcases hxl with h | h <;> omega)]
  simp
/-- Nothing comes of what is no nonce. -/
theorem secret_same (g t x : List UInt8) : secretL g t x = if rightB g t = true then refExpL t x else [] := by
  unfold secretL
  by_cases hr : rightB g t = true
  · rw [if_pos hr]
    by_cases hk : kindL x = 2
    · rw [if_pos ⟨hr, hk⟩]
    · rw [if_neg (fun hh => hk hh.2)]
      unfold refExpL
      rw [if_neg (fun hh => hk hh.2.1)]
  · rw [if_neg hr, if_neg (fun hh => hr hh.1)]
theorem secret_iff {L : List Ent} (hG : Good L) {i j : Int} {g t x : List UInt8} (ht : TAt L i t) (hx : TAt L j x) : (secretZ g t x = 0 ∧ secretL g t x ≠ []) ∨ (secretZ g t x = 5 ∧ secretL g t x = []) := by
  unfold secretZ secretL
  by_cases hc : rightB g t = true ∧ kindL x = 2
  · rw [if_pos hc, if_pos hc]
    exact .inl ⟨rfl, secret_ne hG ht hx hc.1 hc.2⟩
  · rw [if_neg hc, if_neg hc]
    exact .inr ⟨rfl, rfl⟩
theorem raise_base2 (g : List UInt8) : Raisable (refBaseL g) := by
  have h := base_same Good.nil (by simp) g
  exact h.is.raisable h.good
end Go.Proofs.Ytbhekicoohcaeaa
