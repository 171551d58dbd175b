/- Layer 13: drain, walked. -/
import Derived.Test.YtlalkpgipenkaaaSx8
namespace Go.Proofs.Ytlalkpgipenkaaa
open Go.RowKit

set_option maxHeartbeats 2000000 in
set_option maxRecDepth 100000 in
theorem drain_any {B X : Nat} {l : List UInt8} {e : Nat} {v : Value} {its : List (List UInt8)} {G : Nat → Prop} {w : World} (h : DrAt B X l e v its G w) (hl : l.length ≤ 2000) (hn : its.length ≤ 100000) (hB : B ≤ w.heap.size) (lined : Bool) :
    Calls Try.prog 19 #[.pointer (some ⟨X, 0, none⟩), v, .bool lined] w fun r w' => ∃ v', r = .returned (.tuple #[v', .bool (drainP lined l e).2.1]) ∧ DrLeft B X (drainP lined l e).2.2.1 (drainP lined l e).2.2.2 v' (its ++ (drainP lined l e).1) G w w' := by
  have hV : ∃ ao c, v = .slice ao its.length c := by obtain ⟨F, s, r, _⟩ := h; have := rowSl r; rwa [show its.length = its.length from rfl] at this
  obtain ⟨ao, c, rfl⟩ := hV
  have HG := Lib.hid (fun k hk => (h.lt k hk).1)
  have HBw := Lib.hid hB
  -- the loop, from where it begins
  have HLoop : Hid (∀ (l1 : List UInt8) (e1 : Nat) (v1 : Value) (its1 : List (List UInt8)) (w1 : World), l1.length ≤ 2000 → DrLeft B X l1 e1 v1 its1 G w w1 → DrGoes B X l1 e1 its1 G w 0 v1 w1 l1 e1 []) := fun l1 e1 v1 its1 w1 hl1 h1 =>
    ⟨by rw [List.append_nil]; exact h1, by simp, hl1, Nat.le_refl _⟩
  have HStep : Hid (∀ (l1 : List UInt8) (e1 : Nat) (its1 : List (List UInt8)) (k : Nat) (v1 : Value) (wr : World) (l2 : List UInt8) (e2 : Nat) (done : List (List UInt8)), its1.length ≤ 100001 → DrGoes B X l1 e1 its1 G w k v1 wr l2 e2 done → k < 600 → (stTake (stUnit l2) l2 e2).2.1 = true → ∀ (w2 : World), DrLeft B X (stTake (stUnit l2) l2 e2).2.2.2.1 (stTake (stUnit l2) l2 e2).2.2.2.2 v1 (its1 ++ done) G w w2 →
      ∃ G2, DrAt B X (stTake (stUnit l2) l2 e2).2.2.2.1 (stTake (stUnit l2) l2 e2).2.2.2.2 v1 (its1 ++ done) G2 w2 ∧ (its1 ++ done).length ≤ 1000000 ∧ B ≤ w2.heap.size ∧
        ∀ v3 w3, DrLeft B X (stTake (stUnit l2) l2 e2).2.2.2.1 (stTake (stUnit l2) l2 e2).2.2.2.2 v3 (its1 ++ done ++ [(stTake (stUnit l2) l2 e2).1]) G2 w2 w3 → DrGoes B X l1 e1 its1 G w (k + 1) v3 w3 (stTake (stUnit l2) l2 e2).2.2.2.1 (stTake (stUnit l2) l2 e2).2.2.2.2 (done ++ [(stTake (stUnit l2) l2 e2).1])) :=
    fun l1 e1 its1 k v1 wr l2 e2 done hn1 hg hk hy w2 h2 => by
      obtain ⟨G2, a2, m2, f2⟩ := h2
      refine ⟨G2, a2, by rw [List.length_append]; have := hg.many; omega, Nat.le_trans HBw.out m2.size, fun v3 w3 h3 => ?_⟩
      have hf : 600 - k = (600 - (k + 1)) + 1 := by omega
      refine ⟨by rw [← List.append_assoc]; exact DrLeft.trans m2 f2 h3, ?_, Nat.le_trans (stTake_len _ _ _) hg.len, by simp; exact hg.many⟩
      rw [hg.eq, hf, drainU_on hy]
      simp
  have HEnd : Hid (∀ (l1 : List UInt8) (e1 : Nat) (its1 : List (List UInt8)) (k : Nat) (v1 : Value) (wr : World) (l2 : List UInt8) (e2 : Nat) (done : List (List UInt8)), DrGoes B X l1 e1 its1 G w k v1 wr l2 e2 done → k < 600 → (stTake (stUnit l2) l2 e2).2.1 = false → ∀ (w2 : World), DrLeft B X (stTake (stUnit l2) l2 e2).2.2.2.1 (stTake (stUnit l2) l2 e2).2.2.2.2 v1 (its1 ++ done) G w w2 →
      DrLeft B X (drainU 600 l1 e1).2.1 (drainU 600 l1 e1).2.2 v1 (its1 ++ (drainU 600 l1 e1).1) G w w2) := fun l1 e1 its1 k v1 wr l2 e2 done hg hk hy w2 h2 => by
    have hf : 600 - k = (600 - (k + 1)) + 1 := by omega
    rw [hg.eq, hf, drainU_no hy]
    simpa using h2
  have HFull : Hid (∀ (l1 : List UInt8) (e1 : Nat) (its1 : List (List UInt8)) (v1 : Value) (wr : World) (l2 : List UInt8) (e2 : Nat) (done : List (List UInt8)), DrGoes B X l1 e1 its1 G w 600 v1 wr l2 e2 done → DrLeft B X (drainU 600 l1 e1).2.1 (drainU 600 l1 e1).2.2 v1 (its1 ++ (drainU 600 l1 e1).1) G w wr) := fun l1 e1 its1 v1 wr l2 e2 done hg => by
    rw [hg.eq]
    have := hg.at_
    simpa [drainU] using this
  cases lined with
  | false =>
    have HLn := Lib.hid (h.line hl)
    have hlt := stTake_len (lnScan l) l e
    cases hy : (stTake (lnScan l) l e).2.1 with
    | false =>
      have hd : drainP false l e = ([], false, (stTake (lnScan l) l e).2.2.2.1, (stTake (lnScan l) l e).2.2.2.2) := by unfold drainP; rw [if_neg (by simp), if_neg (by rw [hy]; simp)]
      rw [hd, List.append_nil]
      rw [hy] at HLn
      clear hd HLoop HStep HEnd HFull HG h hlt hl hy
      generalize bs (stTake (lnScan l) l e).1 = S at *
      generalize (stTake (lnScan l) l e).2.2.1 = c1 at *
      generalize (stTake (lnScan l) l e).2.2.2.1 = l1 at *
      generalize (stTake (lnScan l) l e).2.2.2.2 = e1 at *
      go_enter Try.func19, Try.ntmps19
      go_wp2_with (go_at_call 11; (with_reducible refine HLn.out.mono ?_); rintro r w1 ⟨rfl, h1⟩; have H1 := Lib.hid h1; clear h1)
      go_ret2
      exact ⟨_, rfl, H1.out⟩
    | true =>
      have hd : drainP false l e = ((stTake (lnScan l) l e).1 :: (drainU 600 (stTake (lnScan l) l e).2.2.2.1 (stTake (lnScan l) l e).2.2.2.2).1, true, (drainU 600 (stTake (lnScan l) l e).2.2.2.1 (stTake (lnScan l) l e).2.2.2.2).2) := by unfold drainP; rw [if_neg (by simp), if_pos hy]
      rw [hd]
      rw [hy] at HLn
      have hl1 : (stTake (lnScan l) l e).2.2.2.1.length ≤ 2000 := by omega
      have HPut : Hid (∀ w1, DrLeft B X (stTake (lnScan l) l e).2.2.2.1 (stTake (lnScan l) l e).2.2.2.2 (.slice ao its.length c) its G w w1 → ∃ G1, DrAt B X (stTake (lnScan l) l e).2.2.2.1 (stTake (lnScan l) l e).2.2.2.2 (.slice ao its.length c) its G1 w1 ∧ B ≤ w1.heap.size ∧
          ∀ v3 w3, DrLeft B X (stTake (lnScan l) l e).2.2.2.1 (stTake (lnScan l) l e).2.2.2.2 v3 (its ++ [(stTake (lnScan l) l e).1]) G1 w1 w3 → DrLeft B X (stTake (lnScan l) l e).2.2.2.1 (stTake (lnScan l) l e).2.2.2.2 v3 (its ++ [(stTake (lnScan l) l e).1]) G w w3) := fun w1 ⟨G1, a1, m1, f1⟩ =>
        ⟨G1, a1, Nat.le_trans HBw.out m1.size, fun v3 w3 h3 => DrLeft.trans m1 f1 h3⟩
      have HN : Hid (its.length ≤ 1000000) := (by omega : its.length ≤ 1000000)
      have HN1 : Hid ((its ++ [(stTake (lnScan l) l e).1]).length ≤ 100001) := (by rw [List.length_append]; simp; omega : (its ++ [(stTake (lnScan l) l e).1]).length ≤ 100001)
      have hcons : its ++ (stTake (lnScan l) l e).1 :: (drainU 600 (stTake (lnScan l) l e).2.2.2.1 (stTake (lnScan l) l e).2.2.2.2).1 = (its ++ [(stTake (lnScan l) l e).1]) ++ (drainU 600 (stTake (lnScan l) l e).2.2.2.1 (stTake (lnScan l) l e).2.2.2.2).1 := by simp
      rw [hcons]
      clear hd HG h hlt hl hy hn hB hcons
      generalize (stTake (lnScan l) l e).1 = x at *
      generalize (stTake (lnScan l) l e).2.2.1 = c1 at *
      generalize (stTake (lnScan l) l e).2.2.2.1 = l1 at *
      generalize (stTake (lnScan l) l e).2.2.2.2 = e1 at *
      go_enter Try.func19, Try.ntmps19
      go_wp2_with (first
        | (go_at_call 11; (with_reducible refine HLn.out.mono ?_); rintro r w1 ⟨rfl, h1⟩; have H1 := Lib.hid h1; clear h1; obtain ⟨G1, a1, hB1, hput⟩ := HPut.out _ H1.out; have A1 := Lib.hid a1; have HP1 := Lib.hid hput; clear a1 hput)
        | (at_builtin; refine wpList_put13 rfl _ _ rfl A1.out x rfl rfl rfl HN.out hB1 rfl ?_; intro g3 c3 w3 h3; have H3 := Lib.hid (HP1.out _ _ h3); clear h3))
      have HG0 : Hid (DrGoes B X l1 e1 (its ++ [x]) G w 0 (.slice (some ⟨g3, 0, none⟩) (its.length + 1) c3) w3 l1 e1 []) := HLoop.out _ _ _ _ _ hl1 H3.out
      clear HPut HP1 A1 H1 H3 HLn
      go_loopw [1, 11] (fun v i wr => ∃ (k : Nat) (l2 : List UInt8) (e2 : Nat) (done : List (List UInt8)), k ≤ 600 ∧ i = .int .i64 k ∧ DrGoes B X l1 e1 (its ++ [x]) G w k v wr l2 e2 done) (fun _ i _ => 600 - (intOf i).toNat)
      case atStart => exact ⟨0, l1, e1, [], Nat.zero_le _, rfl, HG0.out⟩
      case round =>
        clear HG0
        obtain ⟨k, l2, e2, done, hk, rfl, hg⟩ := hrel
        by_cases hlt : k < 600
        · have HU := Lib.hid (hg.step hlt)
          obtain ⟨va, vc, rfl⟩ := hg.form
          cases hy : (stTake (stUnit l2) l2 e2).2.1 with
          | false =>
            have HE := Lib.hid (HEnd.out _ _ _ _ _ _ _ _ _ hg hlt hy)
            rw [hy] at HU
            clear hg hy HLoop HStep HEnd HFull
            generalize bs (stTake (stUnit l2) l2 e2).1 = S at *
            generalize (stTake (stUnit l2) l2 e2).2.2.1 = c1 at *
            generalize (stTake (stUnit l2) l2 e2).2.2.2.1 = l3 at *
            generalize (stTake (stUnit l2) l2 e2).2.2.2.2 = e3 at *
            generalize (its ++ [x] ++ done).length = m at *
            go_wp2_with (go_at_call 13; (with_reducible refine HU.out.mono ?_); rintro r w1 ⟨rfl, h1⟩; have H1 := Lib.hid h1; clear h1)
            go_ret2
            exact ⟨_, rfl, HE.out _ H1.out⟩
          | true =>
            have HSt := Lib.hid (HStep.out _ _ _ _ _ _ _ _ _ HN1.out hg hlt hy)
            rw [hy] at HU
            clear hg hy HLoop HStep HEnd HFull
            generalize hmm : (its ++ [x] ++ done).length = m at *
            have HMm := Lib.hid hmm
            clear hmm
            generalize (stTake (stUnit l2) l2 e2).1 = x2 at *
            generalize (stTake (stUnit l2) l2 e2).2.2.1 = c1 at *
            generalize (stTake (stUnit l2) l2 e2).2.2.2.1 = l3 at *
            generalize (stTake (stUnit l2) l2 e2).2.2.2.2 = e3 at *
            go_wp2_with (first
              | (go_at_call 13; (with_reducible refine HU.out.mono ?_); rintro r w1 ⟨rfl, h1⟩; obtain ⟨G2, a2, hn2, hB2, hput2⟩ := HSt.out _ h1; have A2 := Lib.hid a2; have HN2 := Lib.hid hn2; have HP2 := Lib.hid hput2; clear a2 hput2 h1 hn2)
              | (at_builtin; refine wpList_put13 rfl _ _ rfl A2.out x2 rfl rfl rfl (by rw [HMm.out]; exact HN2.out) hB2 (n1 := m + 1) (by rw [HMm.out]) ?_; intro g4 c4 w4 h4; have H4 := Lib.hid (HP2.out _ _ h4); clear h4))
            go_roundw
            case rel => exact ⟨k + 1, l3, e3, _, by omega, by go_num, H4.out⟩
            case measure => simp [intOf]; omega
        · have hk6 : k = 600 := by omega
          subst hk6
          have HE := Lib.hid (HFull.out _ _ _ _ _ _ _ _ hg)
          clear hg HLoop HStep HEnd HFull
          go_wp2_with fail
          go_ret2
          exact ⟨_, rfl, HE.out⟩
  | true =>
    rw [drainP_yes]
    have HG0 : Hid (DrGoes B X l e its G w 0 (.slice ao its.length c) w l e []) := HLoop.out _ _ _ _ _ hl h.same
    have HN1 : Hid (its.length ≤ 100001) := (by omega : its.length ≤ 100001)
    clear h HG hl hn hB
    obtain ⟨l1, hl1⟩ : ∃ l1, l1 = l := ⟨_, rfl⟩
    obtain ⟨e1, he1⟩ : ∃ e1, e1 = e := ⟨_, rfl⟩
    rw [← hl1, ← he1]
    rw [← hl1, ← he1] at HG0
    clear hl1 he1
    go_enter Try.func19, Try.ntmps19
    go_wp2_with fail
    go_loopw [1, 11] (fun v i wr => ∃ (k : Nat) (l2 : List UInt8) (e2 : Nat) (done : List (List UInt8)), k ≤ 600 ∧ i = .int .i64 k ∧ DrGoes B X l1 e1 (its) G w k v wr l2 e2 done) (fun _ i _ => 600 - (intOf i).toNat)
    case atStart => exact ⟨0, l1, e1, [], Nat.zero_le _, rfl, HG0.out⟩
    case round =>
      clear HG0
      obtain ⟨k, l2, e2, done, hk, rfl, hg⟩ := hrel
      by_cases hlt : k < 600
      · have HU := Lib.hid (hg.step hlt)
        obtain ⟨va, vc, rfl⟩ := hg.form
        cases hy : (stTake (stUnit l2) l2 e2).2.1 with
        | false =>
          have HE := Lib.hid (HEnd.out _ _ _ _ _ _ _ _ _ hg hlt hy)
          rw [hy] at HU
          clear hg hy HLoop HStep HEnd HFull
          generalize bs (stTake (stUnit l2) l2 e2).1 = S at *
          generalize (stTake (stUnit l2) l2 e2).2.2.1 = c1 at *
          generalize (stTake (stUnit l2) l2 e2).2.2.2.1 = l3 at *
          generalize (stTake (stUnit l2) l2 e2).2.2.2.2 = e3 at *
          generalize (its ++ done).length = m at *
          go_wp2_with (go_at_call 13; (with_reducible refine HU.out.mono ?_); rintro r w1 ⟨rfl, h1⟩; have H1 := Lib.hid h1; clear h1)
          go_ret2
          exact ⟨_, rfl, HE.out _ H1.out⟩
        | true =>
          have HSt := Lib.hid (HStep.out _ _ _ _ _ _ _ _ _ HN1.out hg hlt hy)
          rw [hy] at HU
          clear hg hy HLoop HStep HEnd HFull
          generalize hmm : (its ++ done).length = m at *
          have HMm := Lib.hid hmm
          clear hmm
          generalize (stTake (stUnit l2) l2 e2).1 = x2 at *
          generalize (stTake (stUnit l2) l2 e2).2.2.1 = c1 at *
          generalize (stTake (stUnit l2) l2 e2).2.2.2.1 = l3 at *
          generalize (stTake (stUnit l2) l2 e2).2.2.2.2 = e3 at *
          go_wp2_with (first
            | (go_at_call 13; (with_reducible refine HU.out.mono ?_); rintro r w1 ⟨rfl, h1⟩; obtain ⟨G2, a2, hn2, hB2, hput2⟩ := HSt.out _ h1; have A2 := Lib.hid a2; have HN2 := Lib.hid hn2; have HP2 := Lib.hid hput2; clear a2 hput2 h1 hn2)
            | (at_builtin; refine wpList_put13 rfl _ _ rfl A2.out x2 rfl rfl rfl (by rw [HMm.out]; exact HN2.out) hB2 (n1 := m + 1) (by rw [HMm.out]) ?_; intro g4 c4 w4 h4; have H4 := Lib.hid (HP2.out _ _ h4); clear h4))
          go_roundw
          case rel => exact ⟨k + 1, l3, e3, _, by omega, by go_num, H4.out⟩
          case measure => simp [intOf]; omega
      · have hk6 : k = 600 := by omega
        subst hk6
        have HE := Lib.hid (HFull.out _ _ _ _ _ _ _ _ hg)
        clear hg HLoop HStep HEnd HFull
        go_wp2_with fail
        go_ret2
        exact ⟨_, rfl, HE.out⟩
end Go.Proofs.Ytlalkpgipenkaaa
