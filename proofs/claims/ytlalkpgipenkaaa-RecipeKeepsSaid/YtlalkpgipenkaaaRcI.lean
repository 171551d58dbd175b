/- Layer 14: steps one behind the other keep what is safe; Eval; Few; based. -/
import Derived.Test.YtlalkpgipenkaaaRcG
import Derived.Test.YtlalkpgipenkaaaRcH
namespace Go.Proofs.Ytlalkpgipenkaaa
open Go.RowKit

def BasedIn (l : List OpR) : Prop := ∃ o ∈ l, o.kind = 4
theorem StepsTo.safe {H : Int} {hs : ByteArray} {L0 : List Ent} {had : Int} {known sent : List Int} (hG : Good L0) (hH : HidAt H hs L0) (hk : ∀ x ∈ known, SafeZ H False L0 x) (hs' : ∀ x ∈ sent, SafeZ H False L0 x)
    {xs : List OpR} {L : List Ent} {rs : List Int} (h : StepsTo L0 had known sent xs L rs) (hlen : L0.length + xs.length < 1073741824) (hd : ∀ o ∈ xs, o.kind = 0 → bs o.s ≠ hs) :
    ∀ (i : Nat) (x : Int), rs[i]? = some x → SafeZ H (BasedIn (xs.take (i + 1))) L x := by
  induction h with
  | nil => intro i x hx; simp at hx
  | @snoc xs L rs o m h k ih =>
    simp only [List.length_append, List.length_cons, List.length_nil] at hlen
    have ih := ih (by omega) (fun o ho => hd o (List.mem_append_left _ ho))
    have g := h.grown hG (by omega)
    have hll := h.lens
    have hLl : L.length < 1073741824 := by have := g.len; omega
    have gm := k.grown g.good hLl
    intro i x hx
    by_cases hi : i < rs.length
    · rw [List.getElem?_append_left hi] at hx
      rw [List.take_append_of_le_length (by omega)]
      exact (ih i x hx).mono gm.pre id
    · have hil : i = rs.length := by
        have := (List.getElem?_eq_some_iff.1 hx).1
        simp at this
        omega
      subst hil
      rw [List.getElem?_append_right (Nat.le_refl _)] at hx
      simp at hx
      subst hx
      have ht : (xs ++ [o]).take (rs.length + 1) = xs ++ [o] := List.take_of_length_le (by simp; omega)
      rw [ht]
      refine k.safe g.good hLl (hH.mono g.pre) (fun x hx => (hk x hx).mono g.pre False.elim) (fun x hx => (hs' x hx).mono g.pre False.elim) (fun x hx => ?_) (fun h4 => ⟨o, by simp, h4⟩) (hd o (by simp))
      obtain ⟨j, hj⟩ := List.mem_iff_getElem?.1 hx
      exact (ih j x hj).mono (List.prefix_refl _) fun ⟨o', ho', h4⟩ => ⟨o', List.mem_append_left _ (List.mem_of_mem_take ho'), h4⟩

set_option maxRecDepth 100000 in
theorem cEval_any {B A : Nat} {L0 : List Ent} {F0 : Nat → Prop} {w : World} (ha : ArenaAt B A L0 F0 w) (hG : Good L0) (hlen : L0.length < 1000000000) {vk vs vo : Value} {known sent : List Int} {l : List OpR}
    (hk : IdsAt w vk known) (nk : ∀ k, vk.ownBlock = some k → k < w.heap.size ∧ ¬ F0 k) (hs : IdsAt w vs sent) (ns : ∀ k, vs.ownBlock = some k → k < w.heap.size ∧ ¬ F0 k) (ho : OpsAt w vo l) (no : l ≠ [] → ∀ k, vo.ownBlock = some k → ¬ F0 k) (hl : l.length ≤ 64) (hS : ∀ o ∈ l, o.s.length ≤ 1000000) :
    Calls Try.prog 45 #[.pointer (some ⟨A, 0, none⟩), vk, vs, vo] w fun r w' => ∃ L rs F, r = .returned (.int .i64 (atZ rs ((rs.length : Int) - 1))) ∧ StepsTo L0 L0.length known sent l L rs ∧ ArenaAt B A L F w' ∧ Moves F0 w w' ∧ (∀ i, F i → F0 i ∨ w.heap.size ≤ i) := by
  have HAll := Lib.hid (cAll_any ha hG hlen hk nk hs ns ho no hl hS)
  have HL := Lib.hid hl
  clear ha hG hlen hk nk hs ns ho no hl hS
  go_enter Try.func45, Try.ntmps45
  go_wp2_with (first
    | (go_at_call 34; (with_reducible refine HAll.out.mono ?_); rintro r w1 ⟨L, rs, vr, F, rfl, hst, hid, har, hm, hF, hn⟩; obtain ⟨ar, cr, rfl, hid2⟩ := hid; have hn64 : rs.length ≤ 64 := (by have := HL.out; have := hst.lens; omega); have HAt := Lib.hid (cAt_any (w := w1) (v := .slice ar rs.length cr) ⟨ar, cr, rfl, hid2⟩ ((rs.length : Int) - 1)); have H1 := Lib.hid hst; have H2 := Lib.hid har; have H3 := Lib.hid hm; have H4 := Lib.hid hF; clear hst har hm hF hn hid2)
    | (go_at_call 63; (with_reducible refine HAt.out.mono ?_); rintro r w' ⟨rfl, hw⟩; have hw := hw.symm; subst hw))
  go_ret
  exact ⟨L, rs, F, rfl, H1.out, H2.out, H3.out, H4.out⟩

def fewP14 (l : List OpR) : Bool := decide (l.length ≤ 70 ∧ ∀ x ∈ l, x.s.length ≤ 200)
set_option maxRecDepth 100000 in
theorem few14_any {w : World} {v : Value} {l : List OpR} (h : OpsAt w v l) (hs : ∀ x ∈ l, x.s.length ≤ 9223372036854775807) (hl : l.length ≤ 9223372036854775807) :
    Calls Try.prog 20 #[v] w fun e w' => e = .returned (.bool (fewP14 l)) ∧ w' = w := by
  obtain ⟨ao, cap, rfl, hc⟩ := h
  by_cases hm : l.length ≤ 70
  · have q0 : decide ((l.length : Int) > 70) = false := decide_eq_false (by omega)
    have HC := Lib.hid hc
    have HS := Lib.hid hs
    clear hc hs
    go_enter Try.func20, Try.ntmps20
    go_wp2_with fail
    go_loopw [3] (fun i wr => ∃ k : Nat, k ≤ l.length ∧ i = .int .i64 (k : Int) ∧ (∀ x ∈ l.take k, x.s.length ≤ 200) ∧ wr = w) (fun i _ => l.length - (intOf i).toNat)
    case atStart => exact ⟨0, Nat.zero_le _, rfl, by simp, rfl⟩
    case round =>
      obtain ⟨k, hk, rfl, hall, rfl⟩ := hrel
      have HAll := Lib.hid hall
      clear hall
      by_cases hlt : k < l.length
      · obtain ⟨b, off, rfl, hb, hcell⟩ := HC.out (by intro h; simp [h] at hlt)
        obtain ⟨x, hx⟩ : ∃ x, x = l[k] := ⟨_, rfl⟩
        have c4 := (hcell k x (by simp [hlt, hx])).2.2.2.2
        have hsz := bs_size x.s
        have hxs := HS.out x (by rw [hx]; exact List.getElem_mem hlt)
        have q1 : decide ((k : Int) < (l.length : Int)) = true := decide_eq_true (by omega)
        by_cases h2 : x.s.length ≤ 200
        · have HN : Hid (∀ y ∈ l.take (k + 1), y.s.length ≤ 200) := fun y hy => by
            rw [List.take_succ_eq_append_getElem hlt, List.mem_append] at hy
            rcases hy with hy | hy
            · exact HAll.out y hy
            · simp at hy
              rw [hy, ← hx]; exact h2
          have q2 : decide (((bs x.s).size : Int) > 200) = false := decide_eq_false (by omega)
          clear hcell hx
          go_wp2_with fail
          go_roundw
          case rel => exact ⟨k + 1, by omega, by go_num, HN.out, trivial⟩
          case measure => simp [intOf]; omega
        · have HF : Hid (fewP14 l = false) := decide_eq_false (fun h => h2 (h.2 x (by rw [hx]; exact List.getElem_mem hlt)))
          have q2 : decide (((bs x.s).size : Int) > 200) = true := decide_eq_true (by omega)
          clear hcell hx
          go_wp2_with fail
          go_ret
          exact ⟨by rw [HF.out]; rfl, rfl⟩
      · have hkl : k = l.length := by omega
        subst hkl
        have HT : Hid (fewP14 l = true) := decide_eq_true ⟨hm, fun x hx => HAll.out x (by rw [List.take_length]; exact hx)⟩
        have q1 : decide ((l.length : Int) < (l.length : Int)) = false := decide_eq_false (by omega)
        clear HC
        go_wp2_with fail
        go_ret
        exact ⟨by rw [HT.out]; rfl, rfl⟩
  · have q0 : decide ((l.length : Int) > 70) = true := decide_eq_true (by omega)
    have HF : Hid (fewP14 l = false) := decide_eq_false (fun h => hm h.1)
    clear hc hs
    generalize l.length = n at *
    go_enter Try.func20, Try.ntmps20
    go_wp2_with fail
    go_ret
    exact ⟨by rw [HF.out]; rfl, rfl⟩

set_option maxRecDepth 100000 in
theorem based14_any {w : World} {v : Value} {l : List OpR} (h : OpsAt w v l) (hl : l.length ≤ 9223372036854775807) (hb : BasedIn l) :
    Calls Try.prog 36 #[v] w fun e w' => e = .returned (.bool true) ∧ w' = w := by
  obtain ⟨ao, cap, rfl, hc⟩ := h
  have HC := Lib.hid hc
  have HB := Lib.hid hb
  clear hc hb
  go_enter Try.func36, Try.ntmps36
  go_wp2_with fail
  go_loopw [3] (fun i wr => ∃ k : Nat, k ≤ l.length ∧ i = .int .i64 (k : Int) ∧ (∀ x ∈ l.take k, x.kind ≠ 4) ∧ wr = w) (fun i _ => l.length - (intOf i).toNat)
  case atStart => exact ⟨0, Nat.zero_le _, rfl, by simp, rfl⟩
  case round =>
    obtain ⟨k, hk, rfl, hall, rfl⟩ := hrel
    have HAll := Lib.hid hall
    clear hall
    by_cases hlt : k < l.length
    · obtain ⟨b, off, rfl, hb, hcell⟩ := HC.out (by intro h; simp [h] at hlt)
      obtain ⟨x, hx⟩ : ∃ x, x = l[k] := ⟨_, rfl⟩
      have c0 := (hcell k x (by simp [hlt, hx])).1
      have q1 : decide ((k : Int) < (l.length : Int)) = true := decide_eq_true (by omega)
      by_cases h2 : x.kind = 4
      · have c1 : wr.cell? ⟨b, off + k * 5, none⟩ = some (.int .i64 4) := by rw [c0, h2]
        clear hcell hx c0
        go_wp2_with fail
        go_ret
        exact ⟨rfl, rfl⟩
      · have HN : Hid (∀ y ∈ l.take (k + 1), y.kind ≠ 4) := fun y hy => by
          rw [List.take_succ_eq_append_getElem hlt, List.mem_append] at hy
          rcases hy with hy | hy
          · exact HAll.out y hy
          · simp at hy
            rw [hy, ← hx]; exact h2
        have q2 : (x.kind == 4) = false := by simpa using h2
        clear hcell hx
        go_wp2_with fail
        go_roundw
        case rel => exact ⟨k + 1, by omega, by go_num, HN.out, trivial⟩
        case measure => simp [intOf]; omega
    · have hkl : k = l.length := by omega
      subst hkl
      exfalso
      obtain ⟨o, ho, h4⟩ := HB.out
      exact HAll.out o (by rw [List.take_length]; exact ho) h4
end Go.Proofs.Ytlalkpgipenkaaa
