/- Layer 37: Sessions, Busy; the law's rises and has; the document's Events and Lost. -/
import Derived.Test.YtjphlhehhigpjaaCeJ
import Derived.Test.YtjphlhehhigpjaaCe2
import Derived.Deep.DeepCutAuto
namespace Go.Proofs.Ytjphlhehhigpjaa
open Go.RowKit Go.Maps Go.WideMaps

/-- What Sessions says. -/
def SessP (l : List EvV) (w : World) (e : Ending) (w' : World) : Prop := ∃ (v : Value) (L : List Int), e = .returned v ∧ IdsAt w' v L ∧ L.Pairwise (· < ·) ∧ (∀ x, x ∈ L ↔ 0 < evN l x l.length) ∧ L.length ≤ l.length ∧ Below w.heap.size w w'
theorem cntF_some (l : List EvV) (k : Nat) (x : Int) : (cntF l k (keyI x)).isSome = true ↔ 0 < evN l x k := by
  rw [cntF_key]
  split <;> simp_all
set_option maxHeartbeats 2000000 in
set_option maxRecDepth 100000 in
theorem sessions_any {w : World} {v : Value} {l : List EvV} (h : EventsAt w v l) (hl : l.length ≤ 900) (ho : ∀ x ∈ l, ∀ u ∈ x.row.toList, CellOk u) : Calls Try.prog 14 #[v] w (SessP l w) := by
  have HP := Lib.hid (per_any h hl ho)
  obtain ⟨ao, cap, rfl, _⟩ := h
  clear ho
  go_enter Try.func14, Try.ntmps14
  go_wp2_with (first
    | (go_at_call 31; (with_reducible refine HP.out.mono ?_); rintro e w1 ⟨rfl, ⟨n, hn, hm⟩, b1⟩; have HM := Lib.hid hm; have HB := Lib.hid b1; clear hm b1)
    | (go_at_call 30; (with_reducible refine (ascF0_any HM.out (by omega)).mono ?_); rintro e w2 ⟨v2, L, rfl, hi, hp, hmm, hln, b2⟩))
  go_ret
  exact ⟨v2, L, rfl, hi, hp, fun x => (hmm x).trans (cntF_some l _ x), by omega, HB.out.trans (b2.mono HB.out.size)⟩
/-- What Busy says. -/
def BusyR (l : List EvV) (L : List Int) (b : Int) (n : Nat) : Prop := (n = 0 ∧ b = 0 ∧ ∀ x ∈ L, evN l x l.length = 0) ∨ (0 < n ∧ n = evN l b l.length ∧ b ∈ L ∧ ∀ x ∈ L, evN l x l.length ≤ n ∧ (evN l x l.length = n → b ≤ x))
def BusyP (l : List EvV) (w : World) (e : Ending) (w' : World) : Prop := ∃ (b : Int) (n : Nat), e = .returned (.tuple #[.int .i64 b, .int .i64 (n : Int)]) ∧ ((n = 0 ∧ b = 0 ∧ ∀ x, evN l x l.length = 0) ∨ (0 < n ∧ n = evN l b l.length ∧ ∀ x, evN l x l.length ≤ n ∧ (evN l x l.length = n → b ≤ x))) ∧ Below w.heap.size w w'
theorem busy_step {l : List EvV} {L : List Int} {b : Int} {n k : Nat} (hp : L.Pairwise (· < ·)) (hk : k < L.length) (h : BusyR l (L.take k) b n) :
    (evN l L[k] l.length > n → BusyR l (L.take (k + 1)) L[k] (evN l L[k] l.length)) ∧ (¬ evN l L[k] l.length > n → BusyR l (L.take (k + 1)) b n) := by
  rw [List.take_succ_eq_append_getElem hk]
  have hlt : ∀ x ∈ L.take k, x < L[k] := fun x hx => by
    obtain ⟨j, hj, rfl⟩ := List.mem_take_iff_getElem.1 hx
    exact List.pairwise_iff_getElem.1 hp j k (by omega) hk (by omega)
  refine ⟨fun hg => .inr ⟨by omega, rfl, List.mem_append_right _ (List.mem_singleton.2 rfl), fun x hx => ?_⟩, fun hg => ?_⟩
  · rcases List.mem_append.1 hx with hx | hx
    · rcases h with ⟨h1, _, h3⟩ | ⟨_, _, _, h4⟩
      · have := h3 x hx; omega
      · have := (h4 x hx).1; omega
    · simp at hx; subst hx; exact ⟨Nat.le_refl _, fun _ => Int.le_refl _⟩
  · rcases h with ⟨h1, h2, h3⟩ | ⟨h1, h2, h3, h4⟩
    · refine .inl ⟨h1, h2, fun x hx => ?_⟩
      rcases List.mem_append.1 hx with hx | hx
      · exact h3 x hx
      · simp at hx; subst hx; omega
    · refine .inr ⟨h1, h2, List.mem_append_left _ h3, fun x hx => ?_⟩
      rcases List.mem_append.1 hx with hx | hx
      · exact h4 x hx
      · simp at hx; subst hx
        have := hlt b h3
        omega
set_option maxHeartbeats 4000000 in
set_option maxRecDepth 100000 in
theorem busy_any {w : World} {v : Value} {l : List EvV} (h : EventsAt w v l) (hl : l.length ≤ 900) (ho : ∀ x ∈ l, ∀ u ∈ x.row.toList, CellOk u) : Calls Try.prog 16 #[v] w (BusyP l w) := by
  have HP := Lib.hid (per_any h hl ho)
  have HWf : Hid (∀ x, 0 < evN l x l.length → (Lit.int .i64 x).wf = true) := fun x hx => by
    unfold evN at hx
    rw [List.countP_pos_iff] at hx
    obtain ⟨e, he, hp⟩ := hx
    unfold evP at hp
    simp only [Bool.and_eq_true, beq_iff_eq] at hp
    rw [← hp.2]
    exact EvV.ok_se (ho e (List.mem_of_mem_take he))
  have HLe : Hid (∀ x, evN l x l.length ≤ l.length) := fun x => evN_le l x _
  obtain ⟨ao, cap, rfl, _⟩ := h
  clear ho
  go_enter Try.func16, Try.ntmps16
  go_upto_region 4 with (first
    | (go_at_call 31; (with_reducible refine HP.out.mono ?_); rintro e w1 ⟨rfl, ⟨n, hn, hm⟩, b1⟩; have HM := Lib.hid hm; have HB := Lib.hid b1; clear hm b1)
    | (go_at_call 30; (with_reducible refine (ascF0_any HM.out (by omega)).mono ?_); rintro e w2 ⟨v2, L, rfl, hi, hp, hmm, hln, b2⟩; obtain ⟨ao2, cap2, rfl, hc2⟩ := hi; have HC2 := Lib.hid hc2; have HPw := Lib.hid hp; have HMm : Hid (∀ x, x ∈ L ↔ 0 < evN l x l.length) := (fun x => (hmm x).trans (cntF_some l _ x)); have HM2 := Lib.hid (HM.out.below b2); have HB2 := Lib.hid (HB.out.trans (b2.mono HB.out.size)); clear hc2 hp hmm b2))
  clear HM HB HP
  go_loopw [4, 5, 15] (fun u v i wr => ∃ (k : Nat) (b : Int) (m : Nat), k ≤ L.length ∧ i = .int .i64 k ∧ u = .int .i64 b ∧ v = .int .i64 (m : Int) ∧ m ≤ l.length ∧ Hid (BusyR l (L.take k) b m) ∧ wr = w2) (fun _ _ i _ => L.length - (intOf i).toNat)
  case atStart => exact ⟨0, 0, 0, Nat.zero_le _, rfl, rfl, rfl, Nat.zero_le _, Lib.hid (.inl ⟨rfl, rfl, by simp⟩), rfl⟩
  case round =>
    obtain ⟨k, b, m, hk, rfl, rfl, rfl, hmb, HR, hwr⟩ := hrel
    have hw := hwr.symm
    subst hw
    by_cases hlt : k < L.length
    · have hki : (k : Int) < (L.length : Int) := by omega
      obtain ⟨bb, off, rfl, hb, hcell⟩ := HC2.out (by rintro rfl; simp at hlt)
      have x0 := hcell k _ (List.getElem?_eq_getElem hlt)
      have hpos : 0 < evN l L[k] l.length := (HMm.out _).1 (List.getElem_mem hlt)
      have hkey := keyI_ok (HWf.out _ hpos)
      have hev := HLe.out L[k]
      have HS := Lib.hid (busy_step HPw.out hlt HR.out)
      have hlk : (Instr.lookup 65 (.map (some w.heap.size)) (.int .i64 L[k]) false).run Try.prog w2 = .ok (.int .i64 ((evN l L[k] l.length : Nat) : Int)) w2 := (HM2.out.look lawInt31 Try.underlying65 (zeroInt32 w2) hkey).trans (by rw [cntF_key, if_pos hpos]; rfl)
      clear hcell HC2 HPw HMm HWf HLe HM2 HR hkey hpos
      generalize hx : L[k] = x at *
      have HXx := Lib.hid hx
      clear hx
      generalize evN l x l.length = N at *
      by_cases hg : N > m
      · have q : decide ((N : Int) > (m : Int)) = true := decide_eq_true (by omega)
        have qn : decide (m < N) = true := decide_eq_true (by omega)
        have qi : decide ((m : Int) < (N : Int)) = true := decide_eq_true (by omega)
        have qp : m < N := by omega
        have HS2 := Lib.hid (HS.out.1 hg)
        clear HS hg
        go_wp2_with fail
        go_roundw
        case rel => exact ⟨k + 1, x, N, by omega, by go_num, rfl, rfl, hev, HS2, trivial⟩
        case measure => simp [intOf]; omega
      · have q : decide ((N : Int) > (m : Int)) = false := decide_eq_false (by omega)
        have qn : decide (m < N) = false := decide_eq_false (by omega)
        have qi : decide ((m : Int) < (N : Int)) = false := decide_eq_false (by omega)
        have qp : ¬ m < N := by omega
        have HS2 := Lib.hid (HS.out.2 hg)
        clear HS hg
        go_wp2_with fail
        go_roundw
        case rel => exact ⟨k + 1, b, m, by omega, by go_num, rfl, rfl, hmb, HS2, trivial⟩
        case measure => simp [intOf]; omega
    · have hkl : k = L.length := by omega
      subst hkl
      have HR2 : Hid (BusyR l L b m) := by have := HR.out; rw [List.take_length] at this; exact this
      clear hlt HC2 HWf HLe HM2 HR
      go_wp2_with fail
      go_ret2
      refine ⟨b, m, rfl, ?_, HB2.out⟩
      have hz : ∀ x, x ∉ L → evN l x l.length = 0 := fun x hx => by
        rcases Nat.eq_zero_or_pos (evN l x l.length) with h | h
        · exact h
        · exact absurd ((HMm.out x).2 h) hx
      rcases HR2.out with ⟨h1, h2, h3⟩ | ⟨h1, h2, h3, h4⟩
      · refine .inl ⟨h1, h2, fun x => ?_⟩
        by_cases hx : x ∈ L
        · exact h3 x hx
        · exact hz x hx
      · refine .inr ⟨h1, h2, fun x => ?_⟩
        by_cases hx : x ∈ L
        · exact h4 x hx
        · have := hz x hx; omega
set_option maxHeartbeats 2000000 in
set_option maxRecDepth 100000 in
theorem has37_any {w : World} {v : Value} {L : List Int} (h : IdsAt w v L) (hl : L.length ≤ 1000) (x : Int) : Calls Try.prog 19 #[v, .int .i64 x] w fun e w' => e = .returned (.bool (decide (x ∈ L))) ∧ w' = w := by
  obtain ⟨ao, cap, rfl, hc⟩ := h
  have HC := Lib.hid hc
  have HN : Hid ((∀ j (hj : j < L.length), L[j] ≠ x) → decide (x ∈ L) = false) := fun hh => decide_eq_false fun hx => by obtain ⟨j, hj, e⟩ := List.getElem_of_mem hx; exact hh j hj e
  have HY : Hid (∀ j (hj : j < L.length), L[j] = x → decide (x ∈ L) = true) := fun j hj e => decide_eq_true (e ▸ List.getElem_mem hj)
  clear hc
  generalize decide (x ∈ L) = z at *
  go_enter Try.func19, Try.ntmps19
  go_wp2_with fail
  go_loopw [5] (fun i wr => ∃ k : Nat, k ≤ L.length ∧ i = .int .i64 k ∧ Hid (∀ j (hj : j < L.length), j < k → L[j] ≠ x) ∧ wr = w) (fun i _ => L.length - (intOf i).toNat)
  case atStart => exact ⟨0, Nat.zero_le _, rfl, Lib.hid (fun j _ h => absurd h (Nat.not_lt_zero j)), rfl⟩
  case round =>
    obtain ⟨k, hk, rfl, HT, hwr⟩ := hrel
    have hw := hwr.symm
    subst hw
    by_cases hlt : k < L.length
    · have HLT := Lib.hid hlt
      have q0 : (k : Int) < (L.length : Int) := by omega
      obtain ⟨b, off, rfl, hb, hcell⟩ := HC.out (by intro h; simp [h] at hlt)
      have c0 := hcell k _ (List.getElem?_eq_getElem hlt)
      have HYk := Lib.hid (HY.out k hlt)
      have HNk : Hid (L[k] ≠ x → ∀ j (hj : j < L.length), j < k + 1 → L[j] ≠ x) := fun hn j hj h => by
        rcases Nat.lt_or_eq_of_le (Nat.le_of_lt_succ h) with h' | rfl
        · exact HT.out j hj h'
        · exact hn
      clear hcell HC HN HY HT
      generalize L[k] = y at *
      by_cases hx : y = x
      · have qx : (y == x) = true := by rw [hx]; exact beq_self_eq_true _
        have HZ := Lib.hid (HYk.out hx)
        clear HYk HNk hx
        go_wp2_with fail
        go_ret
        exact ⟨by rw [HZ.out]; rfl, rfl⟩
      · have qx : (y == x) = false := beq_eq_false_iff_ne.2 hx
        have HZ := Lib.hid (HNk.out hx)
        clear HYk HNk hx
        go_wp2_with fail
        go_roundw
        case rel => exact ⟨k + 1, by have := HLT.out; omega, by go_num, HZ, trivial⟩
        case measure => have := HLT.out; simp [intOf]; omega
    · have hkl : k = L.length := by omega
      subst hkl
      have HZ := Lib.hid (HN.out (fun j hj => HT.out j hj hj))
      clear hlt HC HN HY HT
      go_wp2_with fail
      go_ret
      exact ⟨by rw [HZ.out]; rfl, rfl⟩
end Go.Proofs.Ytjphlhehhigpjaa
