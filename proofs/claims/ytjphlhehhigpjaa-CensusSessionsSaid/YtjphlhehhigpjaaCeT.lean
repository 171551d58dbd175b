/- Layer 37: the law CensusSessions. -/
import Derived.Test.YtjphlhehhigpjaaCeQ
import Derived.Test.YtjphlhehhigpjaaCe7
namespace Go.Proofs.Ytjphlhehhigpjaa
open Go.RowKit

theorem ids_below37 {w w' : World} {v : Value} {L : List Int} (h : IdsAt w v L) (hb : Below w.heap.size w w') : IdsAt w' v L := by
  obtain ⟨ao, cap, rfl, hc⟩ := h
  refine ⟨ao, cap, rfl, fun hne => ?_⟩
  obtain ⟨b, off, e, hlt, hk⟩ := hc hne
  exact ⟨b, off, e, Nat.lt_of_lt_of_le hlt hb.size, fun k x hx => (hb.cell (p := ⟨b, off + k, none⟩) hlt).trans (hk k x hx)⟩
set_option maxHeartbeats 8000000 in
set_option maxRecDepth 100000 in
theorem CensusSessions_any {w : World} {v : Value} {l : List EvV} (h : EventsAt w v l) (ho : ∀ x ∈ l, ∀ u ∈ x.row.toList, CellOk u) :
    Calls Try.prog 5 #[v] w fun e w' => e = .returned (.bool true) ∧ Below w.heap.size w w' := by
  have HAw : Hid (∀ W, Calls Try.prog 7 #[] W fun e w' => e = .returned (.bool true) ∧ Below W.heap.size W w') := fun W => awake37_any W
  have HFe := Lib.hid (few37_any h ho)
  have HSs : Hid (∀ W, l.length ≤ 60 → Below w.heap.size w W → Calls Try.prog 14 #[v] W (SessP l W)) := fun W hl hb => sessions_any (h.below hb) (by omega) ho
  have HLo : Hid (∀ W, l.length ≤ 60 → Below w.heap.size w W → Calls Try.prog 15 #[v] W (LostP l W)) := fun W hl hb => lost_any (h.below hb) (by omega) ho
  have HBu : Hid (∀ W, l.length ≤ 60 → Below w.heap.size w W → Calls Try.prog 16 #[v] W (BusyP l W)) := fun W hl hb => busy_any (h.below hb) (by omega) ho
  have HEv : Hid (∀ W s, l.length ≤ 60 → Below w.heap.size w W → Calls Try.prog 18 #[v, .int .i64 s] W fun e w' => e = .returned (.int .i64 ((evN l s l.length : Nat) : Int)) ∧ w' = W) := fun W s hl hb => r37Events_any (h.below hb) (by omega) s
  have HRl : Hid (∀ W s, l.length ≤ 60 → Below w.heap.size w W → Calls Try.prog 20 #[v, .int .i64 s] W fun e w' => e = .returned (.bool (lostB l l.length s)) ∧ w' = W) := fun W s hl hb => r37Lost_any (h.below hb) (by omega) s
  obtain ⟨ao, cap, rfl, hc⟩ := h
  have HC := Lib.hid hc
  clear ho hc
  go_enter Try.func5, Try.ntmps5
  go_upto_if 14 with (first
    | (go_at_call 6; (with_reducible refine HFe.out.mono ?_); rintro e w1 ⟨z, rfl, hz1, b1⟩; have HZ := Lib.hid hz1; have B1 := Lib.hid b1; clear hz1 b1))
  cases z with
  | false =>
    clear HSs HLo HBu HEv HRl HC HZ
    go_wp2_with (first
      | (go_at_call 7; (with_reducible refine (HAw.out _).mono ?_); rintro e w2 ⟨rfl, b2⟩; have B2 := Lib.hid (B1.out.trans (b2.mono B1.out.size)); clear b2))
    go_ret
    exact ⟨rfl, B2.out⟩
  | true =>
  have hl : l.length ≤ 60 := HZ.out rfl
  clear HZ HFe
  go_upto_region 5 with (first
    | (go_at_call 14; (with_reducible refine (HSs.out _ hl B1.out).mono ?_); rintro e w2 ⟨v3, L, rfl, hi, hpL, hmL, hnL, b2⟩; have HI2 := Lib.hid hi; have HPL := Lib.hid hpL; have HML := Lib.hid hmL; have B2 := Lib.hid (B1.out.trans (b2.mono B1.out.size)); clear hi hpL hmL b2)
    | (go_at_call 15; (with_reducible refine (HLo.out _ hl B2.out).mono ?_); rintro e w3 ⟨v4, M, rfl, hi, hpM, hmM, hnM, b3⟩; have HI3 := Lib.hid (ids_below37 HI2.out b3); have HJ3 := Lib.hid hi; have HPM := Lib.hid hpM; have HMM := Lib.hid hmM; have B3 := Lib.hid (B2.out.trans (b3.mono B2.out.size)); clear hi hpM hmM b3)
    | (go_at_call 16; (with_reducible refine (HBu.out _ hl B3.out).mono ?_); rintro e w4 ⟨bb, n, rfl, hbs, b4⟩; have HI4 := Lib.hid (ids_below37 HI3.out b4); have HJ4 := Lib.hid (ids_below37 HJ3.out b4); have HBs := Lib.hid hbs; have B4 := Lib.hid (B3.out.trans (b4.mono B3.out.size)); clear hbs b4))
  clear HSs HLo HBu HI2 HI3 HJ3 B1 B2 B3
  obtain ⟨ao3, cap3, hv3, _⟩ := id HI4.out
  subst hv3
  obtain ⟨ao4, cap4, hv4, _⟩ := id HJ4.out
  subst hv4
  have HNb : Hid (n = evN l bb l.length) := by
    show n = _
    rcases HBs.out with ⟨h1, h2, h3⟩ | ⟨_, h2, _⟩
    · rw [h1, h3]
    · exact h2
  have HLe : Hid (∀ x, evN l x l.length ≤ n) := fun x => by
    rcases HBs.out with ⟨h1, h2, h3⟩ | ⟨_, _, h3⟩
    · rw [h3 x]; omega
    · exact (h3 x).1
  have HMn : Hid (∀ x, evN l x l.length = n → 0 < n → bb ≤ x) := fun x hx hn => by
    rcases HBs.out with ⟨h1, _, _⟩ | ⟨_, _, h3⟩
    · omega
    · exact (h3 x).2 hx
  have HLn : Hid (0 < n ↔ 0 < L.length) := by
    constructor
    · intro hn
      rw [HNb.out] at hn
      exact List.length_pos_of_mem ((HML.out bb).2 hn)
    · intro hn
      have hx := List.getElem_mem hn
      have := (HML.out _).1 hx
      have := HLe.out (L[0])
      omega
  have HB0 : Hid (n = 0 → bb = 0) := fun hn => by
    rcases HBs.out with ⟨_, h2, _⟩ | ⟨h1, _⟩
    · exact h2
    · omega
  have HEb := Lib.hid (fun W hb => HEv.out W bb hl hb)
  rw [← HNb.out] at HEb
  have HR1 := Lib.hid (fun W (hb : Below w4.heap.size w4 W) => rises37_any (ids_below37 HI4.out hb) (by omega) HPL.out)
  have HR2 := Lib.hid (fun W (hb : Below w4.heap.size w4 W) => rises37_any (ids_below37 HJ4.out hb) (by omega) HPM.out)
  have qa : decide ((l.length : Int) < (L.length : Int)) = false := decide_eq_false (by omega)
  have qb : decide ((l.length : Int) < (M.length : Int)) = false := decide_eq_false (by omega)
  have qa2 : ¬ l.length < L.length := by omega
  have qb2 : ¬ l.length < M.length := by omega
  clear HBs HPL HPM
  go_cut [57] (fun u wx => u = .bool false ∧ Hid (Below w4.heap.size w4 wx))
  case first =>
    clear HAw HEv HRl HC HI4 HJ4 HML HMM HNb HLe HMn HLn HB0
    go_wp2_with (first
      | (go_at_call 17; (with_reducible refine (HR1.out _ (Below.refl _ _)).mono ?_); rintro e w5 ⟨rfl, b5⟩; have B5 := Lib.hid b5; clear b5)
      | (go_at_call 17; (with_reducible refine (HR2.out _ B5.out).mono ?_); rintro e w6 ⟨rfl, b6⟩; have B6 := Lib.hid (B5.out.trans (b6.mono B5.out.size)); clear b6)
      | (go_at_call 18; (with_reducible refine (HEb.out _ (B4.out.trans (B6.out.mono B4.out.size))).mono ?_); rintro e w7 ⟨rfl, hw⟩; have hw := hw.symm; subst hw))
    go_meet
    case rel => exact ⟨by first | rfl | simp, B6⟩
  case rest =>
  obtain ⟨rfl, B6⟩ := hcut
  have HIw := Lib.hid (ids_below37 HI4.out B6.out)
  have HJw := Lib.hid (ids_below37 HJ4.out B6.out)
  have BW := Lib.hid (B4.out.trans (B6.out.mono B4.out.size))
  clear HEb HR1 HR2 qa qb qa2 qb2 HI4 HJ4 B4 B6 HNb
  generalize wc = W at *
  have HE2 := Lib.hid (fun s => HEv.out W s hl BW.out)
  have HL2 := Lib.hid (fun s => HRl.out W s hl BW.out)
  have HH1 := Lib.hid (fun s => has37_any HIw.out (by omega) s)
  have HH2 := Lib.hid (fun s => has37_any HJw.out (by omega) s)
  have HD1 : Hid (∀ s, decide (s ∈ L) = decide (0 < evN l s l.length)) := fun s => decide_eq_decide.2 (HML.out s)
  have HD2 : Hid (∀ s, decide (s ∈ M) = lostB l l.length s) := fun s => by
    rw [Bool.eq_iff_iff, decide_eq_true_iff]; exact HMM.out s
  have HCe : Hid (∀ k (hk : k < l.length), ∃ b off, ao = some ⟨b, off, none⟩ ∧ W.cell? ⟨b, off + k * 34 + 1, none⟩ = some (.int .i64 (l[k]).se)) := fun k hk => by
    obtain ⟨b, off, e, hb, hcell⟩ := HC.out (by rintro rfl; simp at hk)
    exact ⟨b, off, e, (BW.out.cell (p := ⟨b, off + k * 34 + 1, none⟩) hb).trans (hcell k _ (List.getElem?_eq_getElem hk) 1 _ (EvV.row_se _))⟩
  clear HEv HRl HC
  go_wp2_with fail
  go_loopw [7] (fun i wr => ∃ k : Nat, k ≤ l.length ∧ i = .int .i64 k ∧ wr = W) (fun i _ => l.length - (intOf i).toNat)
  case atStart => exact ⟨0, Nat.zero_le _, rfl, rfl⟩
  case round =>
  obtain ⟨k, hk, rfl, hwr⟩ := hrel
  have hwr := hwr.symm
  subst hwr
  by_cases hlt : k < l.length
  · have q0 : (k : Int) < (l.length : Int) := by omega
    obtain ⟨b, off, rfl, x1⟩ := HCe.out k hlt
    have HEs := Lib.hid (HE2.out (l[k]).se)
    have HLs := Lib.hid (HL2.out (l[k]).se)
    have HHs := Lib.hid (HH1.out (l[k]).se)
    have HHt := Lib.hid (HH2.out (l[k]).se)
    rw [HD1.out] at HHs
    rw [HD2.out] at HHt
    have hle := HLe.out (l[k]).se
    have hmn := HMn.out (l[k]).se
    clear HE2 HL2 HH1 HH2 HD1 HD2 HCe HLe HMn HLn HB0 HML HMM HIw HJw HAw
    generalize evN l (l[k]).se l.length = N at *
    generalize lostB l l.length (l[k]).se = lo at *
    generalize (l[k]).se = s at *
    have q1 : decide ((N : Int) > (n : Int)) = false := decide_eq_false (by omega)
    have q1n : ¬ n < N := by omega
    have qlo : (lo != lo) = false := by cases lo <;> rfl
    by_cases hN : 0 < N
    · have qN : decide (0 < N) = true := decide_eq_true hN
      have qNi : decide ((N : Int) > 0) = true := decide_eq_true (by omega)
      have hn0 : 0 < n := by omega
      have qn : decide ((n : Int) > 0) = true := decide_eq_true (by omega)
      by_cases hNn : N = n
      · subst hNn
        have hsb := hmn rfl hN
        have qs : decide (s < bb) = false := decide_eq_false (by omega)
        clear hmn
        go_wp2_with (first
          | (go_at_call 18; (with_reducible refine HEs.out.mono ?_); rintro e w7 ⟨rfl, hw⟩; have hw := hw.symm; subst hw)
          | (go_at_call 19; (with_reducible refine HHs.out.mono ?_); rintro e w7 ⟨rfl, hw⟩; have hw := hw.symm; subst hw)
          | (go_at_call 19; (with_reducible refine HHt.out.mono ?_); rintro e w7 ⟨rfl, hw⟩; have hw := hw.symm; subst hw)
          | (go_at_call 20; (with_reducible refine HLs.out.mono ?_); rintro e w7 ⟨rfl, hw⟩; have hw := hw.symm; subst hw))
        go_roundw
        case rel => exact ⟨k + 1, by omega, by go_num, trivial⟩
        case measure => simp [intOf]; omega
      · have qe : ((N : Int) == (n : Int)) = false := beq_eq_false_iff_ne.2 (by omega)
        have qe2 : (N == n) = false := beq_eq_false_iff_ne.2 hNn
        clear hmn
        go_wp2_with (first
          | (go_at_call 18; (with_reducible refine HEs.out.mono ?_); rintro e w7 ⟨rfl, hw⟩; have hw := hw.symm; subst hw)
          | (go_at_call 19; (with_reducible refine HHs.out.mono ?_); rintro e w7 ⟨rfl, hw⟩; have hw := hw.symm; subst hw)
          | (go_at_call 19; (with_reducible refine HHt.out.mono ?_); rintro e w7 ⟨rfl, hw⟩; have hw := hw.symm; subst hw)
          | (go_at_call 20; (with_reducible refine HLs.out.mono ?_); rintro e w7 ⟨rfl, hw⟩; have hw := hw.symm; subst hw))
        go_roundw
        case rel => exact ⟨k + 1, by omega, by go_num, trivial⟩
        case measure => simp [intOf]; omega
    · have hN0 : N = 0 := by omega
      subst hN0
      by_cases hn : n = 0
      · have qe : ((0 : Int) == (n : Int)) = true := by rw [hn]; rfl
        have qn : decide ((n : Int) > 0) = false := decide_eq_false (by omega)
        have qnn : decide (0 < n) = false := decide_eq_false (by omega)
        have qn0 : ¬ 0 < n := by omega
        clear hmn hn
        go_wp2_with (first
          | (go_at_call 18; (with_reducible refine HEs.out.mono ?_); rintro e w7 ⟨rfl, hw⟩; have hw := hw.symm; subst hw)
          | (go_at_call 19; (with_reducible refine HHs.out.mono ?_); rintro e w7 ⟨rfl, hw⟩; have hw := hw.symm; subst hw)
          | (go_at_call 19; (with_reducible refine HHt.out.mono ?_); rintro e w7 ⟨rfl, hw⟩; have hw := hw.symm; subst hw)
          | (go_at_call 20; (with_reducible refine HLs.out.mono ?_); rintro e w7 ⟨rfl, hw⟩; have hw := hw.symm; subst hw))
        go_roundw
        case rel => exact ⟨k + 1, by omega, by go_num, trivial⟩
        case measure => simp [intOf]; omega
      · have qe : ((0 : Int) == (n : Int)) = false := beq_eq_false_iff_ne.2 (by omega)
        have hne : (0 : Int) ≠ (n : Int) := by omega
        clear hmn
        go_wp2_with (first
          | (go_at_call 18; (with_reducible refine HEs.out.mono ?_); rintro e w7 ⟨rfl, hw⟩; have hw := hw.symm; subst hw)
          | (go_at_call 19; (with_reducible refine HHs.out.mono ?_); rintro e w7 ⟨rfl, hw⟩; have hw := hw.symm; subst hw)
          | (go_at_call 19; (with_reducible refine HHt.out.mono ?_); rintro e w7 ⟨rfl, hw⟩; have hw := hw.symm; subst hw)
          | (go_at_call 20; (with_reducible refine HLs.out.mono ?_); rintro e w7 ⟨rfl, hw⟩; have hw := hw.symm; subst hw))
        go_roundw
        case rel => exact ⟨k + 1, by omega, by go_num, trivial⟩
        case measure => simp [intOf]; omega
  have hkl : k = l.length := by omega
  subst hkl
  clear hlt hk HCe HH1 HH2 HD1 HD2 HLe HMn
  go_wp2_with fail
  go_loopw [10] (fun i wr => ∃ k : Nat, k ≤ L.length ∧ i = .int .i64 k ∧ wr = W) (fun i _ => L.length - (intOf i).toNat)
  case atStart => exact ⟨0, Nat.zero_le _, rfl, rfl⟩
  case round =>
  obtain ⟨k, hk, rfl, hwr⟩ := hrel
  have hwr := hwr.symm
  subst hwr
  by_cases hlt : k < L.length
  · have q0 : (k : Int) < (L.length : Int) := by omega
    obtain ⟨ao', cap', hv', hcell'⟩ := HIw.out
    obtain ⟨b, off, hb1, hb, hcell⟩ := hcell' (by rintro rfl; simp at hlt)
    simp only [Value.slice.injEq, true_and] at hv'
    obtain ⟨rfl, rfl⟩ := hv'
    subst hb1
    have x1 := hcell k _ (List.getElem?_eq_getElem hlt)
    have HEs := Lib.hid (HE2.out L[k])
    have hp := (HML.out L[k]).1 (List.getElem_mem hlt)
    clear hcell hcell' HE2 HL2 HLn HB0 HML HMM HIw HJw HAw
    generalize evN l L[k] l.length = N at *
    generalize L[k] = s at *
    have q1 : ((N : Int) == 0) = false := beq_eq_false_iff_ne.2 (by omega)
    have q1n : (N == 0) = false := beq_eq_false_iff_ne.2 (by omega)
    have q2 : ¬ N = 0 := by omega
    have q3 : ¬ (N : Int) = 0 := by omega
    go_wp2_with (first
      | (go_at_call 18; (with_reducible refine HEs.out.mono ?_); rintro e w7 ⟨rfl, hw⟩; have hw := hw.symm; subst hw))
    go_roundw
    case rel => exact ⟨k + 1, by omega, by go_num, trivial⟩
    case measure => simp [intOf]; omega
  have hkl : k = L.length := by omega
  subst hkl
  clear hlt hk HE2 HML
  go_wp2_with fail
  go_loopw [11] (fun i wr => ∃ k : Nat, k ≤ M.length ∧ i = .int .i64 k ∧ wr = W) (fun i _ => M.length - (intOf i).toNat)
  case atStart => exact ⟨0, Nat.zero_le _, rfl, rfl⟩
  case round =>
  obtain ⟨k, hk, rfl, hwr⟩ := hrel
  have hwr := hwr.symm
  subst hwr
  by_cases hlt : k < M.length
  · have q0 : (k : Int) < (M.length : Int) := by omega
    obtain ⟨ao', cap', hv', hcell'⟩ := HJw.out
    obtain ⟨b, off, hb1, hb, hcell⟩ := hcell' (by rintro rfl; simp at hlt)
    simp only [Value.slice.injEq, true_and] at hv'
    obtain ⟨rfl, rfl⟩ := hv'
    subst hb1
    have x1 := hcell k _ (List.getElem?_eq_getElem hlt)
    have HLs := Lib.hid (HL2.out M[k])
    have hp := (HMM.out M[k]).1 (List.getElem_mem hlt)
    rw [hp] at HLs
    clear hcell hcell' HL2 HLn HB0 HMM HIw HJw HAw hp
    generalize M[k] = s at *
    go_wp2_with (first
      | (go_at_call 20; (with_reducible refine HLs.out.mono ?_); rintro e w7 ⟨rfl, hw⟩; have hw := hw.symm; subst hw))
    go_roundw
    case rel => exact ⟨k + 1, by omega, by go_num, trivial⟩
    case measure => simp [intOf]; omega
  have hkl : k = M.length := by omega
  subst hkl
  clear hlt hk HL2 HMM HIw HJw
  have hln := HLn.out
  have hb0 := HB0.out
  by_cases hn : 0 < n
  · have hL0 := hln.1 hn
    have q1 : decide ((n : Int) > 0) = true := decide_eq_true (by omega)
    have q1n : decide (0 < n) = true := decide_eq_true hn
    have q2 : decide ((L.length : Int) > 0) = true := decide_eq_true (by omega)
    have q2n : decide (0 < L.length) = true := decide_eq_true hL0
    clear hln hb0 HLn HB0
    go_wp2_with (first
      | (go_at_call 7; (with_reducible refine (HAw.out _).mono ?_); rintro e w8 ⟨rfl, b8⟩; have B8 := Lib.hid (BW.out.trans (b8.mono BW.out.size)); clear b8))
    go_ret
    exact ⟨rfl, B8.out⟩
  · have hL0 : ¬ 0 < L.length := fun h => hn (hln.2 h)
    have hbb := hb0 (by omega)
    have q1 : decide ((n : Int) > 0) = false := decide_eq_false (by omega)
    have q1n : decide (0 < n) = false := decide_eq_false hn
    have q2 : decide ((L.length : Int) > 0) = false := decide_eq_false (by omega)
    have q2n : decide (0 < L.length) = false := decide_eq_false hL0
    have q3 : (bb == 0) = true := by rw [hbb]; rfl
    clear hln hb0 HLn HB0 hbb
    go_wp2_with (first
      | (go_at_call 7; (with_reducible refine (HAw.out _).mono ?_); rintro e w8 ⟨rfl, b8⟩; have B8 := Lib.hid (BW.out.trans (b8.mono BW.out.size)); clear b8))
    go_ret
    exact ⟨rfl, B8.out⟩
end Go.Proofs.Ytjphlhehhigpjaa
