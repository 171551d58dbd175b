/- Layer 17: the law ChooseSelf. -/
import Derived.Test.YtihkhcocfhbekaaDoorCh4
import Derived.Test.YtihkhcocfhbekaaDoorCh6
import Derived.Deep.RegionHeld3
import Derived.LoopTactic
namespace Go.Proofs.YtihkhcocfhbekaaDoor
open Go.RowKit

theorem few17s_true {w : World} {u : Nat → Value} {p : Nat → List (List UInt8)} (h : Eight w u p) (hs : ∀ k < 8, ∀ x ∈ p k, x.length ≤ maxLen) (hf : ∀ k < 8, okP15 (p k)) :
    Calls Tryd.prog 10 #[agg8 u] w fun e w' => e = .returned (.bool true) ∧ Below w.heap.size w w' :=
  (few15_any h hs).mono (by
    rintro e w' ⟨z, rfl, hz, hb⟩
    rw [hz.2 hf]
    exact ⟨rfl, hb⟩)
theorem few17s_false {w : World} {u : Nat → Value} {p : Nat → List (List UInt8)} (h : Eight w u p) (hs : ∀ k < 8, ∀ x ∈ p k, x.length ≤ maxLen) (hf : ¬ ∀ k < 8, okP15 (p k)) :
    Calls Tryd.prog 10 #[agg8 u] w fun e w' => e = .returned (.bool false) ∧ Below w.heap.size w w' :=
  (few15_any h hs).mono (by
    rintro e w' ⟨z, rfl, hz, hb⟩
    have : z = false := by
      cases z with
      | false => rfl
      | true => exact absurd (hz.1 rfl) hf
    rw [this]
    exact ⟨rfl, hb⟩)
theorem badAt_all {z : Nat → Bool} (h : badAt z = 8) : ∀ k < 8, z k = true := by
  intro k hk
  unfold badAt at h
  cases hf : (List.range 8).find? fun k => !z k with
  | none =>
    rw [List.find?_eq_none] at hf
    simpa using hf k (by simpa using hk)
  | some j =>
    have hj := List.mem_of_find?_eq_some hf
    rw [hf] at h
    simp only [List.mem_range] at hj
    have : j = 8 := h
    omega
theorem self_empty {p : Nat → List (List UInt8)} {k : Nat} (h : p k = []) : (chAt p p k).2 = false := by
  unfold chAt
  rw [h]
  rfl
theorem self_first {p : Nat → List (List UInt8)} {k : Nat} {x : List UInt8} {l : List (List UInt8)} (h : p k = x :: l) : chAt p p k = (bs x, true) := by
  unfold chAt
  rw [h]
  exact firstIn_hit (k := 0) (by simp) (by simp) (by simp)
/-- The first name of the list k. -/
def headS (p : Nat → List (List UInt8)) (k : Nat) : ByteArray := bs ((p k).headD [])
theorem self_head {p : Nat → List (List UInt8)} (h : ∀ k < 8, p k ≠ []) : ∀ k < 8, chAt p p k = (headS p k, true) := by
  intro k hk
  cases hp : p k with
  | nil => exact absurd hp (h k hk)
  | cons x l =>
    rw [self_first hp]
    simp [headS, hp]
theorem self_guess {p : Nat → List (List UInt8)} (h : ∀ k < 8, p k ≠ []) : guessB p p = true := by
  unfold guessB
  have h0 := h 0 (by omega)
  have h1 := h 1 (by omega)
  cases e0 : p 0 with
  | nil => exact absurd e0 h0
  | cons x l =>
    cases e1 : p 1 with
    | nil => exact absurd e1 h1
    | cons y m => simp [sameFirstB]

set_option maxHeartbeats 4000000 in
set_option maxRecDepth 100000 in
theorem ChooseSelf_any {w : World} (hT : Tab15 w) {u : Nat → Value} {p : Nat → List (List UInt8)} (h : Eight w u p) (hs : ∀ k < 8, ∀ x ∈ p k, x.length ≤ maxLen) :
    Calls Tryd.prog 5 #[agg8 u] w fun e w' => e = .returned (.bool true) ∧ Below w.heap.size w w' := by
  have hu := h.sl
  obtain ⟨a0, n0, c0, e0⟩ := hu 0 (by omega)
  obtain ⟨a1, n1, c1, e1⟩ := hu 1 (by omega)
  obtain ⟨a2, n2, c2, e2⟩ := hu 2 (by omega)
  obtain ⟨a3, n3, c3, e3⟩ := hu 3 (by omega)
  obtain ⟨a4, n4, c4, e4⟩ := hu 4 (by omega)
  obtain ⟨a5, n5, c5, e5⟩ := hu 5 (by omega)
  obtain ⟨a6, n6, c6, e6⟩ := hu 6 (by omega)
  obtain ⟨a7, n7, c7, e7⟩ := hu 7 (by omega)
  have hU : agg8 u = .agg #[.slice a0 n0 c0, .slice a1 n1 c1, .slice a2 n2 c2, .slice a3 n3 c3, .slice a4 n4 c4, .slice a5 n5 c5, .slice a6 n6 c6, .slice a7 n7 c7] := by unfold agg8; rw [e0, e1, e2, e3, e4, e5, e6, e7]
  have HAw : Hid (∀ W, Below w.heap.size w W → Calls Tryd.prog 11 #[] W fun e w' => e = .returned (.bool true) ∧ Below W.heap.size W w') := fun W hb => awake17_any (hT.below hb)
  obtain ⟨W0, hW0⟩ : ∃ W0, W0 = w.alloc (.cells #[.slice a0 n0 c0, .slice a1 n1 c1, .slice a2 n2 c2, .slice a3 n3 c3, .slice a4 n4 c4, .slice a5 n5 c5, .slice a6 n6 c6, .slice a7 n7 c7] 24) := ⟨_, rfl⟩
  have HBX : Hid (∀ W, Below W0.heap.size W0 W → Holds W w.heap.size 24 #[.slice a0 n0 c0, .slice a1 n1 c1, .slice a2 n2 c2, .slice a3 n3 c3, .slice a4 n4 c4, .slice a5 n5 c5, .slice a6 n6 c6, .slice a7 n7 c7]) := fun W hb => by
    rw [hW0] at hb
    exact (Holds.new w 24 #[.slice a0 n0 c0, .slice a1 n1 c1, .slice a2 n2 c2, .slice a3 n3 c3, .slice a4 n4 c4, .slice a5 n5 c5, .slice a6 n6 c6, .slice a7 n7 c7]).moves (Moves.ofBelow (S := nobody) hb) (fun h => h)
  have HB0 : Hid (Below w.heap.size w W0) := by
    rw [hW0]
    exact (Below.refl _ _).alloc (Nat.le_refl _) _
  have HW0 := Lib.hid hW0.symm
  have BR : Hid (Below W0.heap.size W0 W0) := Below.refl _ _
  have HCe : Hid (∀ W, Below W0.heap.size W0 W → W.cell? ⟨w.heap.size, 0, none⟩ = some (.slice a0 n0 c0) ∧ W.cell? ⟨w.heap.size, 1, none⟩ = some (.slice a1 n1 c1) ∧ W.cell? ⟨w.heap.size, 2, none⟩ = some (.slice a2 n2 c2) ∧ W.cell? ⟨w.heap.size, 3, none⟩ = some (.slice a3 n3 c3) ∧ W.cell? ⟨w.heap.size, 4, none⟩ = some (.slice a4 n4 c4) ∧ W.cell? ⟨w.heap.size, 5, none⟩ = some (.slice a5 n5 c5) ∧ W.cell? ⟨w.heap.size, 6, none⟩ = some (.slice a6 n6 c6) ∧ W.cell? ⟨w.heap.size, 7, none⟩ = some (.slice a7 n7 c7)) := fun W hb => by
    have k1 := HBX.out W hb
    exact ⟨(k1.cell 0).trans rfl, (k1.cell 1).trans rfl, (k1.cell 2).trans rfl, (k1.cell 3).trans rfl, (k1.cell 4).trans rfl, (k1.cell 5).trans rfl, (k1.cell 6).trans rfl, (k1.cell 7).trans rfl⟩
  clear HBX
  have hbt : ∀ W, Below W0.heap.size W0 W → Below w.heap.size w W := fun W hb => HB0.out.trans (hb.mono HB0.out.size)
  have HBt := Lib.hid hbt
  rw [hU]
  by_cases hf1 : ∀ k < 8, okP15 (p k)
  case neg =>
    have HF1 : Hid (∀ W, Below W0.heap.size W0 W → Calls Tryd.prog 10 #[.agg #[.slice a0 n0 c0, .slice a1 n1 c1, .slice a2 n2 c2, .slice a3 n3 c3, .slice a4 n4 c4, .slice a5 n5 c5, .slice a6 n6 c6, .slice a7 n7 c7]] W fun e w' => e = .returned (.bool false) ∧ Below W.heap.size W w') := fun W hb => by
      rw [← hU]
      exact few17s_false (h.below (hbt W hb)) hs hf1
    clear hU e0 e1 e2 e3 e4 e5 e6 e7 hu h hs hT hW0 hbt hf1
    go_enter Tryd.func5, Tryd.ntmps5
    go_wp2_with (first
      | (go_at_call 10; rw [HW0.out]; (with_reducible refine (HF1.out _ BR.out).mono ?_); rintro e w1 ⟨rfl, b1⟩; have B1 := Lib.hid (BR.out.trans (b1.mono BR.out.size)); clear b1)
      | (go_at_call 11; (with_reducible refine (HAw.out _ (HBt.out _ B1.out)).mono ?_); rintro e w5 ⟨rfl, b5⟩; have B5 := Lib.hid (B1.out.trans (b5.mono B1.out.size)); clear b5)
      | fail)
    go_ret
    exact ⟨rfl, HBt.out _ B5.out⟩
  case pos =>
  have HF1 : Hid (∀ W, Below W0.heap.size W0 W → Calls Tryd.prog 10 #[.agg #[.slice a0 n0 c0, .slice a1 n1 c1, .slice a2 n2 c2, .slice a3 n3 c3, .slice a4 n4 c4, .slice a5 n5 c5, .slice a6 n6 c6, .slice a7 n7 c7]] W fun e w' => e = .returned (.bool true) ∧ Below W.heap.size W w') := fun W hb => by
    rw [← hU]
    exact few17s_true (h.below (hbt W hb)) hs hf1
  have hl : ∀ k < 8, (p k).length ≤ 1000 := fun k hk => Nat.le_trans (hf1 k hk).1 (by omega)
  have hz : ∀ k < 8, ∀ x ∈ p k, x.length ≤ 1000 := fun k hk x hx => Nat.le_trans ((hf1 k hk).2 x hx) (by omega)
  have hA1 : ∀ W, Below W0.heap.size W0 W → ∀ k < 8, TextsAt W (u k) ((p k).map bs) := fun W hb k hk => (h.at_ k hk).below (hbt W hb)
  have hCh := fun W (hb : Below W0.heap.size W0 W) => chChoose_any (hT.below (hbt W hb)) (hA1 W hb) (hA1 W hb) hl hl hz hz
  have hCn := fun W (hb : Below W0.heap.size W0 W) => chCan_any (hT.below (hbt W hb)) (hA1 W hb) (hA1 W hb) hl hl hz hz
  have hGs := fun W (hb : Below W0.heap.size W0 W) => chGuess_any (hA1 W hb) (hA1 W hb) hl hl
  have HLs : Hid (∀ W, Below W0.heap.size W0 W → Calls Tryd.prog 22 #[.agg #[.slice a0 n0 c0, .slice a1 n1 c1, .slice a2 n2 c2, .slice a3 n3 c3, .slice a4 n4 c4, .slice a5 n5 c5, .slice a6 n6 c6, .slice a7 n7 c7]] W fun e w' => ∃ b, e = .returned (.slice (some ⟨b, 0, none⟩) 8 8) ∧ b < w'.heap.size ∧ (∀ k < 8, w'.cell? ⟨b, k, none⟩ = some (u k)) ∧ Below W.heap.size W w') := fun W hb => by
    rw [← hU]
    exact r15Lists_any (p := p) (hA1 W hb)
  rw [hU] at hCh hCn hGs
  have HA1 := Lib.hid hA1
  have HSl := Lib.hid h.sl2
  have HCn0 : Hid (∀ k < 8, p k = [] → ∀ W, Below W0.heap.size W0 W → Calls Tryd.prog 14 #[.agg #[.slice a0 n0 c0, .slice a1 n1 c1, .slice a2 n2 c2, .slice a3 n3 c3, .slice a4 n4 c4, .slice a5 n5 c5, .slice a6 n6 c6, .slice a7 n7 c7], .agg #[.slice a0 n0 c0, .slice a1 n1 c1, .slice a2 n2 c2, .slice a3 n3 c3, .slice a4 n4 c4, .slice a5 n5 c5, .slice a6 n6 c6, .slice a7 n7 c7]] W fun e w' => e = .returned (.bool false) ∧ Below W.heap.size W w') := fun k hk he W hb => (hCn W hb).mono fun e w' ⟨h1, h2⟩ => by
    rw [decide_eq_false (fun hh => by have := badAt_all hh k hk; rw [self_empty he] at this; cases this)] at h1
    exact ⟨h1, h2⟩
  have HCn1 : Hid ((∀ k < 8, p k ≠ []) → ∀ W, Below W0.heap.size W0 W → Calls Tryd.prog 14 #[.agg #[.slice a0 n0 c0, .slice a1 n1 c1, .slice a2 n2 c2, .slice a3 n3 c3, .slice a4 n4 c4, .slice a5 n5 c5, .slice a6 n6 c6, .slice a7 n7 c7], .agg #[.slice a0 n0 c0, .slice a1 n1 c1, .slice a2 n2 c2, .slice a3 n3 c3, .slice a4 n4 c4, .slice a5 n5 c5, .slice a6 n6 c6, .slice a7 n7 c7]] W fun e w' => e = .returned (.bool true) ∧ Below W.heap.size W w') := fun hn W hb => (hCn W hb).mono fun e w' ⟨h1, h2⟩ => by
    rw [decide_eq_true (badAt_none fun k hk => by rw [self_head hn k hk])] at h1
    exact ⟨h1, h2⟩
  have HCh1 : Hid ((∀ k < 8, p k ≠ []) → ∀ W, Below W0.heap.size W0 W → Calls Tryd.prog 12 #[.agg #[.slice a0 n0 c0, .slice a1 n1 c1, .slice a2 n2 c2, .slice a3 n3 c3, .slice a4 n4 c4, .slice a5 n5 c5, .slice a6 n6 c6, .slice a7 n7 c7], .agg #[.slice a0 n0 c0, .slice a1 n1 c1, .slice a2 n2 c2, .slice a3 n3 c3, .slice a4 n4 c4, .slice a5 n5 c5, .slice a6 n6 c6, .slice a7 n7 c7]] W fun e w' => e = .returned (.tuple #[.agg #[.string (headS p 0), .string (headS p 1), .string (headS p 2), .string (headS p 3), .string (headS p 4), .string (headS p 5), .string (headS p 6), .string (headS p 7)], .nilIface]) ∧ Below W.heap.size W w') := fun hn W hb => (hCh W hb).mono fun e w' ⟨h1, _, h3⟩ => by
    refine ⟨(h1 (badAt_none fun k hk => by rw [self_head hn k hk])).trans ?_, h3⟩
    unfold agg8S
    simp only [self_head hn 0 (by omega), self_head hn 1 (by omega), self_head hn 2 (by omega), self_head hn 3 (by omega), self_head hn 4 (by omega), self_head hn 5 (by omega), self_head hn 6 (by omega), self_head hn 7 (by omega)]
  have HGs1 : Hid ((∀ k < 8, p k ≠ []) → ∀ W, Below W0.heap.size W0 W → Calls Tryd.prog 15 #[.agg #[.slice a0 n0 c0, .slice a1 n1 c1, .slice a2 n2 c2, .slice a3 n3 c3, .slice a4 n4 c4, .slice a5 n5 c5, .slice a6 n6 c6, .slice a7 n7 c7], .agg #[.slice a0 n0 c0, .slice a1 n1 c1, .slice a2 n2 c2, .slice a3 n3 c3, .slice a4 n4 c4, .slice a5 n5 c5, .slice a6 n6 c6, .slice a7 n7 c7]] W fun e w' => e = .returned (.bool true) ∧ Below W.heap.size W w') := fun hn W hb => (hGs W hb).mono fun e w' ⟨h1, h2⟩ => by
    rw [self_guess hn] at h1
    exact ⟨h1, h2⟩
  clear hU e0 e1 e2 e3 e4 e5 e6 e7 hu h hs hT hW0 hbt hf1 hz hA1 hCh hCn hGs
  go_enter Tryd.func5, Tryd.ntmps5
  go_wp2_with (first
    | (go_at_call 10; rw [HW0.out]; (with_reducible refine (HF1.out _ BR.out).mono ?_); rintro e w1 ⟨rfl, b1⟩; have B1 := Lib.hid (BR.out.trans (b1.mono BR.out.size)); clear b1; (try clear x0 x1 x2 x3 x4 x5 x6 x7); obtain ⟨x0, x1, x2, x3, x4, x5, x6, x7⟩ := HCe.out _ B1.out)
    | (go_at_call 22; (with_reducible refine (HLs.out _ B1.out).mono ?_); rintro e w2 ⟨b, rfl, hbl, hcl, b2⟩; have B2 := Lib.hid (B1.out.trans (b2.mono B1.out.size)); have HCl := Lib.hid hcl; have HBl := Lib.hid hbl; clear b2 hcl hbl; (try clear x0 x1 x2 x3 x4 x5 x6 x7); obtain ⟨x0, x1, x2, x3, x4, x5, x6, x7⟩ := HCe.out _ B2.out)
    | fail)
  have hbl2 : b < w2.heap.size := HBl.out
  go_loopw [4] (fun i wr => ∃ k : Nat, k ≤ 8 ∧ i = .int .i64 k ∧ (∀ j < k, p j ≠ []) ∧ wr = w2) (fun i _ => 9 - (intOf i).toNat)
  case atStart => exact ⟨0, Nat.zero_le _, rfl, fun j hj => absurd hj (by omega), rfl⟩
  case round =>
    obtain ⟨k, hk, rfl, hall, hw⟩ := hrel
    have hw := hw.symm
    subst hw
    by_cases hlt : k < 8
    · obtain ⟨ak, ck, ek⟩ := HSl.out k hlt
      have y0 := HCl.out k hlt
      rw [ek] at y0
      have hlk := hl k hlt
      have hk0 : (0 : Int) ≤ (k : Int) := by omega
      have hk8 : (k : Int) < 8 := by omega
      cases hp : p k with
      | nil =>
        have HCn := Lib.hid (HCn0.out k hlt hp)
        rw [hp] at y0
        simp only [List.length_nil] at y0
        clear hall HCn0 HCn1 HCh1 HGs1 hlk HSl HCl HLs hl hp ek HF1
        go_wp2_with (first
          | (go_at_call 11; (with_reducible refine (HAw.out _ (HBt.out _ B2.out)).mono ?_); rintro e w5 ⟨rfl, b5⟩; have B5 := Lib.hid (B2.out.trans (b5.mono B2.out.size)); clear b5; (try clear x0 x1 x2 x3 x4 x5 x6 x7); obtain ⟨x0, x1, x2, x3, x4, x5, x6, x7⟩ := HCe.out _ B5.out)
          | (go_at_call 14; (with_reducible refine (HCn.out _ B5.out).mono ?_); rintro e w6 ⟨rfl, b6⟩; have B6 := Lib.hid (B5.out.trans (b6.mono B5.out.size)); clear b6; (try clear x0 x1 x2 x3 x4 x5 x6 x7); obtain ⟨x0, x1, x2, x3, x4, x5, x6, x7⟩ := HCe.out _ B6.out)
          | fail)
        go_ret
        exact ⟨rfl, HBt.out _ B6.out⟩
      | cons x0 l0 =>
        have HYes : Hid (∀ j < k + 1, p j ≠ []) := fun j hj => by
          rcases Nat.lt_or_eq_of_le (Nat.le_of_lt_succ hj) with h2 | rfl
          · exact hall j h2
          · rw [hp]; simp
        rw [hp] at y0 hlk
        rw [List.length_cons] at y0 hlk
        have q0 : ((l0.length : Int) + 1 == 0) = false := by rw [beq_eq_false_iff_ne]; omega
        clear hall HCn0 HCn1 HCh1 HGs1 HSl HCl HLs hl hp ek HF1
        go_wp2_with fail
        go_roundw
        case rel => exact ⟨k + 1, by omega, by go_num, HYes.out, trivial⟩
        case measure => simp [intOf]; omega
    · have hkl : k = 8 := by omega
      subst hkl
      have HN := Lib.hid hall
      have HCn := Lib.hid (HCn1.out hall)
      have HCh := Lib.hid (HCh1.out hall)
      have HGs := Lib.hid (HGs1.out hall)
      have HHd := Lib.hid (fun (k : Nat) (hk : k < 8) => show p k ≠ [] from hall k hk)
      clear hall hlt hk HCn0 HCn1 HCh1 HGs1 HLs HF1
      have HLi : Hid (∀ W : World, Calls Tryd.prog 21 #[.agg #[.string (headS p 0), .string (headS p 1), .string (headS p 2), .string (headS p 3), .string (headS p 4), .string (headS p 5), .string (headS p 6), .string (headS p 7)]] W fun e w' => ∃ s, e = .returned (.slice (some ⟨s, 0, none⟩) 8 8) ∧ s < w'.heap.size ∧ (∀ k < 8, w'.cell? ⟨s, k, none⟩ = some (.string (headS p k))) ∧ Below W.heap.size W w') := fun W => (chLists_any (headS p) W).mono fun e w' ⟨h1, h2, h3⟩ => by
        obtain ⟨ao, cap, ev, hc⟩ := h2
        obtain ⟨bb, off, rfl, hbb, hcell⟩ := hc (by simp [list8S])
        injection ev with ev1
        have ev1 := Option.some.inj ev1
        injection ev1 with e1 e2
        subst e1 e2
        refine ⟨_, h1, hbb, fun k hk => ?_, h3⟩
        have := hcell k _ (list8S_at (headS p) k hk)
        rw [Nat.zero_add] at this
        exact this
      generalize headS p 0 = F0 at HCh HLi
      generalize headS p 1 = F1 at HCh HLi
      generalize headS p 2 = F2 at HCh HLi
      generalize headS p 3 = F3 at HCh HLi
      generalize headS p 4 = F4 at HCh HLi
      generalize headS p 5 = F5 at HCh HLi
      generalize headS p 6 = F6 at HCh HLi
      generalize headS p 7 = F7 at HCh HLi
      go_wp2_with (first
        | (go_at_call 12; (with_reducible refine (HCh.out _ B2.out).mono ?_); rintro e w3 ⟨rfl, b3⟩; have G3 : Hid (Below w2.heap.size w2 (w3.alloc (.cells #[.string F0, .string F1, .string F2, .string F3, .string F4, .string F5, .string F6, .string F7] 28))) := Lib.hid (b3.alloc b3.size _); have B3 := Lib.hid ((B2.out.trans (b3.mono B2.out.size)).alloc (B2.out.trans (b3.mono B2.out.size)).size (.cells #[.string F0, .string F1, .string F2, .string F3, .string F4, .string F5, .string F6, .string F7] 28)); clear b3; (try clear x0 x1 x2 x3 x4 x5 x6 x7); obtain ⟨x0, x1, x2, x3, x4, x5, x6, x7⟩ := HCe.out _ B3.out)
        | (go_at_call 21; (with_reducible refine (HLi.out _).mono ?_); rintro e w4 ⟨s, rfl, hsl4, hsc4, b4⟩; have B4 := Lib.hid (B3.out.trans (b4.mono B3.out.size)); have HSL := Lib.hid hsl4; have HSC := Lib.hid hsc4; have K4 : Hid (Below w4.heap.size w4 w4) := Below.refl _ _; have G4 := Lib.hid (G3.out.trans (b4.mono G3.out.size)); clear b4 hsl4 hsc4; (try clear x0 x1 x2 x3 x4 x5 x6 x7); obtain ⟨x0, x1, x2, x3, x4, x5, x6, x7⟩ := HCe.out _ B4.out)
        | (go_at_call 14; (with_reducible refine (HCn.out _ B4.out).mono ?_); rintro e w5 ⟨rfl, b5⟩; have B5 := Lib.hid (B4.out.trans (b5.mono B4.out.size)); have K5 := Lib.hid (K4.out.trans (b5.mono K4.out.size)); have G5 := Lib.hid (G4.out.trans (b5.mono G4.out.size)); clear b5; (try clear x0 x1 x2 x3 x4 x5 x6 x7); obtain ⟨x0, x1, x2, x3, x4, x5, x6, x7⟩ := HCe.out _ B5.out)
        | (go_at_call 15; (with_reducible refine (HGs.out _ B5.out).mono ?_); rintro e w6 ⟨rfl, b6⟩; have B6 := Lib.hid (B5.out.trans (b6.mono B5.out.size)); have K6 := Lib.hid (K5.out.trans (b6.mono K5.out.size)); have G6 := Lib.hid (G5.out.trans (b6.mono G5.out.size)); clear b6; (try clear x0 x1 x2 x3 x4 x5 x6 x7); obtain ⟨x0, x1, x2, x3, x4, x5, x6, x7⟩ := HCe.out _ B6.out)
        | fail)
      have HRow : Hid (∀ k, k < 8 → ∀ W, Below w6.heap.size w6 W → W.cell? ⟨b, k, none⟩ = some (u k) ∧ W.cell? ⟨s, k, none⟩ = some (.string (headS p k)) ∧ TextsAt W (u k) ((p k).map bs)) := fun k hk W hb => by
        have hb2 : Below w2.heap.size w2 W := G6.out.trans (hb.mono G6.out.size)
        have hb4 : Below w4.heap.size w4 W := K6.out.trans (hb.mono K6.out.size)
        exact ⟨(hb2.cell (p := ⟨b, k, none⟩) hbl2).trans (HCl.out k hk), (hb4.cell (p := ⟨s, k, none⟩) HSL.out).trans (HSC.out k hk), HA1.out W (B6.out.trans (hb.mono B6.out.size)) k hk⟩
      have HBe : Hid (∀ W, Below w6.heap.size w6 W → Below w.heap.size w W) := fun W hb => HBt.out W (B6.out.trans (hb.mono B6.out.size))
      clear HCl HSC HSL HA1 K4 K5 K6 G3 G4 G5 G6 B1 B2 B3 B4 B5 B6 HBt HLi HCn HCh HGs HN hbl2 HBl HB0 BR HCe x0 x1 x2 x3 x4 x5 x6 x7
      go_loopw [8] (fun i wr => ∃ k : Nat, k ≤ 8 ∧ i = .int .i64 k ∧ Below w6.heap.size w6 wr) (fun i _ => 9 - (intOf i).toNat)
      case atStart => exact ⟨0, Nat.zero_le _, rfl, Below.refl _ _⟩
      case round =>
        obtain ⟨k, hk, rfl, hb⟩ := hrel
        have HB := Lib.hid hb
        clear hb
        by_cases hlt : k < 8
        · obtain ⟨ak, ck, ek⟩ := HSl.out k hlt
          obtain ⟨r0, r1, hT⟩ := HRow.out k hlt wr HB.out
          obtain ⟨d0, d1, _⟩ := HRow.out k hlt wr.drew HB.out.drew
          have hlk := hl k hlt
          have hk0 : (0 : Int) ≤ (k : Int) := by omega
          have hk8 : (k : Int) < 8 := by omega
          have hne := HHd.out k hlt
          rw [ek] at r0 d0 hT
          cases hp : p k with
          | nil => exact absurd hp hne
          | cons x0 l0 =>
            have hh : headS p k = bs x0 := by simp [headS, hp]
            rw [hp] at r0 d0 hT hlk
            rw [hh] at r1 d1
            obtain ⟨_, _, e1, hc⟩ := hT
            injection e1 with e1 _ g2
            subst e1 g2
            obtain ⟨bb, off, rfl, hbb, hcell⟩ := hc (by simp)
            have r2 : wr.cell? ⟨bb, off, none⟩ = some (.string (bs x0)) := hcell 0 _ rfl
            have d2 : wr.drew.cell? ⟨bb, off, none⟩ = some (.string (bs x0)) := r2
            have q0 : ((bs x0).toList == (bs x0).toList) = true := by simp
            rw [List.length_cons] at r0 d0 hlk
            generalize l0.length = n at *
            generalize bs x0 = X at *
            clear hcell hc hne hp hh ek HRow HSl HHd hl
            go_wp2_with fail
            go_region
            all_goals
              go_wp2_with fail
              go_roundw
              case rel => exact ⟨k + 1, by omega, by go_num, HB.out.drew⟩
              case measure => simp [intOf]; omega
        · have hkl : k = 8 := by omega
          subst hkl
          clear HRow HSl HHd hl hlt
          go_wp2_with (first
            | (go_at_call 11; (with_reducible refine (HAw.out _ (HBe.out _ HB.out)).mono ?_); rintro e w7 ⟨rfl, b7⟩; have B7 := Lib.hid ((HBe.out _ HB.out).trans (b7.mono (HBe.out _ HB.out).size)); clear b7)
            | fail)
          go_ret
          exact ⟨rfl, B7.out⟩
end Go.Proofs.YtihkhcocfhbekaaDoor
