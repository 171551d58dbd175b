/- Layer 37: the document's Check. -/
import Derived.Test.YtjphlhehhigpjaaDoorCe4
import Derived.Test.YtjphlhehhigpjaaDoorCe5
namespace Go.Proofs.YtjphlhehhigpjaaDoor
open Go.RowKit

/-- What is left of a number when the first of others are taken away. -/
def subK (x : Int) (f : Nat → Int) : Nat → Int
  | 0 => x
  | k + 1 => subK x f k - f k
theorem subK_bd {x : Int} {f : Nat → Int} (hx : -1099511627776 ≤ x ∧ x ≤ 1099511627776) : ∀ k : Nat, (∀ j, j < k → 0 ≤ f j ∧ f j ≤ 1099511627776) → -1099511627776 - (k : Int) * 1099511627776 ≤ subK x f k ∧ subK x f k ≤ 1099511627776
  | 0, _ => by unfold subK; omega
  | k + 1, h => by
    have ih := subK_bd hx k (fun j hj => h j (by omega))
    have := h k (by omega)
    unfold subK
    omega
theorem natB_false {L : List Int} {x : Int} (hx : x ∈ L) (h : x < 0) : natB L = false := by
  unfold natB; rw [List.all_eq_false]; exact ⟨x, hx, by simp; omega⟩
theorem sumB_neg : ∀ (L : List Int) (w : Int), natB L = false → sumB w L = false
  | [], _, h => by cases h
  | n :: r, w, h => by
    unfold sumB
    by_cases hn : n < 0 ∨ n > w
    · rw [if_pos hn]
    · rw [if_neg hn]
      refine sumB_neg r (w - n) ?_
      unfold natB at h ⊢
      rw [List.all_cons, Bool.and_eq_false_iff] at h
      rcases h with h | h
      · rw [decide_eq_false_iff_not] at h; omega
      · exact h
section
variable {c : Nat → Int}
theorem ckA_bad {i : Nat} (hi : i < 8) (h : c i < 0) : ckA c = false := natB_false (x := c i) (by
  match i, hi with
  | 0, _ => simp
  | 1, _ => simp
  | 2, _ => simp
  | 3, _ => simp
  | 4, _ => simp
  | 5, _ => simp
  | 6, _ => simp
  | 7, _ => simp) h
theorem ckA_good (h : ∀ j, j < 8 → 0 ≤ c j) : ckA c = true := by
  unfold ckA natB
  simp [h 0 (by decide), h 1 (by decide), h 2 (by decide), h 3 (by decide), h 4 (by decide), h 5 (by decide), h 6 (by decide), h 7 (by decide)]
theorem ckB_bad {i : Nat} (hi : i < 16) (h : c (8 + i) < 0) : ckB c = false := sumB_neg _ _ (natB_false (x := c (8 + i)) (by
  match i, hi with
  | 0, _ => simp
  | 1, _ => simp
  | 2, _ => simp
  | 3, _ => simp
  | 4, _ => simp
  | 5, _ => simp
  | 6, _ => simp
  | 7, _ => simp
  | 8, _ => simp
  | 9, _ => simp
  | 10, _ => simp
  | 11, _ => simp
  | 12, _ => simp
  | 13, _ => simp
  | 14, _ => simp
  | 15, _ => simp
  | n + 16, h => omega) h)
theorem ckB_good (h : ∀ j, j < 16 → 0 ≤ c (8 + j)) : ckB c = decide (subK (c 6) (fun j => c (8 + j)) 16 = 0) := by
  have n : natB [c 8, c 9, c 10, c 11, c 12, c 13, c 14, c 15, c 16, c 17, c 18, c 19, c 20, c 21, c 22, c 23] = true := by
    unfold natB
    simp [show ∀ j, j < 16 → 0 ≤ c (8 + j) from h, show 0 ≤ c 8 from h 0 (by decide), show 0 ≤ c 9 from h 1 (by decide), show 0 ≤ c 10 from h 2 (by decide), show 0 ≤ c 11 from h 3 (by decide), show 0 ≤ c 12 from h 4 (by decide), show 0 ≤ c 13 from h 5 (by decide), show 0 ≤ c 14 from h 6 (by decide), show 0 ≤ c 15 from h 7 (by decide), show 0 ≤ c 16 from h 8 (by decide), show 0 ≤ c 17 from h 9 (by decide), show 0 ≤ c 18 from h 10 (by decide), show 0 ≤ c 19 from h 11 (by decide), show 0 ≤ c 20 from h 12 (by decide), show 0 ≤ c 21 from h 13 (by decide), show 0 ≤ c 22 from h 14 (by decide), show 0 ≤ c 23 from h 15 (by decide)]
  unfold ckB
  rw [sumB_is _ _ n, decide_eq_decide]
  simp only [List.sum_cons, List.sum_nil, subK, Nat.reduceAdd]
  omega
theorem ckC_bad {i : Nat} (hi : i < 4) (h : c (24 + i) < 0) : ckC c = false := sumB_neg _ _ (natB_false (x := c (24 + i)) (by
  match i, hi with
  | 0, _ => simp
  | 1, _ => simp
  | 2, _ => simp
  | 3, _ => simp) h)
theorem ckC_good (h : ∀ j, j < 4 → 0 ≤ c (24 + j)) : ckC c = decide (subK (c 2) (fun j => c (24 + j)) 4 = 0) := by
  have n : natB [c 24, c 25, c 26, c 27] = true := by
    unfold natB
    simp [show 0 ≤ c 24 from h 0 (by decide), show 0 ≤ c 25 from h 1 (by decide), show 0 ≤ c 26 from h 2 (by decide), show 0 ≤ c 27 from h 3 (by decide)]
  unfold ckC
  rw [sumB_is _ _ n, decide_eq_decide]
  simp only [List.sum_cons, List.sum_nil, subK, Nat.reduceAdd]
  omega
theorem ckD_is : ckD c = (decide (c 28 < 0) || decide (c 28 - c 1 > c 2)) := by
  unfold ckD natB
  simp only [List.all_cons, List.all_nil, Bool.and_true]
  rw [show (!decide (0 ≤ c 28)) = decide (c 28 < 0) by
    by_cases h : c 28 < 0
    · rw [decide_eq_true h, decide_eq_false (by omega)]; rfl
    · rw [decide_eq_false h, decide_eq_true (by omega)]; rfl]
theorem ckE_is : ckE c = (decide (c 29 < 0) || decide (c 29 - c 2 > c 4)) := by
  unfold ckE natB
  simp only [List.all_cons, List.all_nil, Bool.and_true]
  rw [show (!decide (0 ≤ c 29)) = decide (c 29 < 0) by
    by_cases h : c 29 < 0
    · rw [decide_eq_true h, decide_eq_false (by omega)]; rfl
    · rw [decide_eq_false h, decide_eq_true (by omega)]; rfl]
end
set_option maxHeartbeats 8000000 in
set_option maxRecDepth 100000 in
theorem r37Check_any (w : World) (c : Nat → Int) (hc : ∀ i, i < 30 → -1099511627776 ≤ c i ∧ c i ≤ 1099511627776) :
    Calls Tryd.prog 13 #[.agg (cenRow c)] w fun e w' => e = .returned (.string (chkW c)) ∧ Below w.heap.size w w' := by
  have HGet : Hid (∀ W B, Holds W B 35 (cenRow c) → ∀ i, i < 30 → W.cell? ⟨B, i, none⟩ = some (.int .i64 (c i))) := fun W B h i hi => (h.cell i).trans (cenRow_get c hi)
  have HA : Hid (Holds (w.alloc (.cells (cenRow c) 35)) w.heap.size 35 (cenRow c)) := Lib.hid (Holds.new w _ _)
  have HB : Hid (Below w.heap.size w (w.alloc (.cells (cenRow c) 35))) := Lib.hid ((Below.refl _ _).alloc (Nat.le_refl _) _)
  have HBd := Lib.hid hc
  have HR : Hid (chkW c = if ckA c = false then ⟨#[107, 105, 110, 100, 115]⟩ else if ckB c = false then ⟨#[114, 101, 97, 115, 111, 110, 115]⟩ else if ckC c = false then ⟨#[109, 101, 116, 104, 111, 100, 115]⟩
    else if ckD c = true then ⟨#[108, 97, 116, 101, 114]⟩ else if ckE c = true then ⟨#[115, 97, 102, 101]⟩ else ⟨#[]⟩) := rfl
  have HAb : Hid (∀ i, i < 8 → c i < 0 → ckA c = false) := fun i hi h => ckA_bad hi h
  have HAg : Hid ((∀ j, j < 8 → 0 ≤ c j) → ckA c = true) := fun h => ckA_good h
  have HBb : Hid (∀ i, i < 16 → c (8 + i) < 0 → ckB c = false) := fun i hi h => ckB_bad hi h
  have HBg : Hid ((∀ j, j < 16 → 0 ≤ c (8 + j)) → ckB c = decide (subK (c 6) (fun j => c (8 + j)) 16 = 0)) := fun h => ckB_good h
  have HCb : Hid (∀ i, i < 4 → c (24 + i) < 0 → ckC c = false) := fun i hi h => ckC_bad hi h
  have HCg : Hid ((∀ j, j < 4 → 0 ≤ c (24 + j)) → ckC c = decide (subK (c 2) (fun j => c (24 + j)) 4 = 0)) := fun h => ckC_good h
  have HD : Hid (ckD c = (decide (c 28 < 0) || decide (c 28 - c 1 > c 2))) := ckD_is
  have HE : Hid (ckE c = (decide (c 29 < 0) || decide (c 29 - c 2 > c 4))) := ckE_is
  have HS6 : Hid (∀ k, k ≤ 16 → (∀ j, j < k → 0 ≤ c (8 + j)) → -20000000000000 ≤ subK (c 6) (fun j => c (8 + j)) k ∧ subK (c 6) (fun j => c (8 + j)) k ≤ 1099511627776) := fun k hk h => by
    have := subK_bd (f := fun j => c (8 + j)) (hc 6 (by decide)) k (fun j hj => ⟨h j hj, (hc (8 + j) (by omega)).2⟩)
    omega
  have HS2 : Hid (∀ k, k ≤ 4 → (∀ j, j < k → 0 ≤ c (24 + j)) → -20000000000000 ≤ subK (c 2) (fun j => c (24 + j)) k ∧ subK (c 2) (fun j => c (24 + j)) k ≤ 1099511627776) := fun k hk h => by
    have := subK_bd (f := fun j => c (24 + j)) (hc 2 (by decide)) k (fun j hj => ⟨h j hj, (hc (24 + j) (by omega)).2⟩)
    omega
  clear hc
  generalize chkW c = ww at *
  generalize ckA c = cA at *
  generalize ckB c = cB at *
  generalize ckC c = cC at *
  generalize ckD c = cD at *
  generalize ckE c = cE at *
  generalize cenRow c = R at *
  go_enter Tryd.func13, Tryd.ntmps13
  go_upto_region 1 with fail
  obtain ⟨E, hE⟩ : ∃ E, Hid (E = w.heap.size) := ⟨_, Lib.hid rfl⟩
  rw [← hE.out] at HA
  rw [← hE.out]
  have HB2 := HB
  rw [← hE.out] at HB2
  clear HB2 hE
  generalize w.alloc (.cells R 35) = W at *
  go_wp2_with fail
  go_loopw [3] (fun i wr => ∃ k : Nat, k ≤ 8 ∧ i = .int .i64 k ∧ Hid (∀ j, j < k → 0 ≤ c j) ∧ wr = W) (fun i _ => 8 - (intOf i).toNat)
  case atStart => exact ⟨0, Nat.zero_le _, rfl, Lib.hid (fun j h => absurd h (Nat.not_lt_zero j)), rfl⟩
  case round =>
  obtain ⟨k, hk, rfl, HT, hwr⟩ := hrel
  have hwr := hwr.symm
  subst hwr
  by_cases hlt : k < 8
  · have q0 : decide ((k : Int) < 8) = true := decide_eq_true (by omega)
    have hkn : (k : Int) < (8 : Int) := by omega
    have x0 := HGet.out _ _ HA.out k (by omega)
    have HAk := Lib.hid (HAb.out k hlt)
    have HTn : Hid (¬ c k < 0 → ∀ j, j < k + 1 → 0 ≤ c j) := fun hn j h => by
      rcases Nat.lt_or_eq_of_le (Nat.le_of_lt_succ h) with h' | rfl
      · exact HT.out j h'
      · omega
    clear HGet HBd HAb HAg HBb HBg HCb HCg HD HE HS6 HS2 HT HA
    generalize c k = x at *
    by_cases hx : x < 0
    · have qx : decide (x < 0) = true := decide_eq_true hx
      have HZ : Hid (ww = ⟨#[107, 105, 110, 100, 115]⟩) := by show ww = _; rw [HR.out, HAk.out hx]; rfl
      clear HR HAk HTn hx
      go_wp2_with fail
      go_ret
      exact ⟨by rw [HZ.out]; rfl, HB.out⟩
    · have qx : decide (x < 0) = false := decide_eq_false hx
      have HZ := Lib.hid (HTn.out hx)
      clear HR HAk HTn hx
      go_wp2_with fail
      go_roundw
      case rel => exact ⟨k + 1, by omega, by go_num, HZ, trivial⟩
      case measure => simp [intOf]; omega
  have hA := HAg.out (fun j hj => HT.out j (by omega))
  subst hA
  have HR2 : Hid (ww = if cB = false then ⟨#[114, 101, 97, 115, 111, 110, 115]⟩ else if cC = false then ⟨#[109, 101, 116, 104, 111, 100, 115]⟩
    else if cD = true then ⟨#[108, 97, 116, 101, 114]⟩ else if cE = true then ⟨#[115, 97, 102, 101]⟩ else ⟨#[]⟩) := HR.out
  have hkl : (k : Int) = 8 := by omega
  rw [hkl]
  clear hkl hlt hk HT HR HAb HAg
  have x6 := HGet.out _ _ HA.out 6 (by decide)
  go_wp2_with fail
  clear x6
  go_loopw [4, 5] (fun u i wr => ∃ k : Nat, k ≤ 16 ∧ i = .int .i64 k ∧ u = .int .i64 (subK (c 6) (fun j => c (8 + j)) k) ∧ Hid (∀ j, j < k → 0 ≤ c (8 + j)) ∧ wr = W) (fun _ i _ => 16 - (intOf i).toNat)
  case atStart => exact ⟨0, Nat.zero_le _, rfl, rfl, Lib.hid (fun j h => absurd h (Nat.not_lt_zero j)), rfl⟩
  case round =>
  obtain ⟨k, hk, rfl, rfl, HT, hwr⟩ := hrel
  have hwr := hwr.symm
  subst hwr
  by_cases hlt : k < 16
  · have q0 : decide ((k : Int) < 16) = true := decide_eq_true (by omega)
    have hkn : (k : Int) < (16 : Int) := by omega
    have x0 := HGet.out _ _ HA.out (8 + k) (by omega)
    have HAk := Lib.hid (HBb.out k hlt)
    have hsb := HS6.out k (by omega) HT.out
    have hcb := HBd.out (8 + k) (by omega)
    have HTn : Hid (¬ c (8 + k) < 0 → ∀ j, j < k + 1 → 0 ≤ c (8 + j)) := fun hn j h => by
      rcases Nat.lt_or_eq_of_le (Nat.le_of_lt_succ h) with h' | rfl
      · exact HT.out j h'
      · omega
    have HNx : Hid (subK (c 6) (fun j => c (8 + j)) (k + 1) = subK (c 6) (fun j => c (8 + j)) k - c (8 + k)) := rfl
    clear HGet HBd HBb HBg HCb HCg HS6 HS2 HD HE HT HA
    generalize subK (c 6) (fun j => c (8 + j)) k = s at *
    generalize c (8 + k) = x at *
    by_cases hx : x < 0
    · have qx : decide (x < 0) = true := decide_eq_true hx
      have HZ : Hid (ww = ⟨#[114, 101, 97, 115, 111, 110, 115]⟩) := by show ww = _; rw [HR2.out, HAk.out hx]; rfl
      clear HR2 HAk HTn hx HNx
      go_wp2_with fail
      go_ret
      exact ⟨by rw [HZ.out]; rfl, HB.out⟩
    · have qx : decide (x < 0) = false := decide_eq_false hx
      have HZ := Lib.hid (HTn.out hx)
      have hwp : IntKind.i64.wrap (s - x) = s - x := IntWalk.i64_in _ ⟨by omega, by omega⟩
      have hs1 : -9000000000000000 ≤ s - x := by omega
      have hs2 : s - x ≤ 9000000000000000 := by omega
      clear HR2 HAk HTn hx
      go_wp2_with fail
      go_roundw
      case rel => exact ⟨k + 1, by omega, by go_num, by rw [HNx.out] <;> first | rfl | go_num, HZ, trivial⟩
      case measure => simp [intOf]; omega
  have hke : k = 16 := by omega
  have hB := HBg.out (fun j hj => HT.out j (by omega))
  rw [hke]
  clear HT hk hlt
  generalize subK (c 6) (fun j => c (8 + j)) 16 = s at *
  have HBq := Lib.hid hB
  clear hB hke
  clear HBb HBg HS6
  by_cases hs : s = 0
  case neg =>
    have qs : (s != 0) = true := by rw [bne, beq_eq_false_iff_ne.2 hs]; rfl
    have HZ : Hid (ww = ⟨#[114, 101, 97, 115, 111, 110, 115]⟩) := by show ww = _; rw [HR2.out, HBq.out, decide_eq_false hs]; rfl
    clear HGet HBd HCb HCg HS2 HD HE HA HBq HR2 hs
    go_wp2_with fail
    go_ret
    exact ⟨by rw [HZ.out]; rfl, HB.out⟩
  subst hs
  have hB : cB = true := HBq.out
  subst hB
  have HR3 : Hid (ww = if cC = false then ⟨#[109, 101, 116, 104, 111, 100, 115]⟩ else if cD = true then ⟨#[108, 97, 116, 101, 114]⟩ else if cE = true then ⟨#[115, 97, 102, 101]⟩ else ⟨#[]⟩) := HR2.out
  clear HBq HR2
  have x2 := HGet.out _ _ HA.out 2 (by decide)
  go_wp2_with fail
  clear x2
  go_loopw [4, 6] (fun u i wr => ∃ k : Nat, k ≤ 4 ∧ i = .int .i64 k ∧ u = .int .i64 (subK (c 2) (fun j => c (24 + j)) k) ∧ Hid (∀ j, j < k → 0 ≤ c (24 + j)) ∧ wr = W) (fun _ i _ => 4 - (intOf i).toNat)
  case atStart => exact ⟨0, Nat.zero_le _, rfl, rfl, Lib.hid (fun j h => absurd h (Nat.not_lt_zero j)), rfl⟩
  case round =>
  obtain ⟨k, hk, rfl, rfl, HT, hwr⟩ := hrel
  have hwr := hwr.symm
  subst hwr
  by_cases hlt : k < 4
  · have q0 : decide ((k : Int) < 4) = true := decide_eq_true (by omega)
    have hkn : (k : Int) < (4 : Int) := by omega
    have x0 := HGet.out _ _ HA.out (24 + k) (by omega)
    have HAk := Lib.hid (HCb.out k hlt)
    have hsb := HS2.out k (by omega) HT.out
    have hcb := HBd.out (24 + k) (by omega)
    have HTn : Hid (¬ c (24 + k) < 0 → ∀ j, j < k + 1 → 0 ≤ c (24 + j)) := fun hn j h => by
      rcases Nat.lt_or_eq_of_le (Nat.le_of_lt_succ h) with h' | rfl
      · exact HT.out j h'
      · omega
    have HNx : Hid (subK (c 2) (fun j => c (24 + j)) (k + 1) = subK (c 2) (fun j => c (24 + j)) k - c (24 + k)) := rfl
    clear HGet HBd HCb HCg HS2 HD HE HT HA
    generalize subK (c 2) (fun j => c (24 + j)) k = s at *
    generalize c (24 + k) = x at *
    by_cases hx : x < 0
    · have qx : decide (x < 0) = true := decide_eq_true hx
      have HZ : Hid (ww = ⟨#[109, 101, 116, 104, 111, 100, 115]⟩) := by show ww = _; rw [HR3.out, HAk.out hx]; rfl
      clear HR3 HAk HTn hx HNx
      go_wp2_with fail
      go_ret
      exact ⟨by rw [HZ.out]; rfl, HB.out⟩
    · have qx : decide (x < 0) = false := decide_eq_false hx
      have HZ := Lib.hid (HTn.out hx)
      have hwp : IntKind.i64.wrap (s - x) = s - x := IntWalk.i64_in _ ⟨by omega, by omega⟩
      have hs1 : -9000000000000000 ≤ s - x := by omega
      have hs2 : s - x ≤ 9000000000000000 := by omega
      clear HR3 HAk HTn hx
      go_wp2_with fail
      go_roundw
      case rel => exact ⟨k + 1, by omega, by go_num, by rw [HNx.out] <;> first | rfl | go_num, HZ, trivial⟩
      case measure => simp [intOf]; omega
  have hke : k = 4 := by omega
  have hB := HCg.out (fun j hj => HT.out j (by omega))
  rw [hke]
  clear HT hk hlt
  generalize subK (c 2) (fun j => c (24 + j)) 4 = s at *
  have HBq := Lib.hid hB
  clear hB hke
  clear HCb HCg HS2
  by_cases hs : s = 0
  case neg =>
    have qs : (s != 0) = true := by rw [bne, beq_eq_false_iff_ne.2 hs]; rfl
    have HZ : Hid (ww = ⟨#[109, 101, 116, 104, 111, 100, 115]⟩) := by show ww = _; rw [HR3.out, HBq.out, decide_eq_false hs]; rfl
    clear HGet HBd  HD HE HA HBq HR3 hs
    go_wp2_with fail
    go_ret
    exact ⟨by rw [HZ.out]; rfl, HB.out⟩
  subst hs
  have hB : cC = true := HBq.out
  subst hB
  have HR4 : Hid (ww = if cD = true then ⟨#[108, 97, 116, 101, 114]⟩ else if cE = true then ⟨#[115, 97, 102, 101]⟩ else ⟨#[]⟩) := HR3.out
  clear HBq HR3
  have x28 := HGet.out _ _ HA.out 28 (by decide)
  have x29 := HGet.out _ _ HA.out 29 (by decide)
  have x1 := HGet.out _ _ HA.out 1 (by decide)
  have x2 := HGet.out _ _ HA.out 2 (by decide)
  have x4 := HGet.out _ _ HA.out 4 (by decide)
  have b28 := HBd.out 28 (by decide)
  have b29 := HBd.out 29 (by decide)
  have b1 := HBd.out 1 (by decide)
  have b2 := HBd.out 2 (by decide)
  clear HGet HBd HA
  generalize c 28 = z8 at *
  generalize c 29 = z9 at *
  generalize c 1 = k1 at *
  generalize c 2 = k2 at *
  generalize c 4 = k4 at *
  have hw8 : IntKind.i64.wrap (z8 - k1) = z8 - k1 := IntWalk.i64_in _ ⟨by omega, by omega⟩
  have hw9 : IntKind.i64.wrap (z9 - k2) = z9 - k2 := IntWalk.i64_in _ ⟨by omega, by omega⟩
  go_upto_region 24 with fail
  go_cut [70] (fun u wx => u = .bool cD ∧ wx = W)
  case first =>
    clear HR4 HE
    by_cases h0 : z8 < 0
    · have q0 : decide (z8 < 0) = true := decide_eq_true h0
      have HZ : Hid (cD = true) := HD.out.trans (by rw [q0]; rfl)
      clear HD
      go_wp2_with fail
      go_meet
      case rel => exact ⟨by rw [HZ.out], rfl⟩
    · have q0 : decide (z8 < 0) = false := decide_eq_false h0
      have HZ : Hid (cD = decide (z8 - k1 > k2)) := HD.out.trans (by rw [q0]; rfl)
      clear HD
      go_wp2_with fail
      go_meet
      case rel => exact ⟨by rw [HZ.out], rfl⟩
  case rest =>
  obtain ⟨rfl, hw⟩ := hcut
  have hw := hw.symm
  subst hw
  clear HD
  cases cD with
  | true =>
    have HZ : Hid (ww = ⟨#[108, 97, 116, 101, 114]⟩) := HR4.out
    clear HR4 HE
    go_wp2_with fail
    go_ret
    exact ⟨by rw [HZ.out]; rfl, HB.out⟩
  | false =>
  have HR5 : Hid (ww = if cE = true then ⟨#[115, 97, 102, 101]⟩ else ⟨#[]⟩) := HR4.out
  clear HR4
  go_upto_region 26 with fail
  go_cut [85] (fun u wx => u = .bool cE ∧ wx = W)
  case first =>
    clear HR5
    by_cases h0 : z9 < 0
    · have q0 : decide (z9 < 0) = true := decide_eq_true h0
      have HZ : Hid (cE = true) := HE.out.trans (by rw [q0]; rfl)
      clear HE
      go_wp2_with fail
      go_meet
      case rel => exact ⟨by rw [HZ.out], rfl⟩
    · have q0 : decide (z9 < 0) = false := decide_eq_false h0
      have HZ : Hid (cE = decide (z9 - k2 > k4)) := HE.out.trans (by rw [q0]; rfl)
      clear HE
      go_wp2_with fail
      go_meet
      case rel => exact ⟨by rw [HZ.out], rfl⟩
  case rest =>
  obtain ⟨rfl, hw⟩ := hcut
  have hw := hw.symm
  subst hw
  clear HE
  cases cE with
  | true =>
    have HZ : Hid (ww = ⟨#[115, 97, 102, 101]⟩) := HR5.out
    clear HR5
    go_wp2_with fail
    go_ret
    exact ⟨by rw [HZ.out]; rfl, HB.out⟩
  | false =>
    have HZ : Hid (ww = ⟨#[]⟩) := HR5.out
    clear HR5
    go_wp2_with fail
    go_ret
    exact ⟨by rw [HZ.out]; rfl, HB.out⟩
end Go.Proofs.YtjphlhehhigpjaaDoor
