/- Layer 37: the document's Events and Lost; rises. -/
import Derived.Test.YtjphlhehhigpjaaCeP
namespace Go.Proofs.Ytjphlhehhigpjaa
open Go.RowKit

set_option maxHeartbeats 4000000 in
set_option maxRecDepth 100000 in
theorem r37Events_any {w : World} {v : Value} {l : List EvV} (h : EventsAt w v l) (hl : l.length ≤ 900) (s : Int) :
    Calls Try.prog 18 #[v, .int .i64 s] w fun e w' => e = .returned (.int .i64 ((evN l s l.length : Nat) : Int)) ∧ w' = w := by
  obtain ⟨ao, cap, rfl, hc⟩ := h
  have HC := Lib.hid hc
  have HS : Hid (∀ k (hk : k < l.length), ((evN l s (k + 1) : Nat) : Int) = (evN l s k : Int) + (if (!((l[k]).ki == 7) && ((l[k]).se == s)) = true then 1 else 0)) := fun k hk => by
    rw [evN_next hk]
    show ((evN l s k + (if (!((l[k]).ki == 7) && ((l[k]).se == s)) = true then 1 else 0) : Nat) : Int) = _
    split <;> simp
  have HL : Hid (∀ k, evN l s k ≤ l.length) := fun k => evN_le l s k
  clear hc
  go_enter Try.func18, Try.ntmps18
  go_wp2_with fail
  go_loopw [5, 6] (fun c i wr => ∃ k : Nat, k ≤ l.length ∧ i = .int .i64 k ∧ c = .int .i64 ((evN l s k : Nat) : Int) ∧ wr = w) (fun _ i _ => l.length - (intOf i).toNat)
  case atStart => exact ⟨0, Nat.zero_le _, rfl, rfl, rfl⟩
  case round =>
    obtain ⟨k, hk, rfl, rfl, hwr⟩ := hrel
    have hw := hwr.symm
    subst hw
    have hcl := HL.out k
    by_cases hlt : k < l.length
    · have HLT := Lib.hid hlt
      have q0 : (k : Int) < (l.length : Int) := by omega
      obtain ⟨b, off, rfl, hb, hcell⟩ := HC.out (by intro h; simp [h] at hlt)
      have c0 : w.cell? ⟨b, off + k * 34, none⟩ = some (.int .i64 (l[k]).ki) := hcell k _ (List.getElem?_eq_getElem hlt) 0 _ (EvV.row_ki _)
      have c1 := hcell k _ (List.getElem?_eq_getElem hlt) 1 _ (EvV.row_se _)
      have HF := Lib.hid (HS.out k hlt)
      clear hcell HC HS HL
      generalize (l[k]).ki = ki at *
      generalize (l[k]).se = sk at *
      generalize hcn : evN l s k = cn at *
      clear hcn
      have hcb : (cn : Int) ≤ 900 := by omega
      by_cases h7 : ki = 7
      · subst h7
        have HF2 : Hid (((evN l s (k + 1) : Nat) : Int) = cn) := HF.out.trans (by simp)
        clear HF
        go_wp2_with fail
        go_roundw
        case rel => exact ⟨k + 1, by have := HLT.out; omega, by go_num, by rw [HF2.out], trivial⟩
        case measure => have := HLT.out; simp [intOf]; omega
      have q7 : (ki != 7) = true := by rw [bne, beq_eq_false_iff_ne.2 h7]; rfl
      rw [beq_eq_false_iff_ne.2 h7] at HF
      by_cases h2 : sk = s
      · have q2 : (sk == s) = true := by rw [h2]; exact beq_self_eq_true _
        rw [q2] at HF
        have HF2 : Hid (((evN l s (k + 1) : Nat) : Int) = (cn : Int) + 1) := HF.out.trans (by simp)
        clear HF h2 h7
        go_wp2_with fail
        go_roundw
        case rel => exact ⟨k + 1, by have := HLT.out; omega, by go_num, by rw [HF2.out] <;> go_num, trivial⟩
        case measure => have := HLT.out; simp [intOf]; omega
      · have q2 : (sk == s) = false := beq_eq_false_iff_ne.2 h2
        rw [q2] at HF
        have HF2 : Hid (((evN l s (k + 1) : Nat) : Int) = (cn : Int)) := HF.out.trans (by simp)
        clear HF h2 h7
        go_wp2_with fail
        go_roundw
        case rel => exact ⟨k + 1, by have := HLT.out; omega, by go_num, by rw [HF2.out], trivial⟩
        case measure => have := HLT.out; simp [intOf]; omega
    · have hkl : k = l.length := by omega
      subst hkl
      clear hlt HC HS HL
      go_wp2_with fail
      go_ret
      exact ⟨rfl, rfl⟩
theorem lost_stays {l : List EvV} {z : Int} {k : Nat} (h : lostB l k z = true) : ∀ j, k ≤ j → lostB l j z = true
  | 0, hj => by have : k = 0 := by omega
                subst this; exact h
  | j + 1, hj => by
    rcases Nat.lt_or_eq_of_le hj with h' | rfl
    · rw [lostB, lost_stays h j (by omega), Bool.true_or]
    · exact h
theorem beg_stays {l : List EvV} {z : Int} {k : Nat} (h : begB l k z = true) {j : Nat} (hj : k ≤ j) : begB l j z = true := by
  unfold begB at h ⊢
  rw [List.any_eq_true] at h ⊢
  obtain ⟨x, hx, hp⟩ := h
  exact ⟨x, (List.take_subset_take_left l hj) hx, hp⟩
theorem lost_never {l : List EvV} {z : Int} {k : Nat} (hb : begB l k z = true) (h : lostB l k z = false) : ∀ j, k ≤ j → lostB l j z = false
  | 0, hj => by have : k = 0 := by omega
                subst this; exact h
  | j + 1, hj => by
    rcases Nat.lt_or_eq_of_le hj with h' | rfl
    · rw [lostB, lost_never hb h j (by omega), Bool.false_or, beg_stays hb (show k ≤ j by omega)]
      cases l[j]? with
      | none => rfl
      | some x => simp
    · exact h
set_option maxHeartbeats 4000000 in
set_option maxRecDepth 100000 in
theorem r37Lost_any {w : World} {v : Value} {l : List EvV} (h : EventsAt w v l) (hl : l.length ≤ 900) (s : Int) :
    Calls Try.prog 20 #[v, .int .i64 s] w fun e w' => e = .returned (.bool (lostB l l.length s)) ∧ w' = w := by
  obtain ⟨ao, cap, rfl, hc⟩ := h
  have HC := Lib.hid hc
  have HBn : Hid (∀ k (hk : k < l.length), begB l (k + 1) s = (begB l k s || ((l[k]).se == s && (((l[k]).ki == 1) || ((l[k]).ki == 2))))) := fun k hk => beg_next hk s
  have HLn : Hid (∀ k (hk : k < l.length), lostB l (k + 1) s = (lostB l k s || ((l[k]).ki == 6 && ((l[k]).se == s && !begB l k s)))) := fun k hk => lost_next hk s
  have HY : Hid (∀ k, k ≤ l.length → lostB l k s = true → lostB l l.length s = true) := fun k hk h => lost_stays h _ hk
  have HN : Hid (∀ k, k ≤ l.length → begB l k s = true → lostB l k s = false → lostB l l.length s = false) := fun k hk hb h => lost_never hb h _ hk
  obtain ⟨z, hz⟩ : ∃ z, Hid (z = lostB l l.length s) := ⟨_, Lib.hid rfl⟩
  rw [← hz.out] at HY HN ⊢
  clear hc
  go_enter Try.func20, Try.ntmps20
  go_wp2_with fail
  go_loopw [5] (fun i wr => ∃ k : Nat, k ≤ l.length ∧ i = .int .i64 k ∧ Hid (begB l k s = false ∧ lostB l k s = false) ∧ wr = w) (fun i _ => l.length - (intOf i).toNat)
  case atStart => exact ⟨0, Nat.zero_le _, rfl, Lib.hid ⟨rfl, rfl⟩, rfl⟩
  case round =>
    obtain ⟨k, hk, rfl, HT, hwr⟩ := hrel
    have hw := hwr.symm
    subst hw
    by_cases hlt : k < l.length
    · have HLT := Lib.hid hlt
      have q0 : (k : Int) < (l.length : Int) := by omega
      obtain ⟨b, off, rfl, hb, hcell⟩ := HC.out (by intro h; simp [h] at hlt)
      have c0 : w.cell? ⟨b, off + k * 34, none⟩ = some (.int .i64 (l[k]).ki) := hcell k _ (List.getElem?_eq_getElem hlt) 0 _ (EvV.row_ki _)
      have c1 := hcell k _ (List.getElem?_eq_getElem hlt) 1 _ (EvV.row_se _)
      have HB2 : Hid (begB l (k + 1) s = ((l[k]).se == s && (((l[k]).ki == 1) || ((l[k]).ki == 2)))) := by
        have e := HBn.out k hlt
        rw [HT.out.1, Bool.false_or] at e
        exact e
      have HL2 : Hid (lostB l (k + 1) s = ((l[k]).ki == 6 && (l[k]).se == s)) := by
        have e := HLn.out k hlt
        rw [HT.out.1, HT.out.2, Bool.false_or, Bool.not_false, Bool.and_true] at e
        exact e
      have HY2 := Lib.hid (HY.out (k + 1) hlt)
      have HN2 := Lib.hid (HN.out (k + 1) hlt)
      clear hcell HC HBn HLn HY HN HT hz
      generalize (l[k]).ki = ki at *
      generalize (l[k]).se = sk at *
      by_cases hs : sk = s
      case neg =>
        have qs : (sk != s) = true := by rw [bne, beq_eq_false_iff_ne.2 hs]; rfl
        have HT2 : Hid (begB l (k + 1) s = false ∧ lostB l (k + 1) s = false) := by
          rw [HB2.out, HL2.out, beq_eq_false_iff_ne.2 hs]; exact ⟨rfl, Bool.and_false _⟩
        clear HB2 HL2 HY2 HN2 hs
        go_wp2_with fail
        go_roundw
        case rel => exact ⟨k + 1, by have := HLT.out; omega, by go_num, HT2, trivial⟩
        case measure => have := HLT.out; simp [intOf]; omega
      have qs : (sk != s) = false := by rw [bne, hs, beq_self_eq_true]; rfl
      have qe : (sk == s) = true := by rw [hs]; exact beq_self_eq_true _
      rw [qe] at HB2 HL2
      by_cases h1 : ki = 1
      · subst h1
        have HZ := Lib.hid (HN2.out (by rw [HB2.out]; rfl) (by rw [HL2.out]; rfl))
        clear HB2 HL2 HY2 HN2
        go_wp2_with fail
        go_ret
        exact ⟨by rw [HZ.out]; rfl, rfl⟩
      have q1 : (ki == 1) = false := beq_eq_false_iff_ne.2 h1
      by_cases h2 : ki = 2
      · subst h2
        have HZ := Lib.hid (HN2.out (by rw [HB2.out]; rfl) (by rw [HL2.out]; rfl))
        clear HB2 HL2 HY2 HN2
        go_wp2_with fail
        go_ret
        exact ⟨by rw [HZ.out]; rfl, rfl⟩
      have q2 : (ki == 2) = false := beq_eq_false_iff_ne.2 h2
      by_cases h6 : ki = 6
      · subst h6
        have HZ := Lib.hid (HY2.out (by rw [HL2.out]; rfl))
        clear HB2 HL2 HY2 HN2
        go_wp2_with fail
        go_ret
        exact ⟨by rw [HZ.out]; rfl, rfl⟩
      have q6 : (ki == 6) = false := beq_eq_false_iff_ne.2 h6
      have HT2 : Hid (begB l (k + 1) s = false ∧ lostB l (k + 1) s = false) := by
        rw [HB2.out, HL2.out, q1, q2, q6]; exact ⟨rfl, rfl⟩
      clear HB2 HL2 HY2 HN2
      go_wp2_with fail
      go_roundw
      case rel => exact ⟨k + 1, by have := HLT.out; omega, by go_num, HT2, trivial⟩
      case measure => have := HLT.out; simp [intOf]; omega
    · have hkl : k = l.length := by omega
      subst hkl
      have HZ : Hid (z = false) := hz.out.trans HT.out.2
      clear hlt HC HBn HLn HY HN HT hz
      go_wp2_with fail
      go_ret
      exact ⟨by rw [HZ.out]; rfl, rfl⟩
set_option maxHeartbeats 4000000 in
set_option maxRecDepth 100000 in
theorem rises37_any {w : World} {v : Value} {L : List Int} (h : IdsAt w v L) (hl : L.length ≤ 1000) (hp : L.Pairwise (· < ·)) : Calls Try.prog 17 #[v] w fun e w' => e = .returned (.bool true) ∧ Below w.heap.size w w' := by
  obtain ⟨ao, cap, rfl, hc⟩ := h
  have HC := Lib.hid hc
  have HP : Hid (∀ k (h1 : 0 < k) (h2 : k < L.length), L[k - 1] < L[k]) := fun k h1 h2 => List.pairwise_iff_getElem.1 hp (k - 1) k (by omega) h2 (by omega)
  clear hc hp
  go_enter Try.func17, Try.ntmps17
  go_wp2_with fail
  go_loopw [3] (fun i wr => ∃ k : Nat, 0 < k ∧ (k ≤ L.length ∨ k = 1) ∧ i = .int .i64 k ∧ Hid (Below w.heap.size w wr)) (fun i _ => L.length + 1 - (intOf i).toNat)
  case atStart => exact ⟨1, by omega, .inr rfl, rfl, Lib.hid (Below.refl _ _)⟩
  case round =>
    obtain ⟨k, hk0, hk, rfl, HB⟩ := hrel
    by_cases hlt : k < L.length
    · have q0 : (k : Int) < (L.length : Int) := by omega
      obtain ⟨b, off, rfl, hb, hcell⟩ := HC.out (by intro h; simp [h] at hlt)
      have HRd : Hid (∀ W, Below w.heap.size w W → W.cell? ⟨b, off + k, none⟩ = some (.int .i64 L[k]) ∧ W.cell? ⟨b, off + (k - 1), none⟩ = some (.int .i64 (L[k - 1]'(by omega)))) := fun W hw => ⟨(hw.cell (p := ⟨b, off + k, none⟩) hb).trans (hcell k _ (List.getElem?_eq_getElem hlt)), (hw.cell (p := ⟨b, off + (k - 1), none⟩) hb).trans (hcell (k - 1) _ (List.getElem?_eq_getElem (by omega)))⟩
      have hpk := HP.out k hk0 hlt
      obtain ⟨j, rfl⟩ : ∃ j, k = j + 1 := ⟨k - 1, by omega⟩
      simp only [Nat.add_sub_cancel] at HRd hpk
      have qj : (j : Int) < (L.length : Int) := by omega
      have qj1 : ((j + 1 : Nat) : Int) - 1 = (j : Int) := by omega
      have hwj : IntKind.i64.wrap (((j + 1 : Nat) : Int) - 1) = (j : Int) := by rw [qj1]; exact IntWalk.i64_in _ ⟨by omega, by omega⟩
      have qz : (0 : Int) ≤ (j : Int) + 1 := by omega
      have qz2 : (j : Int) + 1 < (L.length : Int) := by omega
      have hwj2 : IntKind.i64.wrap (j : Int) = (j : Int) := IntWalk.i64_in _ ⟨by omega, by omega⟩
      clear hcell HC HP
      generalize L[j + 1] = x at *
      generalize (L[j]'(by omega)) = y at *
      have q : decide (x ≤ y) = false := decide_eq_false (by omega)
      go_upto_region 4 with fail
      obtain ⟨Sp, hSp⟩ : ∃ Sp : World → Prop, Hid (∀ w', Sp w' ↔ (Below w.heap.size w w' ∧ w'.cell? ⟨b, off + (j + 1), none⟩ = some (.int .i64 x) ∧ w'.cell? ⟨b, off + j, none⟩ = some (.int .i64 y))) := ⟨_, Lib.hid fun _ => Iff.rfl⟩
      refine wp_region_held_gen Sp (by kernel_rfl) ((hSp.out _).2 ⟨HB.out.drew, HRd.out _ HB.out.drew⟩) ?_
      have hHeld : Sp _ := (hSp.out (World.drew _)).2 ⟨HB.out.drew, HRd.out _ HB.out.drew⟩
      intro O hO
      refine held_read hO (i := 0) rfl rfl (by kernel_rfl) (fun _ _ _ _ h => h) ?_ hHeld ?_ ?_
      rotate_left 1
      · (intro w hSw; obtain ⟨_, a1, a2⟩ := (hSp.out _).1 hSw; go_simp; (try with_reducible rfl))
      try simp only [Act.put, List.setIfInBounds_toArray, List.set_cons_zero, List.set_cons_succ]
      refine held_read hO (i := 1) rfl rfl (by kernel_rfl) (fun _ _ _ _ h => h) ?_ hHeld ?_ ?_
      rotate_left 1
      · (intro w hSw; obtain ⟨_, a1, a2⟩ := (hSp.out _).1 hSw; go_simp; (try with_reducible rfl))
      try simp only [Act.put, List.setIfInBounds_toArray, List.set_cons_zero, List.set_cons_succ]
      refine held_read hO (i := 2) rfl rfl (by kernel_rfl) (fun _ _ _ _ h => h) ?_ hHeld ?_ ?_
      rotate_left 1
      · (intro w hSw; obtain ⟨_, a1, a2⟩ := (hSp.out _).1 hSw; go_simp; (try with_reducible rfl))
      try simp only [Act.put, List.setIfInBounds_toArray, List.set_cons_zero, List.set_cons_succ]
      refine held_read hO (i := 3) rfl rfl (by kernel_rfl) (fun _ _ _ _ h => h) ?_ hHeld ?_ ?_
      rotate_left 1
      · (intro w hSw; obtain ⟨_, a1, a2⟩ := (hSp.out _).1 hSw; go_simp; (try with_reducible rfl))
      try simp only [Act.put, List.setIfInBounds_toArray, List.set_cons_zero, List.set_cons_succ]
      refine held_read hO (i := 4) rfl rfl (by kernel_rfl) (fun _ _ _ _ h => h) ?_ hHeld ?_ ?_
      rotate_left 1
      · (intro w hSw; obtain ⟨_, a1, a2⟩ := (hSp.out _).1 hSw; go_simp; (try with_reducible rfl))
      try simp only [Act.put, List.setIfInBounds_toArray, List.set_cons_zero, List.set_cons_succ]
      refine held_read hO (i := 5) rfl rfl (by kernel_rfl) (fun _ _ _ _ h => h) ?_ hHeld ?_ ?_
      rotate_left 1
      · (intro w hSw; obtain ⟨_, a1, a2⟩ := (hSp.out _).1 hSw; go_simp; (try with_reducible rfl))
      try simp only [Act.put, List.setIfInBounds_toArray, List.set_cons_zero, List.set_cons_succ]
      refine held_read hO (i := 6) rfl rfl (by kernel_rfl) (fun _ _ _ _ h => h) ?_ hHeld ?_ ?_
      rotate_left 1
      · (intro w hSw; obtain ⟨_, a1, a2⟩ := (hSp.out _).1 hSw; go_simp; (try with_reducible rfl))
      try simp only [Act.put, List.setIfInBounds_toArray, List.set_cons_zero, List.set_cons_succ]
      refine held_read hO (i := 7) rfl rfl (by kernel_rfl) (fun _ _ _ _ h => h) ?_ hHeld ?_ ?_
      rotate_left 1
      · (intro w hSw; obtain ⟨_, a1, a2⟩ := (hSp.out _).1 hSw; go_simp; (try with_reducible rfl))
      try simp only [Act.put, List.setIfInBounds_toArray, List.set_cons_zero, List.set_cons_succ]
      refine held_read hO (i := 8) rfl rfl (by kernel_rfl) (fun _ _ _ _ h => h) ?_ hHeld ?_ ?_
      rotate_left 1
      · (intro w hSw; obtain ⟨_, a1, a2⟩ := (hSp.out _).1 hSw; go_simp; (try with_reducible rfl))
      try simp only [Act.put, List.setIfInBounds_toArray, List.set_cons_zero, List.set_cons_succ]
      refine held_read hO (i := 9) rfl rfl (by kernel_rfl) (fun _ _ _ _ h => h) ?_ hHeld ?_ ?_
      rotate_left 1
      · (intro w hSw; obtain ⟨_, a1, a2⟩ := (hSp.out _).1 hSw; go_simp; (try with_reducible rfl))
      try simp only [Act.put, List.setIfInBounds_toArray, List.set_cons_zero, List.set_cons_succ]
      refine held_done hO (by kernel_rfl) ?_
      clear hO O
      have HBh := Lib.hid ((hSp.out _).1 hHeld).1
      clear hHeld hSp Sp
      go_wp2_with fail
      go_roundw
      case rel => exact ⟨j + 2, by omega, .inl (by omega), by go_num, HBh⟩
      case measure => simp [intOf]; omega
    · have q0 : ¬ (k : Int) < (L.length : Int) := by omega
      have qd : decide ((k : Int) < (L.length : Int)) = false := decide_eq_false (by omega)
      clear hlt HC HP
      go_wp2_with fail
      go_ret
      exact ⟨rfl, HB.out⟩
end Go.Proofs.Ytjphlhehhigpjaa
