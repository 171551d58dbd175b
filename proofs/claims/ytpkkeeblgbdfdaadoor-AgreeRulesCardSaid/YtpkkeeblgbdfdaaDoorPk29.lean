/- Part 29 of what the statement wants. -/
import Derived.Test.YtpkkeeblgbdfdaaDoorPk24
import Derived.Test.YtpkkeeblgbdfdaaDoorPk27
import Derived.Test.YtpkkeeblgbdfdaaDoorPk28
namespace Go.Proofs.YtpkkeeblgbdfdaaDoor
open Go.RowKit

theorem cnt_step {l : List EvV} {k : Nat} (hk : k < l.length) (ki se : Int) : ((cntR l ki se (k + 1) : Nat) : Int) = (cntR l ki se k : Int) + (if ((l[k]).ki == ki && (l[k]).se == se) = true then 1 else 0) := by
  unfold cntR
  rw [take_step hk, List.countP_append, List.countP_cons, List.countP_nil]
  split <;> simp_all
theorem cnt_le {l : List EvV} (ki se : Int) (k : Nat) : cntR l ki se k ≤ l.length := by
  unfold cntR
  exact Nat.le_trans List.countP_le_length (List.length_take_le' _ _)
set_option maxHeartbeats 4000000 in
set_option maxRecDepth 100000 in
theorem r32count_any {w : World} {v : Value} {l : List EvV} (h : EventsAt w v l) (hl : l.length ≤ 1000) (kd se : Int) {n : Nat} (hn : n ≤ l.length) :
    Calls Tryd.prog 10 #[v, .int .i64 kd, .int .i64 se, .int .i64 (n : Int)] w fun e w' => e = .returned (.int .i64 ((cntR l kd se n : Nat) : Int)) ∧ w' = w := by
  obtain ⟨ao, cap, rfl, hc⟩ := h
  have HC := Lib.hid hc
  have HS : Hid (∀ k (hk : k < l.length), ((cntR l kd se (k + 1) : Nat) : Int) = (cntR l kd se k : Int) + (if ((l[k]).ki == kd && (l[k]).se == se) = true then 1 else 0)) := fun k hk => cnt_step hk kd se
  have HL : Hid (∀ k, cntR l kd se k ≤ l.length) := fun k => cnt_le kd se k
  clear hc
  go_enter Tryd.func10, Tryd.ntmps10
  go_wp2_with fail
  go_loopw [9, 10] (fun c i wr => ∃ k : Nat, k ≤ n ∧ i = .int .i64 k ∧ c = .int .i64 ((cntR l kd se k : Nat) : Int) ∧ wr = w) (fun _ i _ => n - (intOf i).toNat)
  case atStart => exact ⟨0, Nat.zero_le _, rfl, rfl, rfl⟩
  case round =>
    obtain ⟨k, hk, rfl, rfl, hwr⟩ := hrel
    have hw := hwr.symm
    subst hw
    have hcl := HL.out k
    by_cases hlt : k < n
    · have HLT := Lib.hid hlt
      have hkl : k < l.length := by omega
      have q0 : decide ((k : Int) < (n : Int)) = true := decide_eq_true (by omega)
      obtain ⟨b, off, rfl, hb, hcell⟩ := HC.out (by intro h; simp [h] at hkl)
      have c0 : w.cell? ⟨b, off + k * 34, none⟩ = some (.int .i64 (l[k]).ki) := hcell k _ (List.getElem?_eq_getElem hkl) 0 _ (EvV.row_ki _)
      have c1 := hcell k _ (List.getElem?_eq_getElem hkl) 1 _ (EvV.row_se _)
      have HF := Lib.hid (HS.out k hkl)
      clear hcell HC HS HL
      generalize (l[k]).ki = ki at *
      generalize (l[k]).se = sk at *
      generalize hcn : cntR l kd se k = cn at *
      clear hcn
      by_cases h1 : ki = kd
      case neg =>
        have q1 : (ki == kd) = false := by rw [beq_eq_false_iff_ne]; exact h1
        rw [q1] at HF
        have HF2 : Hid (((cntR l kd se (k + 1) : Nat) : Int) = cn) := HF.out.trans (by simp)
        clear HF h1
        go_wp2_with fail
        go_roundw
        case rel => exact ⟨k + 1, by have := HLT.out; omega, by go_num, by rw [HF2.out], trivial⟩
        case measure => have := HLT.out; simp [intOf]; omega
      have q1 : (ki == kd) = true := by rw [h1]; exact beq_self_eq_true _
      rw [q1] at HF
      clear h1
      by_cases h2 : sk = se
      case neg =>
        have q2 : (sk == se) = false := by rw [beq_eq_false_iff_ne]; exact h2
        rw [q2] at HF
        have HF2 : Hid (((cntR l kd se (k + 1) : Nat) : Int) = cn) := HF.out.trans (by simp)
        clear HF h2
        go_wp2_with fail
        go_roundw
        case rel => exact ⟨k + 1, by have := HLT.out; omega, by go_num, by rw [HF2.out], trivial⟩
        case measure => have := HLT.out; simp [intOf]; omega
      have q2 : (sk == se) = true := by rw [h2]; exact beq_self_eq_true _
      rw [q2] at HF
      have HF2 : Hid (((cntR l kd se (k + 1) : Nat) : Int) = (cn : Int) + 1) := HF.out.trans (by simp)
      clear HF h2
      have hcb : (cn : Int) ≤ 1000 := by omega
      go_wp2_with fail
      go_roundw
      case rel => exact ⟨k + 1, by have := HLT.out; omega, by go_num, by rw [HF2.out] <;> go_num, trivial⟩
      case measure => have := HLT.out; simp [intOf]; omega
    · have hkl : k = n := by omega
      subst hkl
      clear hlt HC HS HL
      go_wp2_with fail
      go_ret
      exact ⟨rfl, rfl⟩

theorem twice_step {l : List EvV} {k : Nat} (hk : k < l.length) (ki : Int) (s : Nat) : twiceR l ki s (k + 1) = (twiceR l ki s k || (((l[k]).ki == ki) && (askedR l k && decide (srcK l k = some s)))) := by
  unfold twiceR
  rw [List.range_succ, List.any_append, List.any_cons, List.any_nil, Bool.or_false, List.getElem?_eq_getElem hk]
theorem twice_hit {l : List EvV} {k n : Nat} (hk : k < l.length) (hn : k < n) (ki : Int) (s : Nat) (h : (((l[k]).ki == ki) && (askedR l k && decide (srcK l k = some s))) = true) : twiceR l ki s n = true := by
  unfold twiceR
  rw [List.any_eq_true]
  exact ⟨k, List.mem_range.2 hn, by rw [List.getElem?_eq_getElem hk]; exact h⟩
theorem src_beq (o : Option Nat) (s : Nat) : ((match o with | some i => (i : Int) | none => -1) == (s : Int)) = decide (o = some s) := by
  cases o with
  | none => rw [decide_eq_false (by simp), beq_eq_false_iff_ne]; show (-1 : Int) ≠ s; omega
  | some i =>
    by_cases h : i = s
    · rw [h, decide_eq_true rfl]; exact beq_self_eq_true _
    · rw [decide_eq_false (by simpa using h), beq_eq_false_iff_ne]; show (i : Int) ≠ s; omega
set_option maxHeartbeats 4000000 in
set_option maxRecDepth 100000 in
theorem r32sources_any {w : World} {v : Value} {l : List EvV} (h : EventsAt w v l) (hl : l.length ≤ 1000) {n : Nat} (hn : n < l.length) :
    Calls Tryd.prog 13 #[v, .int .i64 (n : Int)] w fun e w' => e = .returned (.string (srcsR l n)) ∧ Below w.heap.size w w' := by
  have HAs : Hid (∀ W k, k < l.length → Below w.heap.size w W → Calls Tryd.prog 25 #[v, .int .i64 (k : Int)] W fun e w' => e = .returned (.bool (askedR l k)) ∧ w' = W) := fun W k hk hb => rasked_any (h.below hb) hl hk
  have HSo : Hid (∀ W k, k < l.length → Below w.heap.size w W → Calls Tryd.prog 26 #[v, .int .i64 (k : Int)] W fun e w' => e = .returned (.int .i64 (match srcK l k with | some i => (i : Int) | none => -1)) ∧ Below W.heap.size W w') := fun W k hk hb => by
    have := rsource_any (h.below hb) hl hk
    rw [src_idx hk] at this
    exact this
  obtain ⟨ao, cap, rfl, hc⟩ := h
  obtain ⟨b, off, hao, hb, hcell⟩ := hc (by rintro rfl; simp at hn)
  subst hao
  have HCe : Hid (∀ W, Below w.heap.size w W → ∀ k (hk : k < l.length), W.cell? ⟨b, off + k * 34, none⟩ = some (.int .i64 (l[k]).ki)) := fun W hw k hk => (hw.cell (p := ⟨b, off + k * 34, none⟩) hb).trans (hcell k _ (List.getElem?_eq_getElem hk) 0 _ (EvV.row_ki _))
  have hZ : srcsR l n = (if askedR l n = false then ⟨#[]⟩ else match srcK l n with
    | none => if (l[n]).ki = 2 then nmR 6 else if (l[n]).ki = 4 then nmR 7 else nmR 8
    | some s => if twiceR l (l[n]).ki s n = true then nmR 9 else ⟨#[]⟩) := by unfold srcsR; rw [List.getElem?_eq_getElem hn]; try rfl
  have HA := HAs.out w n hn (Below.refl _ _)
  have HS := HSo.out w n hn (Below.refl _ _)
  have c0 := HCe.out w (Below.refl _ _) n hn
  have hnl : (n : Int) < (l.length : Int) := by omega
  clear hc hcell
  cases ha : askedR l n with
  | false =>
    rw [ha] at HA hZ
    have HA := Lib.hid HA
    have HZ : Hid (srcsR l n = ⟨#[]⟩) := hZ
    clear HAs HSo HCe HS c0 hZ ha
    go_enter Tryd.func13, Tryd.ntmps13
    go_wp2_with (first | (go_at_call 25; (with_reducible refine HA.out.mono ?_); rintro e w1 ⟨rfl, hw⟩; have hw := hw.symm; subst hw))
    go_ret
    exact ⟨by rw [HZ.out]; rfl, Below.refl _ _⟩
  | true =>
    rw [ha] at HA hZ
    have HA := Lib.hid HA
    rw [if_neg (by decide)] at hZ
    cases hs : srcK l n with
    | none =>
      rw [hs] at HS hZ
      have HS : Hid (Calls Tryd.prog 26 #[.slice (some ⟨b, off, none⟩) l.length cap, .int .i64 (n : Int)] w fun e w' => e = .returned (.int .i64 (-1)) ∧ Below w.heap.size w w') := HS
      have hZ : srcsR l n = (if (l[n]).ki = 2 then nmR 6 else if (l[n]).ki = 4 then nmR 7 else nmR 8) := hZ
      clear HAs HSo ha hs c0
      have HCn : Hid (∀ W, Below w.heap.size w W → W.cell? ⟨b, off + n * 34, none⟩ = some (.int .i64 (l[n]).ki)) := fun W hw => HCe.out W hw n hn
      clear HCe
      generalize (l[n]).ki = kn at *
      by_cases h2 : kn = 2
      case pos =>
        subst h2
        have HZ : Hid (srcsR l n = nmR 6) := hZ
        clear hZ
        go_enter Tryd.func13, Tryd.ntmps13
        go_wp2_with (first
          | (go_at_call 25; (with_reducible refine HA.out.mono ?_); rintro e w1 ⟨rfl, hw⟩; have hw := hw.symm; subst hw)
          | (go_at_call 26; (with_reducible refine HS.out.mono ?_); rintro e w2 ⟨rfl, b2⟩; have B2 := Lib.hid b2; have c0 := HCn.out _ b2; clear b2))
        go_ret
        exact ⟨by rw [HZ.out]; rfl, B2.out⟩
      rw [if_neg h2] at hZ
      have q2 : (kn == 2) = false := by rw [beq_eq_false_iff_ne]; exact h2
      by_cases h4 : kn = 4
      case pos =>
        subst h4
        have HZ : Hid (srcsR l n = nmR 7) := hZ
        clear hZ h2 q2
        go_enter Tryd.func13, Tryd.ntmps13
        go_wp2_with (first
          | (go_at_call 25; (with_reducible refine HA.out.mono ?_); rintro e w1 ⟨rfl, hw⟩; have hw := hw.symm; subst hw)
          | (go_at_call 26; (with_reducible refine HS.out.mono ?_); rintro e w2 ⟨rfl, b2⟩; have B2 := Lib.hid b2; have c0 := HCn.out _ b2; clear b2))
        go_ret
        exact ⟨by rw [HZ.out]; rfl, B2.out⟩
      rw [if_neg h4] at hZ
      have q4 : (kn == 4) = false := by rw [beq_eq_false_iff_ne]; exact h4
      have HZ := Lib.hid hZ
      clear hZ h2 h4
      go_enter Tryd.func13, Tryd.ntmps13
      go_wp2_with (first
        | (go_at_call 25; (with_reducible refine HA.out.mono ?_); rintro e w1 ⟨rfl, hw⟩; have hw := hw.symm; subst hw)
        | (go_at_call 26; (with_reducible refine HS.out.mono ?_); rintro e w2 ⟨rfl, b2⟩; have B2 := Lib.hid b2; have c0 := HCn.out _ b2; clear b2))
      go_ret
      exact ⟨by rw [HZ.out]; rfl, B2.out⟩
    | some s =>
      rw [hs] at HS hZ
      have HS : Hid (Calls Tryd.prog 26 #[.slice (some ⟨b, off, none⟩) l.length cap, .int .i64 (n : Int)] w fun e w' => e = .returned (.int .i64 (s : Int)) ∧ Below w.heap.size w w') := HS
      have hZ : srcsR l n = (if twiceR l (l[n]).ki s n = true then nmR 9 else ⟨#[]⟩) := hZ
      have HY : Hid (twiceR l (l[n]).ki s n = true → srcsR l n = nmR 9) := fun e => by rw [hZ, if_pos e]
      have HN : Hid (twiceR l (l[n]).ki s n = false → srcsR l n = ⟨#[]⟩) := fun e => by rw [hZ, if_neg (by rw [e]; decide)]
      have qs : decide ((s : Int) < 0) = false := decide_eq_false (by omega)
      clear hZ ha hs c0
      go_enter Tryd.func13, Tryd.ntmps13
      go_wp2_with (first
        | (go_at_call 25; (with_reducible refine HA.out.mono ?_); rintro e w1 ⟨rfl, hw⟩; have hw := hw.symm; subst hw)
        | (go_at_call 26; (with_reducible refine HS.out.mono ?_); rintro e w2 ⟨rfl, b2⟩; have B2 := Lib.hid b2; clear b2))
      clear HA HS
      go_loopw [6] (fun i wx => ∃ j : Nat, j ≤ n ∧ i = .int .i64 j ∧ Hid (twiceR l (l[n]).ki s j = false) ∧ Hid (Below w.heap.size w wx)) (fun i _ => n - (intOf i).toNat)
      case atStart => exact ⟨0, Nat.zero_le _, rfl, Lib.hid rfl, B2⟩
      case round =>
        obtain ⟨j, hj, rfl, HT, HBj⟩ := hrel
        clear B2
        by_cases hjn : j < n
        case neg =>
          have e : j = n := by omega
          subst e
          have HZ := Lib.hid (HN.out HT.out)
          clear HN HY HT HAs HSo HCe hjn
          have q9 : decide ((j : Int) < (j : Int)) = false := decide_eq_false (by omega)
          go_wp2_with fail
          go_ret
          exact ⟨by rw [HZ.out]; rfl, HBj.out⟩
        have hjl : j < l.length := by omega
        have hjl2 : (j : Int) < (l.length : Int) := by omega
        have q9 : decide ((j : Int) < (n : Int)) = true := decide_eq_true (by omega)
        have HTs : Hid ((((l[j]).ki == (l[n]).ki) && (askedR l j && decide (srcK l j = some s))) = false → twiceR l (l[n]).ki s (j + 1) = false) := fun e => by rw [twice_step hjl, HT.out, e]; rfl
        have HTh : Hid ((((l[j]).ki == (l[n]).ki) && (askedR l j && decide (srcK l j = some s))) = true → srcsR l n = nmR 9) := fun e => HY.out (twice_hit hjl hjn _ _ e)
        have HAj : Hid (∀ W, Below w.heap.size w W → Calls Tryd.prog 25 #[.slice (some ⟨b, off, none⟩) l.length cap, .int .i64 (j : Int)] W fun e w' => e = .returned (.bool (askedR l j)) ∧ w' = W) := fun W hb => HAs.out W j hjl hb
        have HSj : Hid (∀ W, Below w.heap.size w W → Calls Tryd.prog 26 #[.slice (some ⟨b, off, none⟩) l.length cap, .int .i64 (j : Int)] W fun e w' => e = .returned (.int .i64 (match srcK l j with | some i => (i : Int) | none => -1)) ∧ Below W.heap.size W w') := fun W hb => HSo.out W j hjl hb
        have HCj : Hid (∀ W, Below w.heap.size w W → W.cell? ⟨b, off + j * 34, none⟩ = some (.int .i64 (l[j]).ki) ∧ W.cell? ⟨b, off + n * 34, none⟩ = some (.int .i64 (l[n]).ki)) := fun W hb => ⟨HCe.out W hb j hjl, HCe.out W hb n hn⟩
        have HQ : Hid (((match srcK l j with | some i => (i : Int) | none => -1) == (s : Int)) = decide (srcK l j = some s)) := src_beq _ _
        clear HAs HSo HCe HN HY HT
        generalize askedR l j = aj at *
        generalize decide (srcK l j = some s) = dj at *
        generalize (match srcK l j with | some i => (i : Int) | none => -1) = zj at *
        generalize (l[j]).ki = kj at *
        generalize (l[n]).ki = kn at *
        by_cases hk : kj = kn
        case neg =>
          have q5 : (kj == kn) = false := by rw [beq_eq_false_iff_ne]; exact hk
          have q5d : decide (kj = kn) = false := decide_eq_false hk
          have HF := Lib.hid (HTs.out (by rw [q5]; rfl))
          clear HTs HTh HAj HSj HQ hk
          go_upto_region 14 with fail
          obtain ⟨Sp, hSp⟩ : ∃ Sp : World → Prop, Hid (∀ w', Sp w' ↔ (Below w.heap.size w w' ∧ w'.cell? ⟨b, off + j * 34, none⟩ = some (.int .i64 kj) ∧ w'.cell? ⟨b, off + n * 34, none⟩ = some (.int .i64 kn))) := ⟨_, Lib.hid fun _ => Iff.rfl⟩
          refine wp_region_held_gen Sp (by kernel_rfl) ((hSp.out _).2 ⟨HBj.out.drew, HCj.out _ HBj.out.drew⟩) ?_
          have hHeld : Sp _ := (hSp.out (World.drew _)).2 ⟨HBj.out.drew, HCj.out _ HBj.out.drew⟩
          intro O hO
          refine held_read hO (i := 0) rfl rfl (by kernel_rfl) (fun _ _ _ _ h => h) ?_ hHeld ?_ ?_
          rotate_left 1
          · (intro w hSw; have hSw := (hSp.out _).1 hSw; go_simp; (try with_reducible rfl))
          try simp only [Act.put, List.setIfInBounds_toArray, List.set_cons_zero, List.set_cons_succ]
          refine held_read hO (i := 1) rfl rfl (by kernel_rfl) (fun _ _ _ _ h => h) ?_ hHeld ?_ ?_
          rotate_left 1
          · (intro w hSw; have hSw := (hSp.out _).1 hSw; go_simp; (try with_reducible rfl))
          try simp only [Act.put, List.setIfInBounds_toArray, List.set_cons_zero, List.set_cons_succ]
          refine held_read hO (i := 2) rfl rfl (by kernel_rfl) (fun _ _ _ _ h => h) ?_ hHeld ?_ ?_
          rotate_left 1
          · (intro w hSw; have hSw := (hSp.out _).1 hSw; go_simp; (try with_reducible rfl))
          try simp only [Act.put, List.setIfInBounds_toArray, List.set_cons_zero, List.set_cons_succ]
          refine held_read hO (i := 3) rfl rfl (by kernel_rfl) (fun _ _ _ _ h => h) ?_ hHeld ?_ ?_
          rotate_left 1
          · (intro w hSw; have hSw := (hSp.out _).1 hSw; go_simp; (try with_reducible rfl))
          try simp only [Act.put, List.setIfInBounds_toArray, List.set_cons_zero, List.set_cons_succ]
          refine held_read hO (i := 4) rfl rfl (by kernel_rfl) (fun _ _ _ _ h => h) ?_ hHeld ?_ ?_
          rotate_left 1
          · (intro w hSw; have hSw := (hSp.out _).1 hSw; go_simp; (try with_reducible rfl))
          try simp only [Act.put, List.setIfInBounds_toArray, List.set_cons_zero, List.set_cons_succ]
          refine held_read hO (i := 5) rfl rfl (by kernel_rfl) (fun _ _ _ _ h => h) ?_ hHeld ?_ ?_
          rotate_left 1
          · (intro w hSw; have hSw := (hSp.out _).1 hSw; go_simp; (try with_reducible rfl))
          try simp only [Act.put, List.setIfInBounds_toArray, List.set_cons_zero, List.set_cons_succ]
          refine held_read hO (i := 6) rfl rfl (by kernel_rfl) (fun _ _ _ _ h => h) ?_ hHeld ?_ ?_
          rotate_left 1
          · (intro w hSw; have hSw := (hSp.out _).1 hSw; go_simp; (try with_reducible rfl))
          try simp only [Act.put, List.setIfInBounds_toArray, List.set_cons_zero, List.set_cons_succ]
          refine held_read hO (i := 7) rfl rfl (by kernel_rfl) (fun _ _ _ _ h => h) ?_ hHeld ?_ ?_
          rotate_left 1
          · (intro w hSw; have hSw := (hSp.out _).1 hSw; go_simp; (try with_reducible rfl))
          try simp only [Act.put, List.setIfInBounds_toArray, List.set_cons_zero, List.set_cons_succ]
          refine held_read hO (i := 8) rfl rfl (by kernel_rfl) (fun _ _ _ _ h => h) ?_ hHeld ?_ ?_
          rotate_left 1
          · (intro w hSw; have hSw := (hSp.out _).1 hSw; go_simp; (try with_reducible rfl))
          try simp only [Act.put, List.setIfInBounds_toArray, List.set_cons_zero, List.set_cons_succ]
          refine held_read hO (i := 9) rfl rfl (by kernel_rfl) (fun _ _ _ _ h => h) ?_ hHeld ?_ ?_
          rotate_left 1
          · (intro w hSw; have hSw := (hSp.out _).1 hSw; go_simp; (try with_reducible rfl))
          try simp only [Act.put, List.setIfInBounds_toArray, List.set_cons_zero, List.set_cons_succ]
          refine held_read hO (i := 10) rfl rfl (by kernel_rfl) (fun _ _ _ _ h => h) ?_ hHeld ?_ ?_
          rotate_left 1
          · (intro w hSw; have hSw := (hSp.out _).1 hSw; go_simp; (try with_reducible rfl))
          try simp only [Act.put, List.setIfInBounds_toArray, List.set_cons_zero, List.set_cons_succ]
          refine held_read hO (i := 11) rfl rfl (by kernel_rfl) (fun _ _ _ _ h => h) ?_ hHeld ?_ ?_
          rotate_left 1
          · (intro w hSw; have hSw := (hSp.out _).1 hSw; go_simp; (try with_reducible rfl))
          try simp only [Act.put, List.setIfInBounds_toArray, List.set_cons_zero, List.set_cons_succ]
          refine held_skip hO (i := 12) rfl (by kernel_rfl) (by kernel_rfl) (fun _ _ _ _ h => h) hHeld ?_
          try simp only [Act.put, List.setIfInBounds_toArray, List.set_cons_zero, List.set_cons_succ]
          refine held_skip hO (i := 13) rfl (by kernel_rfl) (by kernel_rfl) (fun _ _ _ _ h => h) hHeld ?_
          try simp only [Act.put, List.setIfInBounds_toArray, List.set_cons_zero, List.set_cons_succ]
          refine held_skip hO (i := 14) rfl (by kernel_rfl) (by kernel_rfl) (fun _ _ _ _ h => h) hHeld ?_
          try simp only [Act.put, List.setIfInBounds_toArray, List.set_cons_zero, List.set_cons_succ]
          refine held_read hO (i := 15) rfl rfl (by kernel_rfl) (fun _ _ _ _ h => h) ?_ hHeld ?_ ?_
          rotate_left 1
          · (intro w hSw; have hSw := (hSp.out _).1 hSw; go_simp; (try with_reducible rfl))
          try simp only [Act.put, List.setIfInBounds_toArray, List.set_cons_zero, List.set_cons_succ]
          refine held_read hO (i := 16) rfl rfl (by kernel_rfl) (fun _ _ _ _ h => h) ?_ hHeld ?_ ?_
          rotate_left 1
          · (intro w hSw; have hSw := (hSp.out _).1 hSw; go_simp; (try with_reducible rfl))
          try simp only [Act.put, List.setIfInBounds_toArray, List.set_cons_zero, List.set_cons_succ]
          refine held_skip hO (i := 17) rfl (by kernel_rfl) (by kernel_rfl) (fun _ _ _ _ h => h) hHeld ?_
          try simp only [Act.put, List.setIfInBounds_toArray, List.set_cons_zero, List.set_cons_succ]
          refine held_skip hO (i := 18) rfl (by kernel_rfl) (by kernel_rfl) (fun _ _ _ _ h => h) hHeld ?_
          try simp only [Act.put, List.setIfInBounds_toArray, List.set_cons_zero, List.set_cons_succ]
          refine held_skip hO (i := 19) rfl (by kernel_rfl) (by kernel_rfl) (fun _ _ _ _ h => h) hHeld ?_
          try simp only [Act.put, List.setIfInBounds_toArray, List.set_cons_zero, List.set_cons_succ]
          refine held_skip hO (i := 20) rfl (by kernel_rfl) (by kernel_rfl) (fun _ _ _ _ h => h) hHeld ?_
          try simp only [Act.put, List.setIfInBounds_toArray, List.set_cons_zero, List.set_cons_succ]
          refine held_skip hO (i := 21) rfl (by kernel_rfl) (by kernel_rfl) (fun _ _ _ _ h => h) hHeld ?_
          try simp only [Act.put, List.setIfInBounds_toArray, List.set_cons_zero, List.set_cons_succ]
          refine held_read hO (i := 22) rfl rfl (by kernel_rfl) (fun _ _ _ _ h => h) ?_ hHeld ?_ ?_
          rotate_left 1
          · (intro w hSw; have hSw := (hSp.out _).1 hSw; go_simp; (try with_reducible rfl))
          try simp only [Act.put, List.setIfInBounds_toArray, List.set_cons_zero, List.set_cons_succ]
          refine held_done hO (by kernel_rfl) ?_
          clear hO O
          go_wp2_with fail
          go_roundw
          case rel => exact ⟨j + 1, by omega, by go_num, HF, Lib.hid ((hSp.out _).1 hHeld).1⟩
          case measure => simp [intOf]; omega
        subst hk
        have q5 : (kj == kj) = true := beq_self_eq_true _
        cases aj with
        | false =>
          have HF := Lib.hid (HTs.out (by rw [q5]; rfl))
          clear HTs HTh HSj HQ
          go_upto_region 14 with fail
          obtain ⟨Sp, hSp⟩ : ∃ Sp : World → Prop, Hid (∀ w', Sp w' ↔ (Below w.heap.size w w' ∧ w'.cell? ⟨b, off + j * 34, none⟩ = some (.int .i64 kj) ∧ w'.cell? ⟨b, off + n * 34, none⟩ = some (.int .i64 kj))) := ⟨_, Lib.hid fun _ => Iff.rfl⟩
          refine wp_region_held_gen Sp (by kernel_rfl) ((hSp.out _).2 ⟨HBj.out.drew, HCj.out _ HBj.out.drew⟩) ?_
          have hHeld : Sp _ := (hSp.out (World.drew _)).2 ⟨HBj.out.drew, HCj.out _ HBj.out.drew⟩
          intro O hO
          refine held_read hO (i := 0) rfl rfl (by kernel_rfl) (fun _ _ _ _ h => h) ?_ hHeld ?_ ?_
          rotate_left 1
          · (intro w hSw; have hSw := (hSp.out _).1 hSw; go_simp; (try with_reducible rfl))
          try simp only [Act.put, List.setIfInBounds_toArray, List.set_cons_zero, List.set_cons_succ]
          refine held_read hO (i := 1) rfl rfl (by kernel_rfl) (fun _ _ _ _ h => h) ?_ hHeld ?_ ?_
          rotate_left 1
          · (intro w hSw; have hSw := (hSp.out _).1 hSw; go_simp; (try with_reducible rfl))
          try simp only [Act.put, List.setIfInBounds_toArray, List.set_cons_zero, List.set_cons_succ]
          refine held_read hO (i := 2) rfl rfl (by kernel_rfl) (fun _ _ _ _ h => h) ?_ hHeld ?_ ?_
          rotate_left 1
          · (intro w hSw; have hSw := (hSp.out _).1 hSw; go_simp; (try with_reducible rfl))
          try simp only [Act.put, List.setIfInBounds_toArray, List.set_cons_zero, List.set_cons_succ]
          refine held_read hO (i := 3) rfl rfl (by kernel_rfl) (fun _ _ _ _ h => h) ?_ hHeld ?_ ?_
          rotate_left 1
          · (intro w hSw; have hSw := (hSp.out _).1 hSw; go_simp; (try with_reducible rfl))
          try simp only [Act.put, List.setIfInBounds_toArray, List.set_cons_zero, List.set_cons_succ]
          refine held_read hO (i := 4) rfl rfl (by kernel_rfl) (fun _ _ _ _ h => h) ?_ hHeld ?_ ?_
          rotate_left 1
          · (intro w hSw; have hSw := (hSp.out _).1 hSw; go_simp; (try with_reducible rfl))
          try simp only [Act.put, List.setIfInBounds_toArray, List.set_cons_zero, List.set_cons_succ]
          refine held_read hO (i := 5) rfl rfl (by kernel_rfl) (fun _ _ _ _ h => h) ?_ hHeld ?_ ?_
          rotate_left 1
          · (intro w hSw; have hSw := (hSp.out _).1 hSw; go_simp; (try with_reducible rfl))
          try simp only [Act.put, List.setIfInBounds_toArray, List.set_cons_zero, List.set_cons_succ]
          refine held_read hO (i := 6) rfl rfl (by kernel_rfl) (fun _ _ _ _ h => h) ?_ hHeld ?_ ?_
          rotate_left 1
          · (intro w hSw; have hSw := (hSp.out _).1 hSw; go_simp; (try with_reducible rfl))
          try simp only [Act.put, List.setIfInBounds_toArray, List.set_cons_zero, List.set_cons_succ]
          refine held_read hO (i := 7) rfl rfl (by kernel_rfl) (fun _ _ _ _ h => h) ?_ hHeld ?_ ?_
          rotate_left 1
          · (intro w hSw; have hSw := (hSp.out _).1 hSw; go_simp; (try with_reducible rfl))
          try simp only [Act.put, List.setIfInBounds_toArray, List.set_cons_zero, List.set_cons_succ]
          refine held_read hO (i := 8) rfl rfl (by kernel_rfl) (fun _ _ _ _ h => h) ?_ hHeld ?_ ?_
          rotate_left 1
          · (intro w hSw; have hSw := (hSp.out _).1 hSw; go_simp; (try with_reducible rfl))
          try simp only [Act.put, List.setIfInBounds_toArray, List.set_cons_zero, List.set_cons_succ]
          refine held_read hO (i := 9) rfl rfl (by kernel_rfl) (fun _ _ _ _ h => h) ?_ hHeld ?_ ?_
          rotate_left 1
          · (intro w hSw; have hSw := (hSp.out _).1 hSw; go_simp; (try with_reducible rfl))
          try simp only [Act.put, List.setIfInBounds_toArray, List.set_cons_zero, List.set_cons_succ]
          refine held_read hO (i := 10) rfl rfl (by kernel_rfl) (fun _ _ _ _ h => h) ?_ hHeld ?_ ?_
          rotate_left 1
          · (intro w hSw; have hSw := (hSp.out _).1 hSw; go_simp; (try with_reducible rfl))
          try simp only [Act.put, List.setIfInBounds_toArray, List.set_cons_zero, List.set_cons_succ]
          refine held_read hO (i := 11) rfl rfl (by kernel_rfl) (fun _ _ _ _ h => h) ?_ hHeld ?_ ?_
          rotate_left 1
          · (intro w hSw; have hSw := (hSp.out _).1 hSw; go_simp; (try with_reducible rfl))
          try simp only [Act.put, List.setIfInBounds_toArray, List.set_cons_zero, List.set_cons_succ]
          refine held_take hO (i := 12) rfl (by kernel_rfl) (by kernel_rfl) (fun _ _ _ _ h => h) ?_ hHeld ?_ ?_
          rotate_left 1
          · (intro w hSw; have hSw := (hSp.out _).1 hSw; go_simp; (try with_reducible rfl))
          try simp only [Act.put, List.setIfInBounds_toArray, List.set_cons_zero, List.set_cons_succ]
          refine held_take hO (i := 13) rfl (by kernel_rfl) (by kernel_rfl) (fun _ _ _ _ h => h) ?_ hHeld ?_ ?_
          rotate_left 1
          · (intro w hSw; have hSw := (hSp.out _).1 hSw; go_simp; (try with_reducible rfl))
          try simp only [Act.put, List.setIfInBounds_toArray, List.set_cons_zero, List.set_cons_succ]
          refine held_stepg hO (i := 14) rfl (by kernel_rfl) (by kernel_rfl) (fun K hK => ?_)
          go_simp
          go_at_call 25
          with_reducible refine (HAj.out _ ((hSp.out _).1 hHeld).1).mono ?_
          rintro e w9 ⟨rfl, hw⟩
          subst hw
          go_wp2_with fail
          refine hK.out _ _ hHeld ?_
          clear hK K
          try simp only [Act.put, List.setIfInBounds_toArray, List.set_cons_zero, List.set_cons_succ]
          refine held_read hO (i := 15) rfl rfl (by kernel_rfl) (fun _ _ _ _ h => h) ?_ hHeld ?_ ?_
          rotate_left 1
          · (intro w hSw; have hSw := (hSp.out _).1 hSw; go_simp; (try with_reducible rfl))
          try simp only [Act.put, List.setIfInBounds_toArray, List.set_cons_zero, List.set_cons_succ]
          refine held_read hO (i := 16) rfl rfl (by kernel_rfl) (fun _ _ _ _ h => h) ?_ hHeld ?_ ?_
          rotate_left 1
          · (intro w hSw; have hSw := (hSp.out _).1 hSw; go_simp; (try with_reducible rfl))
          try simp only [Act.put, List.setIfInBounds_toArray, List.set_cons_zero, List.set_cons_succ]
          refine held_skip hO (i := 17) rfl (by kernel_rfl) (by kernel_rfl) (fun _ _ _ _ h => h) hHeld ?_
          try simp only [Act.put, List.setIfInBounds_toArray, List.set_cons_zero, List.set_cons_succ]
          refine held_skip hO (i := 18) rfl (by kernel_rfl) (by kernel_rfl) (fun _ _ _ _ h => h) hHeld ?_
          try simp only [Act.put, List.setIfInBounds_toArray, List.set_cons_zero, List.set_cons_succ]
          refine held_skip hO (i := 19) rfl (by kernel_rfl) (by kernel_rfl) (fun _ _ _ _ h => h) hHeld ?_
          try simp only [Act.put, List.setIfInBounds_toArray, List.set_cons_zero, List.set_cons_succ]
          refine held_skip hO (i := 20) rfl (by kernel_rfl) (by kernel_rfl) (fun _ _ _ _ h => h) hHeld ?_
          try simp only [Act.put, List.setIfInBounds_toArray, List.set_cons_zero, List.set_cons_succ]
          refine held_skip hO (i := 21) rfl (by kernel_rfl) (by kernel_rfl) (fun _ _ _ _ h => h) hHeld ?_
          try simp only [Act.put, List.setIfInBounds_toArray, List.set_cons_zero, List.set_cons_succ]
          refine held_read hO (i := 22) rfl rfl (by kernel_rfl) (fun _ _ _ _ h => h) ?_ hHeld ?_ ?_
          rotate_left 1
          · (intro w hSw; have hSw := (hSp.out _).1 hSw; go_simp; (try with_reducible rfl))
          try simp only [Act.put, List.setIfInBounds_toArray, List.set_cons_zero, List.set_cons_succ]
          refine held_done hO (by kernel_rfl) ?_
          clear hO O
          go_wp2_with fail
          go_roundw
          case rel => exact ⟨j + 1, by omega, by go_num, HF, Lib.hid ((hSp.out _).1 hHeld).1⟩
          case measure => simp [intOf]; omega
        | true =>
          cases dj with
          | false =>
            have HF := Lib.hid (HTs.out (by rw [q5]; rfl))
            have q6 := HQ.out
            have q6d : decide (zj = (s : Int)) = false := q6
            clear HTs HTh HQ
            go_upto_region 14 with fail
            obtain ⟨Sp, hSp⟩ : ∃ Sp : World → Prop, Hid (∀ w', Sp w' ↔ (Below w.heap.size w w' ∧ w'.cell? ⟨b, off + j * 34, none⟩ = some (.int .i64 kj) ∧ w'.cell? ⟨b, off + n * 34, none⟩ = some (.int .i64 kj))) := ⟨_, Lib.hid fun _ => Iff.rfl⟩
            refine wp_region_held_gen Sp (by kernel_rfl) ((hSp.out _).2 ⟨HBj.out.drew, HCj.out _ HBj.out.drew⟩) ?_
            have hHeld : Sp _ := (hSp.out (World.drew _)).2 ⟨HBj.out.drew, HCj.out _ HBj.out.drew⟩
            intro O hO
            refine held_read hO (i := 0) rfl rfl (by kernel_rfl) (fun _ _ _ _ h => h) ?_ hHeld ?_ ?_
            rotate_left 1
            · (intro w hSw; have hSw := (hSp.out _).1 hSw; go_simp; (try with_reducible rfl))
            try simp only [Act.put, List.setIfInBounds_toArray, List.set_cons_zero, List.set_cons_succ]
            refine held_read hO (i := 1) rfl rfl (by kernel_rfl) (fun _ _ _ _ h => h) ?_ hHeld ?_ ?_
            rotate_left 1
            · (intro w hSw; have hSw := (hSp.out _).1 hSw; go_simp; (try with_reducible rfl))
            try simp only [Act.put, List.setIfInBounds_toArray, List.set_cons_zero, List.set_cons_succ]
            refine held_read hO (i := 2) rfl rfl (by kernel_rfl) (fun _ _ _ _ h => h) ?_ hHeld ?_ ?_
            rotate_left 1
            · (intro w hSw; have hSw := (hSp.out _).1 hSw; go_simp; (try with_reducible rfl))
            try simp only [Act.put, List.setIfInBounds_toArray, List.set_cons_zero, List.set_cons_succ]
            refine held_read hO (i := 3) rfl rfl (by kernel_rfl) (fun _ _ _ _ h => h) ?_ hHeld ?_ ?_
            rotate_left 1
            · (intro w hSw; have hSw := (hSp.out _).1 hSw; go_simp; (try with_reducible rfl))
            try simp only [Act.put, List.setIfInBounds_toArray, List.set_cons_zero, List.set_cons_succ]
            refine held_read hO (i := 4) rfl rfl (by kernel_rfl) (fun _ _ _ _ h => h) ?_ hHeld ?_ ?_
            rotate_left 1
            · (intro w hSw; have hSw := (hSp.out _).1 hSw; go_simp; (try with_reducible rfl))
            try simp only [Act.put, List.setIfInBounds_toArray, List.set_cons_zero, List.set_cons_succ]
            refine held_read hO (i := 5) rfl rfl (by kernel_rfl) (fun _ _ _ _ h => h) ?_ hHeld ?_ ?_
            rotate_left 1
            · (intro w hSw; have hSw := (hSp.out _).1 hSw; go_simp; (try with_reducible rfl))
            try simp only [Act.put, List.setIfInBounds_toArray, List.set_cons_zero, List.set_cons_succ]
            refine held_read hO (i := 6) rfl rfl (by kernel_rfl) (fun _ _ _ _ h => h) ?_ hHeld ?_ ?_
            rotate_left 1
            · (intro w hSw; have hSw := (hSp.out _).1 hSw; go_simp; (try with_reducible rfl))
            try simp only [Act.put, List.setIfInBounds_toArray, List.set_cons_zero, List.set_cons_succ]
            refine held_read hO (i := 7) rfl rfl (by kernel_rfl) (fun _ _ _ _ h => h) ?_ hHeld ?_ ?_
            rotate_left 1
            · (intro w hSw; have hSw := (hSp.out _).1 hSw; go_simp; (try with_reducible rfl))
            try simp only [Act.put, List.setIfInBounds_toArray, List.set_cons_zero, List.set_cons_succ]
            refine held_read hO (i := 8) rfl rfl (by kernel_rfl) (fun _ _ _ _ h => h) ?_ hHeld ?_ ?_
            rotate_left 1
            · (intro w hSw; have hSw := (hSp.out _).1 hSw; go_simp; (try with_reducible rfl))
            try simp only [Act.put, List.setIfInBounds_toArray, List.set_cons_zero, List.set_cons_succ]
            refine held_read hO (i := 9) rfl rfl (by kernel_rfl) (fun _ _ _ _ h => h) ?_ hHeld ?_ ?_
            rotate_left 1
            · (intro w hSw; have hSw := (hSp.out _).1 hSw; go_simp; (try with_reducible rfl))
            try simp only [Act.put, List.setIfInBounds_toArray, List.set_cons_zero, List.set_cons_succ]
            refine held_read hO (i := 10) rfl rfl (by kernel_rfl) (fun _ _ _ _ h => h) ?_ hHeld ?_ ?_
            rotate_left 1
            · (intro w hSw; have hSw := (hSp.out _).1 hSw; go_simp; (try with_reducible rfl))
            try simp only [Act.put, List.setIfInBounds_toArray, List.set_cons_zero, List.set_cons_succ]
            refine held_read hO (i := 11) rfl rfl (by kernel_rfl) (fun _ _ _ _ h => h) ?_ hHeld ?_ ?_
            rotate_left 1
            · (intro w hSw; have hSw := (hSp.out _).1 hSw; go_simp; (try with_reducible rfl))
            try simp only [Act.put, List.setIfInBounds_toArray, List.set_cons_zero, List.set_cons_succ]
            refine held_take hO (i := 12) rfl (by kernel_rfl) (by kernel_rfl) (fun _ _ _ _ h => h) ?_ hHeld ?_ ?_
            rotate_left 1
            · (intro w hSw; have hSw := (hSp.out _).1 hSw; go_simp; (try with_reducible rfl))
            try simp only [Act.put, List.setIfInBounds_toArray, List.set_cons_zero, List.set_cons_succ]
            refine held_take hO (i := 13) rfl (by kernel_rfl) (by kernel_rfl) (fun _ _ _ _ h => h) ?_ hHeld ?_ ?_
            rotate_left 1
            · (intro w hSw; have hSw := (hSp.out _).1 hSw; go_simp; (try with_reducible rfl))
            try simp only [Act.put, List.setIfInBounds_toArray, List.set_cons_zero, List.set_cons_succ]
            refine held_stepg hO (i := 14) rfl (by kernel_rfl) (by kernel_rfl) (fun K hK => ?_)
            go_simp
            go_at_call 25
            with_reducible refine (HAj.out _ ((hSp.out _).1 hHeld).1).mono ?_
            rintro e w9 ⟨rfl, hw⟩
            subst hw
            go_wp2_with fail
            refine hK.out _ _ hHeld ?_
            clear hK K
            try simp only [Act.put, List.setIfInBounds_toArray, List.set_cons_zero, List.set_cons_succ]
            refine held_read hO (i := 15) rfl rfl (by kernel_rfl) (fun _ _ _ _ h => h) ?_ hHeld ?_ ?_
            rotate_left 1
            · (intro w hSw; have hSw := (hSp.out _).1 hSw; go_simp; (try with_reducible rfl))
            try simp only [Act.put, List.setIfInBounds_toArray, List.set_cons_zero, List.set_cons_succ]
            refine held_read hO (i := 16) rfl rfl (by kernel_rfl) (fun _ _ _ _ h => h) ?_ hHeld ?_ ?_
            rotate_left 1
            · (intro w hSw; have hSw := (hSp.out _).1 hSw; go_simp; (try with_reducible rfl))
            try simp only [Act.put, List.setIfInBounds_toArray, List.set_cons_zero, List.set_cons_succ]
            refine held_take hO (i := 17) rfl (by kernel_rfl) (by kernel_rfl) (fun _ _ _ _ h => h) ?_ hHeld ?_ ?_
            rotate_left 1
            · (intro w hSw; have hSw := (hSp.out _).1 hSw; go_simp; (try with_reducible rfl))
            try simp only [Act.put, List.setIfInBounds_toArray, List.set_cons_zero, List.set_cons_succ]
            refine held_take hO (i := 18) rfl (by kernel_rfl) (by kernel_rfl) (fun _ _ _ _ h => h) ?_ hHeld ?_ ?_
            rotate_left 1
            · (intro w hSw; have hSw := (hSp.out _).1 hSw; go_simp; (try with_reducible rfl))
            try simp only [Act.put, List.setIfInBounds_toArray, List.set_cons_zero, List.set_cons_succ]
            refine held_take hO (i := 20) rfl (by kernel_rfl) (by kernel_rfl) (fun _ _ _ _ h => h) ?_ hHeld ?_ ?_
            rotate_left 1
            · (intro w hSw; have hSw := (hSp.out _).1 hSw; go_simp; (try with_reducible rfl))
            try simp only [Act.put, List.setIfInBounds_toArray, List.set_cons_zero, List.set_cons_succ]
            refine held_stepg hO (i := 19) rfl (by kernel_rfl) (by kernel_rfl) (fun K hK => ?_)
            go_simp
            go_at_call 26
            have HBh := Lib.hid ((hSp.out _).1 hHeld).1
            with_reducible refine (HSj.out _ HBh.out).mono ?_
            rintro e w9 ⟨rfl, b9⟩
            have HB9 := Lib.hid (HBh.out.trans (b9.mono HBh.out.size))
            clear b9 HBh
            go_wp2_with fail
            clear hHeld
            have hHeld : Sp _ := (hSp.out _).2 ⟨HB9.out, HCj.out _ HB9.out⟩
            refine hK.out _ _ hHeld ?_
            clear hK K
            try simp only [Act.put, List.setIfInBounds_toArray, List.set_cons_zero, List.set_cons_succ]
            refine held_take hO (i := 21) rfl (by kernel_rfl) (by kernel_rfl) (fun _ _ _ _ h => h) ?_ hHeld ?_ ?_
            rotate_left 1
            · (intro w hSw; have hSw := (hSp.out _).1 hSw; go_simp; (try with_reducible rfl))
            try simp only [Act.put, List.setIfInBounds_toArray, List.set_cons_zero, List.set_cons_succ]
            refine held_read hO (i := 22) rfl rfl (by kernel_rfl) (fun _ _ _ _ h => h) ?_ hHeld ?_ ?_
            rotate_left 1
            · (intro w hSw; have hSw := (hSp.out _).1 hSw; go_simp; (try with_reducible rfl))
            try simp only [Act.put, List.setIfInBounds_toArray, List.set_cons_zero, List.set_cons_succ]
            refine held_done hO (by kernel_rfl) ?_
            clear hO O
            go_wp2_with fail
            go_roundw
            case rel => exact ⟨j + 1, by omega, by go_num, HF, Lib.hid ((hSp.out _).1 hHeld).1⟩
            case measure => simp [intOf]; omega
          | true =>
            have HF := Lib.hid (HTh.out (by rw [q5]; rfl))
            have q6 := HQ.out
            have q6d : decide (zj = (s : Int)) = true := q6
            clear HTs HTh HQ
            go_upto_region 14 with fail
            obtain ⟨Sp, hSp⟩ : ∃ Sp : World → Prop, Hid (∀ w', Sp w' ↔ (Below w.heap.size w w' ∧ w'.cell? ⟨b, off + j * 34, none⟩ = some (.int .i64 kj) ∧ w'.cell? ⟨b, off + n * 34, none⟩ = some (.int .i64 kj))) := ⟨_, Lib.hid fun _ => Iff.rfl⟩
            refine wp_region_held_gen Sp (by kernel_rfl) ((hSp.out _).2 ⟨HBj.out.drew, HCj.out _ HBj.out.drew⟩) ?_
            have hHeld : Sp _ := (hSp.out (World.drew _)).2 ⟨HBj.out.drew, HCj.out _ HBj.out.drew⟩
            intro O hO
            refine held_read hO (i := 0) rfl rfl (by kernel_rfl) (fun _ _ _ _ h => h) ?_ hHeld ?_ ?_
            rotate_left 1
            · (intro w hSw; have hSw := (hSp.out _).1 hSw; go_simp; (try with_reducible rfl))
            try simp only [Act.put, List.setIfInBounds_toArray, List.set_cons_zero, List.set_cons_succ]
            refine held_read hO (i := 1) rfl rfl (by kernel_rfl) (fun _ _ _ _ h => h) ?_ hHeld ?_ ?_
            rotate_left 1
            · (intro w hSw; have hSw := (hSp.out _).1 hSw; go_simp; (try with_reducible rfl))
            try simp only [Act.put, List.setIfInBounds_toArray, List.set_cons_zero, List.set_cons_succ]
            refine held_read hO (i := 2) rfl rfl (by kernel_rfl) (fun _ _ _ _ h => h) ?_ hHeld ?_ ?_
            rotate_left 1
            · (intro w hSw; have hSw := (hSp.out _).1 hSw; go_simp; (try with_reducible rfl))
            try simp only [Act.put, List.setIfInBounds_toArray, List.set_cons_zero, List.set_cons_succ]
            refine held_read hO (i := 3) rfl rfl (by kernel_rfl) (fun _ _ _ _ h => h) ?_ hHeld ?_ ?_
            rotate_left 1
            · (intro w hSw; have hSw := (hSp.out _).1 hSw; go_simp; (try with_reducible rfl))
            try simp only [Act.put, List.setIfInBounds_toArray, List.set_cons_zero, List.set_cons_succ]
            refine held_read hO (i := 4) rfl rfl (by kernel_rfl) (fun _ _ _ _ h => h) ?_ hHeld ?_ ?_
            rotate_left 1
            · (intro w hSw; have hSw := (hSp.out _).1 hSw; go_simp; (try with_reducible rfl))
            try simp only [Act.put, List.setIfInBounds_toArray, List.set_cons_zero, List.set_cons_succ]
            refine held_read hO (i := 5) rfl rfl (by kernel_rfl) (fun _ _ _ _ h => h) ?_ hHeld ?_ ?_
            rotate_left 1
            · (intro w hSw; have hSw := (hSp.out _).1 hSw; go_simp; (try with_reducible rfl))
            try simp only [Act.put, List.setIfInBounds_toArray, List.set_cons_zero, List.set_cons_succ]
            refine held_read hO (i := 6) rfl rfl (by kernel_rfl) (fun _ _ _ _ h => h) ?_ hHeld ?_ ?_
            rotate_left 1
            · (intro w hSw; have hSw := (hSp.out _).1 hSw; go_simp; (try with_reducible rfl))
            try simp only [Act.put, List.setIfInBounds_toArray, List.set_cons_zero, List.set_cons_succ]
            refine held_read hO (i := 7) rfl rfl (by kernel_rfl) (fun _ _ _ _ h => h) ?_ hHeld ?_ ?_
            rotate_left 1
            · (intro w hSw; have hSw := (hSp.out _).1 hSw; go_simp; (try with_reducible rfl))
            try simp only [Act.put, List.setIfInBounds_toArray, List.set_cons_zero, List.set_cons_succ]
            refine held_read hO (i := 8) rfl rfl (by kernel_rfl) (fun _ _ _ _ h => h) ?_ hHeld ?_ ?_
            rotate_left 1
            · (intro w hSw; have hSw := (hSp.out _).1 hSw; go_simp; (try with_reducible rfl))
            try simp only [Act.put, List.setIfInBounds_toArray, List.set_cons_zero, List.set_cons_succ]
            refine held_read hO (i := 9) rfl rfl (by kernel_rfl) (fun _ _ _ _ h => h) ?_ hHeld ?_ ?_
            rotate_left 1
            · (intro w hSw; have hSw := (hSp.out _).1 hSw; go_simp; (try with_reducible rfl))
            try simp only [Act.put, List.setIfInBounds_toArray, List.set_cons_zero, List.set_cons_succ]
            refine held_read hO (i := 10) rfl rfl (by kernel_rfl) (fun _ _ _ _ h => h) ?_ hHeld ?_ ?_
            rotate_left 1
            · (intro w hSw; have hSw := (hSp.out _).1 hSw; go_simp; (try with_reducible rfl))
            try simp only [Act.put, List.setIfInBounds_toArray, List.set_cons_zero, List.set_cons_succ]
            refine held_read hO (i := 11) rfl rfl (by kernel_rfl) (fun _ _ _ _ h => h) ?_ hHeld ?_ ?_
            rotate_left 1
            · (intro w hSw; have hSw := (hSp.out _).1 hSw; go_simp; (try with_reducible rfl))
            try simp only [Act.put, List.setIfInBounds_toArray, List.set_cons_zero, List.set_cons_succ]
            refine held_take hO (i := 12) rfl (by kernel_rfl) (by kernel_rfl) (fun _ _ _ _ h => h) ?_ hHeld ?_ ?_
            rotate_left 1
            · (intro w hSw; have hSw := (hSp.out _).1 hSw; go_simp; (try with_reducible rfl))
            try simp only [Act.put, List.setIfInBounds_toArray, List.set_cons_zero, List.set_cons_succ]
            refine held_take hO (i := 13) rfl (by kernel_rfl) (by kernel_rfl) (fun _ _ _ _ h => h) ?_ hHeld ?_ ?_
            rotate_left 1
            · (intro w hSw; have hSw := (hSp.out _).1 hSw; go_simp; (try with_reducible rfl))
            try simp only [Act.put, List.setIfInBounds_toArray, List.set_cons_zero, List.set_cons_succ]
            refine held_stepg hO (i := 14) rfl (by kernel_rfl) (by kernel_rfl) (fun K hK => ?_)
            go_simp
            go_at_call 25
            with_reducible refine (HAj.out _ ((hSp.out _).1 hHeld).1).mono ?_
            rintro e w9 ⟨rfl, hw⟩
            subst hw
            go_wp2_with fail
            refine hK.out _ _ hHeld ?_
            clear hK K
            try simp only [Act.put, List.setIfInBounds_toArray, List.set_cons_zero, List.set_cons_succ]
            refine held_read hO (i := 15) rfl rfl (by kernel_rfl) (fun _ _ _ _ h => h) ?_ hHeld ?_ ?_
            rotate_left 1
            · (intro w hSw; have hSw := (hSp.out _).1 hSw; go_simp; (try with_reducible rfl))
            try simp only [Act.put, List.setIfInBounds_toArray, List.set_cons_zero, List.set_cons_succ]
            refine held_read hO (i := 16) rfl rfl (by kernel_rfl) (fun _ _ _ _ h => h) ?_ hHeld ?_ ?_
            rotate_left 1
            · (intro w hSw; have hSw := (hSp.out _).1 hSw; go_simp; (try with_reducible rfl))
            try simp only [Act.put, List.setIfInBounds_toArray, List.set_cons_zero, List.set_cons_succ]
            refine held_take hO (i := 17) rfl (by kernel_rfl) (by kernel_rfl) (fun _ _ _ _ h => h) ?_ hHeld ?_ ?_
            rotate_left 1
            · (intro w hSw; have hSw := (hSp.out _).1 hSw; go_simp; (try with_reducible rfl))
            try simp only [Act.put, List.setIfInBounds_toArray, List.set_cons_zero, List.set_cons_succ]
            refine held_take hO (i := 18) rfl (by kernel_rfl) (by kernel_rfl) (fun _ _ _ _ h => h) ?_ hHeld ?_ ?_
            rotate_left 1
            · (intro w hSw; have hSw := (hSp.out _).1 hSw; go_simp; (try with_reducible rfl))
            try simp only [Act.put, List.setIfInBounds_toArray, List.set_cons_zero, List.set_cons_succ]
            refine held_take hO (i := 20) rfl (by kernel_rfl) (by kernel_rfl) (fun _ _ _ _ h => h) ?_ hHeld ?_ ?_
            rotate_left 1
            · (intro w hSw; have hSw := (hSp.out _).1 hSw; go_simp; (try with_reducible rfl))
            try simp only [Act.put, List.setIfInBounds_toArray, List.set_cons_zero, List.set_cons_succ]
            refine held_stepg hO (i := 19) rfl (by kernel_rfl) (by kernel_rfl) (fun K hK => ?_)
            go_simp
            go_at_call 26
            have HBh := Lib.hid ((hSp.out _).1 hHeld).1
            with_reducible refine (HSj.out _ HBh.out).mono ?_
            rintro e w9 ⟨rfl, b9⟩
            have HB9 := Lib.hid (HBh.out.trans (b9.mono HBh.out.size))
            clear b9 HBh
            go_wp2_with fail
            clear hHeld
            have hHeld : Sp _ := (hSp.out _).2 ⟨HB9.out, HCj.out _ HB9.out⟩
            refine hK.out _ _ hHeld ?_
            clear hK K
            try simp only [Act.put, List.setIfInBounds_toArray, List.set_cons_zero, List.set_cons_succ]
            refine held_take hO (i := 21) rfl (by kernel_rfl) (by kernel_rfl) (fun _ _ _ _ h => h) ?_ hHeld ?_ ?_
            rotate_left 1
            · (intro w hSw; have hSw := (hSp.out _).1 hSw; go_simp; (try with_reducible rfl))
            try simp only [Act.put, List.setIfInBounds_toArray, List.set_cons_zero, List.set_cons_succ]
            refine held_read hO (i := 22) rfl rfl (by kernel_rfl) (fun _ _ _ _ h => h) ?_ hHeld ?_ ?_
            rotate_left 1
            · (intro w hSw; have hSw := (hSp.out _).1 hSw; go_simp; (try with_reducible rfl))
            try simp only [Act.put, List.setIfInBounds_toArray, List.set_cons_zero, List.set_cons_succ]
            refine held_done hO (by kernel_rfl) ?_
            clear hO O
            go_wp2_with fail
            go_ret
            exact ⟨by rw [HF.out]; rfl, ((hSp.out _).1 hHeld).1⟩
end Go.Proofs.YtpkkeeblgbdfdaaDoor
