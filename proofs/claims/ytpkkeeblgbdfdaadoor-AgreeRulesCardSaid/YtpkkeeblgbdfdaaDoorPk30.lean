/- Part 30 of what the statement wants. -/
import Derived.Deep.DeepCutAuto
import Derived.IntWalk
import Derived.Test.YtpkkeeblgbdfdaaDoorPk02
import Derived.Test.YtpkkeeblgbdfdaaDoorPk10
import Derived.Test.YtpkkeeblgbdfdaaDoorPk29
namespace Go.Proofs.YtpkkeeblgbdfdaaDoor
open Go.RowKit

theorem find_idx (p : EvV → Bool) : ∀ m : List EvV, (m.findIdx? p = none ∧ m.find? p = none) ∨ ∃ i y, m.findIdx? p = some i ∧ m[i]? = some y ∧ m.find? p = some y
  | [] => .inl ⟨rfl, rfl⟩
  | x :: m => by
    cases h : p x with
    | true => exact .inr ⟨0, x, by simp [List.findIdx?_cons, h], rfl, by simp [h]⟩
    | false =>
      rcases find_idx p m with ⟨h1, h2⟩ | ⟨i, y, h1, h2, h3⟩
      · exact .inl ⟨by simp [List.findIdx?_cons, h, h1], by simp [h, h2]⟩
      · exact .inr ⟨i + 1, y, by simp [List.findIdx?_cons, h, h1], by simpa using h2, by simp [h, h3]⟩
set_option maxHeartbeats 16000000 in
set_option maxRecDepth 100000 in
theorem r32Rule_any {w : World} {v : Value} {l : List EvV} (h : EventsAt w v l) (hl : l.length ≤ 1000) {n : Nat} (hn : n < l.length) :
    Calls Tryd.prog 5 #[v, .int .i64 (n : Int)] w fun e w' => e = .returned (.string (ruleR l n)) ∧ Below w.heap.size w w' := by
  have HCt : Hid (∀ W kd se, Below w.heap.size w W → Calls Tryd.prog 10 #[v, .int .i64 kd, .int .i64 se, .int .i64 (n : Int)] W fun e w' => e = .returned (.int .i64 ((cntR l kd se n : Nat) : Int)) ∧ w' = W) := fun W kd se hb => r32count_any (h.below hb) hl kd se (by omega)
  have HAh : Hid (∀ W who, Below w.heap.size w W → Calls Tryd.prog 11 #[v, .int .i64 who, .int .i64 (n : Int)] W fun e w' => e = .returned (.bool (aheadB l who (n : Int))) ∧ w' = W) := fun W who hb => ahead_any (h.below hb) (by unfold maxLen; omega) who n
  have HFi : Hid (∀ W se, Below w.heap.size w W → Calls Tryd.prog 12 #[v, .int .i64 se, .int .i64 (n : Int)] W fun e w' => e = .returned (.int .i64 (idxP (exchP se) (l.take n))) ∧ w' = W) := fun W se hb => r32first_any (h.below hb) hl se (by omega)
  have HSs : Hid (∀ W, Below w.heap.size w W → Calls Tryd.prog 13 #[v, .int .i64 (n : Int)] W fun e w' => e = .returned (.string (srcsR l n)) ∧ Below W.heap.size W w') := fun W hb => r32sources_any (h.below hb) hl hn
  obtain ⟨ao, cap, rfl, hc⟩ := h
  obtain ⟨b, off, hao, hb0, hcell⟩ := hc (by intro h; simp [h] at hn)
  subst hao
  have HLn : Hid (∀ j u, (l[n]).row[j]? = some u → w.cell? ((⟨b, off + n * 34, none⟩ : Addr).add j) = some u) := fun j u hj => by
    rw [Addr.add_lit]
    exact hcell n _ (List.getElem?_eq_getElem hn) j u hj
  have HS5 : Hid ((l[n]).row.size = 34 ∧ (l[n]).row.all (·.oneCell') = true) := ⟨rfl, EvV.row_one _⟩
  have HX : Hid ((l[n]).row[0]? = some (.int .i64 (l[n]).ki) ∧ (l[n]).row[1]? = some (.int .i64 (l[n]).se) ∧ (l[n]).row[2]? = some (.int .i64 (l[n]).nu) ∧ (l[n]).row[3]? = some (.int .i64 (l[n]).wh) ∧ (l[n]).row[7]? = some (.int .i64 (l[n]).sid) ∧ (l[n]).row[30]? = some (.int .i64 (l[n]).dn.kh) ∧ (l[n]).row[31]? = some (.int .i64 (l[n]).dn.ks)) := ⟨rfl, rfl, rfl, rfl, rfl, rfl, rfl⟩
  have HFd : Hid ((idxP (exchP (l[n]).se) (l.take n) = -1 ∧ (l.take n).find? (exchP (l[n]).se) = none) ∨ ∃ (i : Nat) (y : EvV), idxP (exchP (l[n]).se) (l.take n) = (i : Int) ∧ i < l.length ∧ (l.take n).find? (exchP (l[n]).se) = some y ∧ ∀ W, Below w.heap.size w W → W.cell? ⟨b, off + i * 34 + 31, none⟩ = some (.int .i64 y.dn.ks)) := by
    rcases find_idx (exchP (l[n]).se) (l.take n) with ⟨h1, h2⟩ | ⟨i, y, h1, h2, h3⟩
    · exact .inl ⟨by unfold idxP; rw [h1], h2⟩
    · have hi : i < n := by
        rcases Nat.lt_or_ge i (l.take n).length with h4 | h4
        · rw [List.length_take] at h4; omega
        · rw [List.getElem?_eq_none h4] at h2; cases h2
      rw [List.getElem?_take, if_pos hi] at h2
      refine .inr ⟨i, y, by unfold idxP; rw [h1], by omega, h3, fun W hw => ?_⟩
      exact (hw.cell (p := ⟨b, off + i * 34 + 31, none⟩) hb0).trans (hcell i y h2 31 _ rfl)
  have HR : Hid (ruleR l n = (
    if (!((l[n]).ki == 7) && decide (0 < cntR l 6 (l[n]).se n)) = true then nmR 0
    else if (((l[n]).ki == 7) && aheadB l (l[n]).wh n) = true then nmR 1
    else if (exchK l[n] && !((l[n]).nu == ((cntR l 1 (l[n]).se n : Nat) : Int) + ((cntR l 2 (l[n]).se n : Nat) : Int))) = true then nmR 2
    else if (exchK l[n] && !((l[n]).dn.ks == wantR l l[n] n)) = true then nmR 3
    else if (loginK l[n] && !earlyR l l[n] n) = true then nmR 4
    else if ((((l[n]).ki == 4) || ((l[n]).ki == 5)) && decide (0 < cntR l (l[n]).ki (l[n]).se n)) = true then nmR 5
    else srcsR l n)) := by unfold ruleR; rw [List.getElem?_eq_getElem hn]; try rfl
  have hcl : ∀ kd, cntR l kd (l[n]).se n ≤ l.length := fun kd => cnt_le kd _ n
  have HWn : Hid (∀ y, (l.take n).find? (exchP (l[n]).se) = some y → wantR l l[n] n = y.dn.ks ∧ earlyR l l[n] n = (y.dn.ks == (l[n]).sid)) := fun y e => by unfold wantR earlyR; rw [e]; exact ⟨rfl, rfl⟩
  have HWo : Hid ((l.take n).find? (exchP (l[n]).se) = none → wantR l l[n] n = (l[n]).dn.kh ∧ earlyR l l[n] n = false) := fun e => by unfold wantR earlyR; rw [e]; exact ⟨rfl, rfl⟩
  clear hc hcell
  obtain ⟨rr, hrr⟩ : ∃ rr, Hid (rr = ruleR l n) := ⟨_, Lib.hid rfl⟩
  have HEx : Hid (exchK l[n] = (((l[n]).ki == 1) || ((l[n]).ki == 2))) := rfl
  have HLo : Hid (loginK l[n] = (((l[n]).ki == 3) || (((l[n]).ki == 4) || ((l[n]).ki == 5)))) := rfl
  have hc6 := hcl 6
  have hc1 := hcl 1
  have hc2 := hcl 2
  have hck := hcl (l[n]).ki
  clear hcl
  generalize srcsR l n = sr at *
  generalize wantR l l[n] n = wn at *
  generalize earlyR l l[n] n = er at *
  generalize exchK l[n] = exk at *
  generalize loginK l[n] = lok at *
  generalize hki : (l[n]).ki = ki at *
  have HKi := Lib.hid hki
  clear hki
  generalize (l[n]).se = se at *
  generalize (l[n]).nu = nu at *
  generalize (l[n]).wh = wh at *
  generalize (l[n]).sid = sid at *
  generalize (l[n]).dn.kh = kh at *
  generalize (l[n]).dn.ks = ks at *
  generalize (l[n]).row = R5 at *
  rw [← hrr.out] at HR ⊢
  clear hrr HKi
  have hnl : (n : Int) < (l.length : Int) := by omega
  go_enter Tryd.func5, Tryd.ntmps5
  go_upto_region 2 with (first
    | (refine wpList_load_cells rfl 45 _ rfl ⟨b, off + n * 34, none⟩ rfl R5 _ HLn.out Tryd.underlying45 rfl (by rw [HS5.out.1]; exact sizeEvent) ?_)
    | (refine wpList_store_new rfl 45 _ _ rfl w.heap.size _ R5 45 rfl rfl rfl (by rw [HS5.out.1]; exact sizeEvent) (by rw [HS5.out.1]; rfl) HS5.out.2 ?_))
  obtain ⟨E5, hE5⟩ : ∃ E5, Hid (E5 = w.heap.size) := ⟨_, Lib.hid rfl⟩
  have HO : Hid (Holds (w.alloc (.cells R5 45)) E5 45 R5) := by
    show Holds _ E5 _ _
    rw [hE5.out]; exact Holds.new w 45 R5
  have HB : Hid (Below w.heap.size w (w.alloc (.cells R5 45))) := Lib.hid ((Below.refl _ _).alloc (Nat.le_refl _) _)
  have HRd : Hid (∀ w', Holds w' E5 45 R5 → w'.cell? ⟨E5, 0, none⟩ = some (.int .i64 ki) ∧ w'.cell? ⟨E5, 1, none⟩ = some (.int .i64 se) ∧ w'.cell? ⟨E5, 2, none⟩ = some (.int .i64 nu) ∧ w'.cell? ⟨E5, 3, none⟩ = some (.int .i64 wh) ∧ w'.cell? ⟨E5, 7, none⟩ = some (.int .i64 sid) ∧ w'.cell? ⟨E5, 30, none⟩ = some (.int .i64 kh) ∧ w'.cell? ⟨E5, 31, none⟩ = some (.int .i64 ks)) := fun w' ho => ⟨(ho.cell 0).trans HX.out.1, (ho.cell 1).trans HX.out.2.1, (ho.cell 2).trans HX.out.2.2.1, (ho.cell 3).trans HX.out.2.2.2.1, (ho.cell 7).trans HX.out.2.2.2.2.1, (ho.cell 30).trans HX.out.2.2.2.2.2.1, (ho.cell 31).trans HX.out.2.2.2.2.2.2⟩
  rw [← hE5.out]
  clear hE5 HLn HS5 HX
  generalize w.alloc (.cells R5 45) = W5 at *
  simp only [Act.put]
  -- the end
  obtain ⟨c0, hc0⟩ : ∃ c0, (!(ki == 7) && decide (0 < cntR l 6 se n)) = c0 := ⟨_, rfl⟩
  have HC0 := Lib.hid hc0
  rw [hc0] at HR
  clear hc0
  go_cut [22] (fun u wx => u = .bool c0 ∧ Hid (Below w.heap.size w wx) ∧ Hid (Holds wx E5 45 R5))
  case first =>
    clear HR HAh HFi HSs HFd HWn HWo HEx HLo
    obtain ⟨g0, g1, _⟩ := HRd.out _ HO.out
    by_cases h7 : ki = 7
    · subst h7
      have HZ : Hid (c0 = false) := HC0.out.symm.trans rfl
      clear HC0
      go_wp2_with fail
      go_meet
      case rel => exact ⟨by rw [HZ.out], HB, HO⟩
    · have q7 : (ki != 7) = true := by rw [bne, beq_eq_false_iff_ne.2 h7]; rfl
      have HZ : Hid (c0 = decide (0 < cntR l 6 se n)) := HC0.out.symm.trans (by rw [beq_eq_false_iff_ne.2 h7]; rfl)
      clear HC0 h7
      go_wp2_with (first | (go_at_call 10; (with_reducible refine (HCt.out _ _ _ HB.out).mono ?_); rintro e w1 ⟨rfl, hw⟩; have hw := hw.symm; subst hw))
      go_meet
      case rel => exact ⟨by rw [HZ.out], HB, HO⟩
  case rest =>
  obtain ⟨rfl, HB1, HO1⟩ := hcut
  clear HB HO HC0
  generalize wc = wA at *
  cases c0 with
  | true =>
    have HZ : Hid (rr = nmR 0) := HR
    clear HR HCt HAh HFi HSs HFd HWn HWo HEx HLo HRd
    go_wp2_with fail
    go_ret
    exact ⟨by rw [HZ.out]; rfl, HB1.out⟩
  | false =>
  rw [if_neg (by decide)] at HR
  go_upto_region 4 with fail
  obtain ⟨c1, hc1'⟩ : ∃ c1, ((ki == 7) && aheadB l wh n) = c1 := ⟨_, rfl⟩
  have HC1 := Lib.hid hc1'
  rw [hc1'] at HR
  clear hc1'
  go_cut [32] (fun u wx => u = .bool c1 ∧ Hid (Below w.heap.size w wx) ∧ Hid (Holds wx E5 45 R5))
  case first =>
    clear HR HCt HFi HSs HFd HWn HWo HEx HLo
    obtain ⟨g0, g1, g2, g3, _⟩ := HRd.out _ HO1.out
    by_cases h7 : ki = 7
    · subst h7
      have HZ : Hid (c1 = aheadB l wh n) := HC1.out.symm.trans (by simp)
      clear HC1
      go_wp2_with (first | (go_at_call 11; (with_reducible refine (HAh.out _ _ HB1.out).mono ?_); rintro e w1 ⟨rfl, hw⟩; have hw := hw.symm; subst hw))
      go_meet
      case rel => exact ⟨by rw [HZ.out], HB1, HO1⟩
    · have q7 : (ki == 7) = false := beq_eq_false_iff_ne.2 h7
      have HZ : Hid (c1 = false) := HC1.out.symm.trans (by rw [q7]; rfl)
      clear HC1 h7
      go_wp2_with fail
      go_meet
      case rel => exact ⟨by rw [HZ.out], HB1, HO1⟩
  case rest =>
  obtain ⟨rfl, HB2, HO2⟩ := hcut
  clear HB1 HO1 HC1 HAh
  generalize wc = wB at *
  cases c1 with
  | true =>
    have HZ : Hid (rr = nmR 1) := HR
    clear HR HCt HFi HSs HFd HWn HWo HEx HLo HRd
    go_wp2_with fail
    go_ret
    exact ⟨by rw [HZ.out]; rfl, HB2.out⟩
  | false =>
  rw [if_neg (by decide)] at HR
  have g1' := (HRd.out _ HO2.out).2.1
  go_upto_region 7 with (first | (go_at_call 12; (with_reducible refine (HFi.out _ _ HB2.out).mono ?_); rintro e w1 ⟨rfl, hw⟩; have hw := hw.symm; subst hw))
  clear HFi g1'
  generalize idxP (exchP se) (l.take n) = fz at *
  go_cut [45] (fun u wx => u = .bool exk ∧ Hid (Below w.heap.size w wx) ∧ Hid (Holds wx E5 45 R5))
  case first =>
    clear HR HCt HSs HFd HWn HWo HLo
    obtain ⟨g0, _⟩ := HRd.out _ HO2.out
    by_cases h1 : ki = 1
    · subst h1
      have HZ : Hid (exk = true) := HEx.out.trans rfl
      go_wp2_with fail
      go_meet
      case rel => exact ⟨by rw [HZ.out], HB2, HO2⟩
    · have q1 : (ki == 1) = false := beq_eq_false_iff_ne.2 h1
      have HZ : Hid (exk = (ki == 2)) := HEx.out.trans (by rw [q1]; rfl)
      clear h1
      go_wp2_with fail
      go_meet
      case rel => exact ⟨by rw [HZ.out], HB2, HO2⟩
  case rest =>
  obtain ⟨rfl, HB3, HO3⟩ := hcut
  clear HB2 HO2 HEx
  generalize wc = wC at *
  go_upto_if 45 with fail
  go_cut [6] (fun u wx => u = .int .i64 fz ∧ Hid (Below w.heap.size w wx) ∧ Hid (Holds wx E5 45 R5) ∧ Hid (rr = (if (lok && !er) = true then nmR 4 else if (((ki == 4) || (ki == 5)) && decide (0 < cntR l ki se n)) = true then nmR 5 else sr)))
  case first =>
    clear HSs HLo
    cases exk with
    | false =>
      have HZ : Hid (rr = (if (lok && !er) = true then nmR 4 else if (((ki == 4) || (ki == 5)) && decide (0 < cntR l ki se n)) = true then nmR 5 else sr)) := HR
      clear HR HCt HFd HWn HWo HRd
      go_wp2_with fail
      go_meet
      case rel => exact ⟨rfl, HB3, HO3, HZ⟩
    | true =>
      go_upto_region 8 with fail
      generalize hn1 : cntR l 1 se n = n1 at *
      generalize hn2 : cntR l 2 se n = n2 at *
      have HN1 := Lib.hid hn1
      have HN2 := Lib.hid hn2
      clear hn1 hn2
      obtain ⟨c2, hc2'⟩ : ∃ c2, (nu == (n1 : Int) + (n2 : Int)) = c2 := ⟨_, rfl⟩
      have HC2 := Lib.hid hc2'
      rw [hc2'] at HR
      have b1 : (n1 : Int) ≤ 1000 := by omega
      have b2 : (n2 : Int) ≤ 1000 := by omega
      have HWr : Hid (IntKind.i64.wrap ((n1 : Int) + (n2 : Int)) = (n1 : Int) + n2) := IntWalk.i64_in _ ⟨by omega, by omega⟩
      clear hc2'
      go_cut [59] (fun u wx => u = .bool (!c2) ∧ Hid (Below w.heap.size w wx) ∧ Hid (Holds wx E5 45 R5))
      case first =>
        clear HR HFd HWn HWo
        obtain ⟨Sp, hSp⟩ : ∃ Sp : World → Prop, Hid (∀ w', Sp w' ↔ (Below w.heap.size w w' ∧ Holds w' E5 45 R5 ∧ Hid (w'.cell? ⟨E5, 0, none⟩ = some (.int .i64 ki) ∧ w'.cell? ⟨E5, 1, none⟩ = some (.int .i64 se) ∧ w'.cell? ⟨E5, 2, none⟩ = some (.int .i64 nu) ∧ w'.cell? ⟨E5, 3, none⟩ = some (.int .i64 wh) ∧ w'.cell? ⟨E5, 7, none⟩ = some (.int .i64 sid) ∧ w'.cell? ⟨E5, 30, none⟩ = some (.int .i64 kh) ∧ w'.cell? ⟨E5, 31, none⟩ = some (.int .i64 ks)))) := ⟨_, Lib.hid fun _ => Iff.rfl⟩
        refine wp_region_held_gen Sp (by kernel_rfl) ((hSp.out _).2 ⟨HB3.out.drew, HO3.out, HRd.out (World.drew wC) HO3.out⟩) ?_
        have hHeld : Sp _ := (hSp.out (World.drew _)).2 ⟨HB3.out.drew, HO3.out, HRd.out (World.drew wC) HO3.out⟩
        intro O hO
        refine held_read hO (i := 0) rfl rfl (by kernel_rfl) (fun _ _ _ _ h => h) ?_ hHeld ?_ ?_
        rotate_left 1
        · (intro w hSw; obtain ⟨_, _, hSw⟩ := (hSp.out _).1 hSw; obtain ⟨a0, a1, a2, a3, a7, a30, a31⟩ := hSw.out; clear hSw; go_simp; (try with_reducible rfl))
        try simp only [Act.put, List.setIfInBounds_toArray, List.set_cons_zero, List.set_cons_succ]
        refine held_read hO (i := 1) rfl rfl (by kernel_rfl) (fun _ _ _ _ h => h) ?_ hHeld ?_ ?_
        rotate_left 1
        · (intro w hSw; obtain ⟨_, _, hSw⟩ := (hSp.out _).1 hSw; obtain ⟨a0, a1, a2, a3, a7, a30, a31⟩ := hSw.out; clear hSw; go_simp; (try with_reducible rfl))
        try simp only [Act.put, List.setIfInBounds_toArray, List.set_cons_zero, List.set_cons_succ]
        refine held_read hO (i := 2) rfl rfl (by kernel_rfl) (fun _ _ _ _ h => h) ?_ hHeld ?_ ?_
        rotate_left 1
        · (intro w hSw; obtain ⟨_, _, hSw⟩ := (hSp.out _).1 hSw; obtain ⟨a0, a1, a2, a3, a7, a30, a31⟩ := hSw.out; clear hSw; go_simp; (try with_reducible rfl))
        try simp only [Act.put, List.setIfInBounds_toArray, List.set_cons_zero, List.set_cons_succ]
        refine held_read hO (i := 3) rfl rfl (by kernel_rfl) (fun _ _ _ _ h => h) ?_ hHeld ?_ ?_
        rotate_left 1
        · (intro w hSw; obtain ⟨_, _, hSw⟩ := (hSp.out _).1 hSw; obtain ⟨a0, a1, a2, a3, a7, a30, a31⟩ := hSw.out; clear hSw; go_simp; (try with_reducible rfl))
        try simp only [Act.put, List.setIfInBounds_toArray, List.set_cons_zero, List.set_cons_succ]
        refine held_read hO (i := 4) rfl rfl (by kernel_rfl) (fun _ _ _ _ h => h) ?_ hHeld ?_ ?_
        rotate_left 1
        · (intro w hSw; obtain ⟨_, _, hSw⟩ := (hSp.out _).1 hSw; obtain ⟨a0, a1, a2, a3, a7, a30, a31⟩ := hSw.out; clear hSw; go_simp; (try with_reducible rfl))
        try simp only [Act.put, List.setIfInBounds_toArray, List.set_cons_zero, List.set_cons_succ]
        refine held_read hO (i := 5) rfl rfl (by kernel_rfl) (fun _ _ _ _ h => h) ?_ hHeld ?_ ?_
        rotate_left 1
        · (intro w hSw; obtain ⟨_, _, hSw⟩ := (hSp.out _).1 hSw; obtain ⟨a0, a1, a2, a3, a7, a30, a31⟩ := hSw.out; clear hSw; go_simp; (try with_reducible rfl))
        try simp only [Act.put, List.setIfInBounds_toArray, List.set_cons_zero, List.set_cons_succ]
        refine held_read hO (i := 7) rfl rfl (by kernel_rfl) (fun _ _ _ _ h => h) ?_ hHeld ?_ ?_
        rotate_left 1
        · (intro w hSw; obtain ⟨_, _, hSw⟩ := (hSp.out _).1 hSw; obtain ⟨a0, a1, a2, a3, a7, a30, a31⟩ := hSw.out; clear hSw; go_simp; (try with_reducible rfl))
        try simp only [Act.put, List.setIfInBounds_toArray, List.set_cons_zero, List.set_cons_succ]
        refine held_read hO (i := 8) rfl rfl (by kernel_rfl) (fun _ _ _ _ h => h) ?_ hHeld ?_ ?_
        rotate_left 1
        · (intro w hSw; obtain ⟨_, _, hSw⟩ := (hSp.out _).1 hSw; obtain ⟨a0, a1, a2, a3, a7, a30, a31⟩ := hSw.out; clear hSw; go_simp; (try with_reducible rfl))
        try simp only [Act.put, List.setIfInBounds_toArray, List.set_cons_zero, List.set_cons_succ]
        refine held_read hO (i := 9) rfl rfl (by kernel_rfl) (fun _ _ _ _ h => h) ?_ hHeld ?_ ?_
        rotate_left 1
        · (intro w hSw; obtain ⟨_, _, hSw⟩ := (hSp.out _).1 hSw; obtain ⟨a0, a1, a2, a3, a7, a30, a31⟩ := hSw.out; clear hSw; go_simp; (try with_reducible rfl))
        try simp only [Act.put, List.setIfInBounds_toArray, List.set_cons_zero, List.set_cons_succ]
        refine held_read hO (i := 10) rfl rfl (by kernel_rfl) (fun _ _ _ _ h => h) ?_ hHeld ?_ ?_
        rotate_left 1
        · (intro w hSw; obtain ⟨_, _, hSw⟩ := (hSp.out _).1 hSw; obtain ⟨a0, a1, a2, a3, a7, a30, a31⟩ := hSw.out; clear hSw; go_simp; (try with_reducible rfl))
        try simp only [Act.put, List.setIfInBounds_toArray, List.set_cons_zero, List.set_cons_succ]
        refine held_step hO (i := 6) rfl rfl (by kernel_rfl) (fun K hK => ?_)
        go_simp
        go_at_call 10
        with_reducible refine (HCt.out _ _ _ ((hSp.out _).1 hHeld).1).mono ?_
        rintro e w9 ⟨rfl, hw⟩
        subst hw
        rw [HN1.out]
        go_wp2_with fail
        refine hK.out _ _ hHeld ?_
        clear hK K
        try simp only [Act.put, List.setIfInBounds_toArray, List.set_cons_zero, List.set_cons_succ]
        refine held_step hO (i := 11) rfl rfl (by kernel_rfl) (fun K hK => ?_)
        go_simp
        go_at_call 10
        with_reducible refine (HCt.out _ _ _ ((hSp.out _).1 hHeld).1).mono ?_
        rintro e w9 ⟨rfl, hw⟩
        subst hw
        rw [HN2.out]
        go_wp2_with fail
        refine hK.out _ _ hHeld ?_
        clear hK K
        try simp only [Act.put, List.setIfInBounds_toArray, List.set_cons_zero, List.set_cons_succ]
        refine held_read hO (i := 12) rfl rfl (by kernel_rfl) (fun _ _ _ _ h => h) ?_ hHeld ?_ ?_
        rotate_left 1
        · (intro w hSw; obtain ⟨_, _, hSw⟩ := (hSp.out _).1 hSw; obtain ⟨a0, a1, a2, a3, a7, a30, a31⟩ := hSw.out; clear hSw; go_simp; (try with_reducible rfl))
        try simp only [Act.put, List.setIfInBounds_toArray, List.set_cons_zero, List.set_cons_succ]
        refine held_read hO (i := 13) rfl rfl (by kernel_rfl) (fun _ _ _ _ h => h) ?_ hHeld ?_ ?_
        rotate_left 1
        · (intro w hSw; obtain ⟨_, _, hSw⟩ := (hSp.out _).1 hSw; obtain ⟨a0, a1, a2, a3, a7, a30, a31⟩ := hSw.out; clear hSw; go_simp; (try with_reducible rfl))
        try simp only [Act.put, List.setIfInBounds_toArray, List.set_cons_zero, List.set_cons_succ]
        refine held_done hO (by kernel_rfl) ?_
        clear hO O
        have HBh := Lib.hid ((hSp.out _).1 hHeld).1
        have HOh := Lib.hid ((hSp.out _).1 hHeld).2.1
        clear hHeld
        go_wp2_with fail
        go_meet
        case rel => exact ⟨by rw [HWr.out, ← HC2.out]; rfl, HBh, HOh⟩
      case rest =>
      obtain ⟨rfl, HB4, HO4⟩ := hcut
      clear HB3 HO3 HC2 HN1 HN2 HCt b1 b2 HWr
      generalize wc = wD at *
      cases c2 with
      | false =>
        have HZ : Hid (rr = nmR 2) := HR
        clear HR HFd HWn HWo HRd
        go_wp2_with fail
        go_ret
        exact ⟨by rw [HZ.out]; rfl, HB4.out⟩
      | true =>
        have HR : rr = (if (!(ks == wn)) = true then nmR 3 else (if (lok && !er) = true then nmR 4 else if (((ki == 4) || (ki == 5)) && decide (0 < cntR l ki se n)) = true then nmR 5 else sr)) := HR
        obtain ⟨g0, g1, g2, g3, g7, g30, g31⟩ := HRd.out _ HO4.out
        rcases HFd.out with ⟨e1, e2⟩ | ⟨i, y, e1, hi, e2, hcl⟩
        · have e3 := (HWo.out e2).1
          clear HWo HWn HFd e2 HRd
          subst e1
          subst e3
          by_cases hk : ks = wn
          · have qk : (ks != wn) = false := by rw [bne, hk, beq_self_eq_true]; rfl
            have HZ : Hid (rr = (if (lok && !er) = true then nmR 4 else if (((ki == 4) || (ki == 5)) && decide (0 < cntR l ki se n)) = true then nmR 5 else sr)) := HR.trans (by rw [hk, beq_self_eq_true]; rfl)
            clear HR hk
            go_wp2_with fail
            go_meet
            case rel => exact ⟨rfl, HB4, HO4, HZ⟩
          · have qk : (ks != wn) = true := by rw [bne, beq_eq_false_iff_ne.2 hk]; rfl
            have HZ : Hid (rr = nmR 3) := HR.trans (by rw [beq_eq_false_iff_ne.2 hk]; rfl)
            clear HR hk
            go_wp2_with fail
            go_ret
            exact ⟨by rw [HZ.out]; rfl, HB4.out⟩
        · have e3 := (HWn.out y e2).1
          have d31 := hcl _ HB4.out
          clear HWo HWn HFd e2 HRd hcl
          subst e1
          generalize y.dn.ks = z at *
          subst e3
          have hii : (i : Int) < (l.length : Int) := by omega
          have qi : decide ((i : Int) ≥ 0) = true := decide_eq_true (by omega)
          by_cases hk : ks = wn
          · have qk : (ks != wn) = false := by rw [bne, hk, beq_self_eq_true]; rfl
            have HZ : Hid (rr = (if (lok && !er) = true then nmR 4 else if (((ki == 4) || (ki == 5)) && decide (0 < cntR l ki se n)) = true then nmR 5 else sr)) := HR.trans (by rw [hk, beq_self_eq_true]; rfl)
            clear HR hk
            go_wp2_with fail
            go_meet
            case rel => exact ⟨rfl, HB4, HO4, HZ⟩
          · have qk : (ks != wn) = true := by rw [bne, beq_eq_false_iff_ne.2 hk]; rfl
            have HZ : Hid (rr = nmR 3) := HR.trans (by rw [beq_eq_false_iff_ne.2 hk]; rfl)
            clear HR hk
            go_wp2_with fail
            go_ret
            exact ⟨by rw [HZ.out]; rfl, HB4.out⟩
  case rest =>
  obtain ⟨rfl, HB4, HO4, HR4⟩ := hcut
  clear HR HB3 HO3
  generalize wc = wD at *
  have HR := HR4.out
  clear HR4
  go_upto_region 15 with fail
  obtain ⟨c4, hc4⟩ : ∃ c4, (lok && !er) = c4 := ⟨_, rfl⟩
  have HC4 := Lib.hid hc4
  rw [hc4] at HR
  clear hc4
  go_cut [103] (fun u wx => u = .bool c4 ∧ Hid (Below w.heap.size w wx) ∧ Hid (Holds wx E5 45 R5))
  case first =>
    clear HR HCt HSs
    by_cases h3 : ki = 3
    · subst h3
      have HL : Hid (lok = true) := HLo.out.trans rfl
      rcases HFd.out with ⟨e1, e2⟩ | ⟨i, y, e1, hi, e2, hcl⟩
      · have e3 := (HWo.out e2).2
        have HZ : Hid (c4 = true) := by rw [← HC4.out, HL.out, e3]; rfl
        clear HWo HWn HFd e2 e3 HC4 HL HLo
        subst e1
        obtain ⟨Sp, hSp⟩ : ∃ Sp : World → Prop, Hid (∀ w', Sp w' ↔ (Below w.heap.size w w' ∧ Holds w' E5 45 R5 ∧ Hid (w'.cell? ⟨E5, 0, none⟩ = some (.int .i64 3) ∧ w'.cell? ⟨E5, 1, none⟩ = some (.int .i64 se) ∧ w'.cell? ⟨E5, 2, none⟩ = some (.int .i64 nu) ∧ w'.cell? ⟨E5, 3, none⟩ = some (.int .i64 wh) ∧ w'.cell? ⟨E5, 7, none⟩ = some (.int .i64 sid) ∧ w'.cell? ⟨E5, 30, none⟩ = some (.int .i64 kh) ∧ w'.cell? ⟨E5, 31, none⟩ = some (.int .i64 ks)))) := ⟨_, Lib.hid fun _ => Iff.rfl⟩
        refine wp_region_held_gen Sp (by kernel_rfl) ((hSp.out _).2 ⟨HB4.out.drew, HO4.out, HRd.out (World.drew wD) HO4.out⟩) ?_
        have hHeld : Sp _ := (hSp.out (World.drew _)).2 ⟨HB4.out.drew, HO4.out, HRd.out (World.drew wD) HO4.out⟩
        intro O hO
        refine held_read hO (i := 0) rfl rfl (by kernel_rfl) (fun _ _ _ _ h => h) ?_ hHeld ?_ ?_
        rotate_left 1
        · (intro w hSw; obtain ⟨_, _, hSw⟩ := (hSp.out _).1 hSw; obtain ⟨a0, a1, a2, a3, a7, a30, a31⟩ := hSw.out; clear hSw; go_simp; (try with_reducible rfl))
        try simp only [Act.put, List.setIfInBounds_toArray, List.set_cons_zero, List.set_cons_succ]
        refine held_read hO (i := 1) rfl rfl (by kernel_rfl) (fun _ _ _ _ h => h) ?_ hHeld ?_ ?_
        rotate_left 1
        · (intro w hSw; obtain ⟨_, _, hSw⟩ := (hSp.out _).1 hSw; obtain ⟨a0, a1, a2, a3, a7, a30, a31⟩ := hSw.out; clear hSw; go_simp; (try with_reducible rfl))
        try simp only [Act.put, List.setIfInBounds_toArray, List.set_cons_zero, List.set_cons_succ]
        refine held_read hO (i := 2) rfl rfl (by kernel_rfl) (fun _ _ _ _ h => h) ?_ hHeld ?_ ?_
        rotate_left 1
        · (intro w hSw; obtain ⟨_, _, hSw⟩ := (hSp.out _).1 hSw; obtain ⟨a0, a1, a2, a3, a7, a30, a31⟩ := hSw.out; clear hSw; go_simp; (try with_reducible rfl))
        try simp only [Act.put, List.setIfInBounds_toArray, List.set_cons_zero, List.set_cons_succ]
        refine held_read hO (i := 3) rfl rfl (by kernel_rfl) (fun _ _ _ _ h => h) ?_ hHeld ?_ ?_
        rotate_left 1
        · (intro w hSw; obtain ⟨_, _, hSw⟩ := (hSp.out _).1 hSw; obtain ⟨a0, a1, a2, a3, a7, a30, a31⟩ := hSw.out; clear hSw; go_simp; (try with_reducible rfl))
        try simp only [Act.put, List.setIfInBounds_toArray, List.set_cons_zero, List.set_cons_succ]
        refine held_skip hO (i := 4) rfl (by kernel_rfl) (by kernel_rfl) (fun _ _ _ _ h => h) hHeld ?_
        try simp only [Act.put, List.setIfInBounds_toArray, List.set_cons_zero, List.set_cons_succ]
        refine held_skip hO (i := 5) rfl (by kernel_rfl) (by kernel_rfl) (fun _ _ _ _ h => h) hHeld ?_
        try simp only [Act.put, List.setIfInBounds_toArray, List.set_cons_zero, List.set_cons_succ]
        refine held_skip hO (i := 6) rfl (by kernel_rfl) (by kernel_rfl) (fun _ _ _ _ h => h) hHeld ?_
        try simp only [Act.put, List.setIfInBounds_toArray, List.set_cons_zero, List.set_cons_succ]
        refine held_read hO (i := 7) rfl rfl (by kernel_rfl) (fun _ _ _ _ h => h) ?_ hHeld ?_ ?_
        rotate_left 1
        · (intro w hSw; obtain ⟨_, _, hSw⟩ := (hSp.out _).1 hSw; obtain ⟨a0, a1, a2, a3, a7, a30, a31⟩ := hSw.out; clear hSw; go_simp; (try with_reducible rfl))
        try simp only [Act.put, List.setIfInBounds_toArray, List.set_cons_zero, List.set_cons_succ]
        refine held_read hO (i := 8) rfl rfl (by kernel_rfl) (fun _ _ _ _ h => h) ?_ hHeld ?_ ?_
        rotate_left 1
        · (intro w hSw; obtain ⟨_, _, hSw⟩ := (hSp.out _).1 hSw; obtain ⟨a0, a1, a2, a3, a7, a30, a31⟩ := hSw.out; clear hSw; go_simp; (try with_reducible rfl))
        try simp only [Act.put, List.setIfInBounds_toArray, List.set_cons_zero, List.set_cons_succ]
        refine held_skip hO (i := 9) rfl (by kernel_rfl) (by kernel_rfl) (fun _ _ _ _ h => h) hHeld ?_
        try simp only [Act.put, List.setIfInBounds_toArray, List.set_cons_zero, List.set_cons_succ]
        refine held_skip hO (i := 10) rfl (by kernel_rfl) (by kernel_rfl) (fun _ _ _ _ h => h) hHeld ?_
        try simp only [Act.put, List.setIfInBounds_toArray, List.set_cons_zero, List.set_cons_succ]
        refine held_skip hO (i := 11) rfl (by kernel_rfl) (by kernel_rfl) (fun _ _ _ _ h => h) hHeld ?_
        try simp only [Act.put, List.setIfInBounds_toArray, List.set_cons_zero, List.set_cons_succ]
        refine held_read hO (i := 12) rfl rfl (by kernel_rfl) (fun _ _ _ _ h => h) ?_ hHeld ?_ ?_
        rotate_left 1
        · (intro w hSw; obtain ⟨_, _, hSw⟩ := (hSp.out _).1 hSw; obtain ⟨a0, a1, a2, a3, a7, a30, a31⟩ := hSw.out; clear hSw; go_simp; (try with_reducible rfl))
        try simp only [Act.put, List.setIfInBounds_toArray, List.set_cons_zero, List.set_cons_succ]
        refine held_read hO (i := 13) rfl rfl (by kernel_rfl) (fun _ _ _ _ h => h) ?_ hHeld ?_ ?_
        rotate_left 1
        · (intro w hSw; obtain ⟨_, _, hSw⟩ := (hSp.out _).1 hSw; obtain ⟨a0, a1, a2, a3, a7, a30, a31⟩ := hSw.out; clear hSw; go_simp; (try with_reducible rfl))
        try simp only [Act.put, List.setIfInBounds_toArray, List.set_cons_zero, List.set_cons_succ]
        refine held_take hO (i := 14) rfl (by kernel_rfl) (by kernel_rfl) (fun _ _ _ _ h => h) ?_ hHeld ?_ ?_
        rotate_left 1
        · (intro w hSw; obtain ⟨_, _, hSw⟩ := (hSp.out _).1 hSw; obtain ⟨a0, a1, a2, a3, a7, a30, a31⟩ := hSw.out; clear hSw; go_simp; (try with_reducible rfl))
        try simp only [Act.put, List.setIfInBounds_toArray, List.set_cons_zero, List.set_cons_succ]
        refine held_take hO (i := 15) rfl (by kernel_rfl) (by kernel_rfl) (fun _ _ _ _ h => h) ?_ hHeld ?_ ?_
        rotate_left 1
        · (intro w hSw; obtain ⟨_, _, hSw⟩ := (hSp.out _).1 hSw; obtain ⟨a0, a1, a2, a3, a7, a30, a31⟩ := hSw.out; clear hSw; go_simp; (try with_reducible rfl))
        try simp only [Act.put, List.setIfInBounds_toArray, List.set_cons_zero, List.set_cons_succ]
        refine held_take hO (i := 16) rfl (by kernel_rfl) (by kernel_rfl) (fun _ _ _ _ h => h) ?_ hHeld ?_ ?_
        rotate_left 1
        · (intro w hSw; obtain ⟨_, _, hSw⟩ := (hSp.out _).1 hSw; obtain ⟨a0, a1, a2, a3, a7, a30, a31⟩ := hSw.out; clear hSw; go_simp; (try with_reducible rfl))
        try simp only [Act.put, List.setIfInBounds_toArray, List.set_cons_zero, List.set_cons_succ]
        refine held_skip hO (i := 17) rfl (by kernel_rfl) (by kernel_rfl) (fun _ _ _ _ h => h) hHeld ?_
        try simp only [Act.put, List.setIfInBounds_toArray, List.set_cons_zero, List.set_cons_succ]
        refine held_skip hO (i := 18) rfl (by kernel_rfl) (by kernel_rfl) (fun _ _ _ _ h => h) hHeld ?_
        try simp only [Act.put, List.setIfInBounds_toArray, List.set_cons_zero, List.set_cons_succ]
        refine held_skip hO (i := 19) rfl (by kernel_rfl) (by kernel_rfl) (fun _ _ _ _ h => h) hHeld ?_
        try simp only [Act.put, List.setIfInBounds_toArray, List.set_cons_zero, List.set_cons_succ]
        refine held_skip hO (i := 20) rfl (by kernel_rfl) (by kernel_rfl) (fun _ _ _ _ h => h) hHeld ?_
        try simp only [Act.put, List.setIfInBounds_toArray, List.set_cons_zero, List.set_cons_succ]
        refine held_skip hO (i := 21) rfl (by kernel_rfl) (by kernel_rfl) (fun _ _ _ _ h => h) hHeld ?_
        try simp only [Act.put, List.setIfInBounds_toArray, List.set_cons_zero, List.set_cons_succ]
        refine held_skip hO (i := 22) rfl (by kernel_rfl) (by kernel_rfl) (fun _ _ _ _ h => h) hHeld ?_
        try simp only [Act.put, List.setIfInBounds_toArray, List.set_cons_zero, List.set_cons_succ]
        refine held_skip hO (i := 23) rfl (by kernel_rfl) (by kernel_rfl) (fun _ _ _ _ h => h) hHeld ?_
        try simp only [Act.put, List.setIfInBounds_toArray, List.set_cons_zero, List.set_cons_succ]
        refine held_skip hO (i := 24) rfl (by kernel_rfl) (by kernel_rfl) (fun _ _ _ _ h => h) hHeld ?_
        try simp only [Act.put, List.setIfInBounds_toArray, List.set_cons_zero, List.set_cons_succ]
        refine held_skip hO (i := 25) rfl (by kernel_rfl) (by kernel_rfl) (fun _ _ _ _ h => h) hHeld ?_
        try simp only [Act.put, List.setIfInBounds_toArray, List.set_cons_zero, List.set_cons_succ]
        refine held_take hO (i := 26) rfl (by kernel_rfl) (by kernel_rfl) (fun _ _ _ _ h => h) ?_ hHeld ?_ ?_
        rotate_left 1
        · (intro w hSw; obtain ⟨_, _, hSw⟩ := (hSp.out _).1 hSw; obtain ⟨a0, a1, a2, a3, a7, a30, a31⟩ := hSw.out; clear hSw; go_simp; (try with_reducible rfl))
        try simp only [Act.put, List.setIfInBounds_toArray, List.set_cons_zero, List.set_cons_succ]
        refine held_read hO (i := 27) rfl rfl (by kernel_rfl) (fun _ _ _ _ h => h) ?_ hHeld ?_ ?_
        rotate_left 1
        · (intro w hSw; obtain ⟨_, _, hSw⟩ := (hSp.out _).1 hSw; obtain ⟨a0, a1, a2, a3, a7, a30, a31⟩ := hSw.out; clear hSw; go_simp; (try with_reducible rfl))
        try simp only [Act.put, List.setIfInBounds_toArray, List.set_cons_zero, List.set_cons_succ]
        refine held_done hO (by kernel_rfl) ?_
        clear hO O
        have HBh := Lib.hid ((hSp.out _).1 hHeld).1
        have HOh := Lib.hid ((hSp.out _).1 hHeld).2.1
        clear hHeld
        go_wp2_with fail
        go_meet
        case rel => exact ⟨by rw [HZ.out], HBh, HOh⟩
      · have e3 := (HWn.out y e2).2
        have HCz := Lib.hid hcl
        have HZ : Hid (c4 = !(y.dn.ks == sid)) := by rw [← HC4.out, HL.out, e3]; rfl
        clear HWo HWn HFd e2 e3 HC4 HL HLo hcl
        subst e1
        generalize y.dn.ks = z at *
        have hii : (i : Int) < (l.length : Int) := by omega
        have qi : decide ((i : Int) < 0) = false := decide_eq_false (by omega)
        obtain ⟨Sp, hSp⟩ : ∃ Sp : World → Prop, Hid (∀ w', Sp w' ↔ (Below w.heap.size w w' ∧ Holds w' E5 45 R5 ∧ Hid (w'.cell? ⟨E5, 0, none⟩ = some (.int .i64 3) ∧ w'.cell? ⟨E5, 1, none⟩ = some (.int .i64 se) ∧ w'.cell? ⟨E5, 2, none⟩ = some (.int .i64 nu) ∧ w'.cell? ⟨E5, 3, none⟩ = some (.int .i64 wh) ∧ w'.cell? ⟨E5, 7, none⟩ = some (.int .i64 sid) ∧ w'.cell? ⟨E5, 30, none⟩ = some (.int .i64 kh) ∧ w'.cell? ⟨E5, 31, none⟩ = some (.int .i64 ks)) ∧ w'.cell? ⟨b, off + i * 34 + 31, none⟩ = some (.int .i64 z))) := ⟨_, Lib.hid fun _ => Iff.rfl⟩
        refine wp_region_held_gen Sp (by kernel_rfl) ((hSp.out _).2 ⟨HB4.out.drew, HO4.out, HRd.out (World.drew wD) HO4.out, HCz.out _ HB4.out.drew⟩) ?_
        have hHeld : Sp _ := (hSp.out (World.drew _)).2 ⟨HB4.out.drew, HO4.out, HRd.out (World.drew wD) HO4.out, HCz.out _ HB4.out.drew⟩
        intro O hO
        refine held_read hO (i := 0) rfl rfl (by kernel_rfl) (fun _ _ _ _ h => h) ?_ hHeld ?_ ?_
        rotate_left 1
        · (intro w hSw; obtain ⟨_, _, hSw, azz⟩ := (hSp.out _).1 hSw; obtain ⟨a0, a1, a2, a3, a7, a30, a31⟩ := hSw.out; clear hSw; go_simp; (try with_reducible rfl))
        try simp only [Act.put, List.setIfInBounds_toArray, List.set_cons_zero, List.set_cons_succ]
        refine held_read hO (i := 1) rfl rfl (by kernel_rfl) (fun _ _ _ _ h => h) ?_ hHeld ?_ ?_
        rotate_left 1
        · (intro w hSw; obtain ⟨_, _, hSw, azz⟩ := (hSp.out _).1 hSw; obtain ⟨a0, a1, a2, a3, a7, a30, a31⟩ := hSw.out; clear hSw; go_simp; (try with_reducible rfl))
        try simp only [Act.put, List.setIfInBounds_toArray, List.set_cons_zero, List.set_cons_succ]
        refine held_read hO (i := 2) rfl rfl (by kernel_rfl) (fun _ _ _ _ h => h) ?_ hHeld ?_ ?_
        rotate_left 1
        · (intro w hSw; obtain ⟨_, _, hSw, azz⟩ := (hSp.out _).1 hSw; obtain ⟨a0, a1, a2, a3, a7, a30, a31⟩ := hSw.out; clear hSw; go_simp; (try with_reducible rfl))
        try simp only [Act.put, List.setIfInBounds_toArray, List.set_cons_zero, List.set_cons_succ]
        refine held_read hO (i := 3) rfl rfl (by kernel_rfl) (fun _ _ _ _ h => h) ?_ hHeld ?_ ?_
        rotate_left 1
        · (intro w hSw; obtain ⟨_, _, hSw, azz⟩ := (hSp.out _).1 hSw; obtain ⟨a0, a1, a2, a3, a7, a30, a31⟩ := hSw.out; clear hSw; go_simp; (try with_reducible rfl))
        try simp only [Act.put, List.setIfInBounds_toArray, List.set_cons_zero, List.set_cons_succ]
        refine held_skip hO (i := 4) rfl (by kernel_rfl) (by kernel_rfl) (fun _ _ _ _ h => h) hHeld ?_
        try simp only [Act.put, List.setIfInBounds_toArray, List.set_cons_zero, List.set_cons_succ]
        refine held_skip hO (i := 5) rfl (by kernel_rfl) (by kernel_rfl) (fun _ _ _ _ h => h) hHeld ?_
        try simp only [Act.put, List.setIfInBounds_toArray, List.set_cons_zero, List.set_cons_succ]
        refine held_skip hO (i := 6) rfl (by kernel_rfl) (by kernel_rfl) (fun _ _ _ _ h => h) hHeld ?_
        try simp only [Act.put, List.setIfInBounds_toArray, List.set_cons_zero, List.set_cons_succ]
        refine held_read hO (i := 7) rfl rfl (by kernel_rfl) (fun _ _ _ _ h => h) ?_ hHeld ?_ ?_
        rotate_left 1
        · (intro w hSw; obtain ⟨_, _, hSw, azz⟩ := (hSp.out _).1 hSw; obtain ⟨a0, a1, a2, a3, a7, a30, a31⟩ := hSw.out; clear hSw; go_simp; (try with_reducible rfl))
        try simp only [Act.put, List.setIfInBounds_toArray, List.set_cons_zero, List.set_cons_succ]
        refine held_read hO (i := 8) rfl rfl (by kernel_rfl) (fun _ _ _ _ h => h) ?_ hHeld ?_ ?_
        rotate_left 1
        · (intro w hSw; obtain ⟨_, _, hSw, azz⟩ := (hSp.out _).1 hSw; obtain ⟨a0, a1, a2, a3, a7, a30, a31⟩ := hSw.out; clear hSw; go_simp; (try with_reducible rfl))
        try simp only [Act.put, List.setIfInBounds_toArray, List.set_cons_zero, List.set_cons_succ]
        refine held_skip hO (i := 9) rfl (by kernel_rfl) (by kernel_rfl) (fun _ _ _ _ h => h) hHeld ?_
        try simp only [Act.put, List.setIfInBounds_toArray, List.set_cons_zero, List.set_cons_succ]
        refine held_skip hO (i := 10) rfl (by kernel_rfl) (by kernel_rfl) (fun _ _ _ _ h => h) hHeld ?_
        try simp only [Act.put, List.setIfInBounds_toArray, List.set_cons_zero, List.set_cons_succ]
        refine held_skip hO (i := 11) rfl (by kernel_rfl) (by kernel_rfl) (fun _ _ _ _ h => h) hHeld ?_
        try simp only [Act.put, List.setIfInBounds_toArray, List.set_cons_zero, List.set_cons_succ]
        refine held_read hO (i := 12) rfl rfl (by kernel_rfl) (fun _ _ _ _ h => h) ?_ hHeld ?_ ?_
        rotate_left 1
        · (intro w hSw; obtain ⟨_, _, hSw, azz⟩ := (hSp.out _).1 hSw; obtain ⟨a0, a1, a2, a3, a7, a30, a31⟩ := hSw.out; clear hSw; go_simp; (try with_reducible rfl))
        try simp only [Act.put, List.setIfInBounds_toArray, List.set_cons_zero, List.set_cons_succ]
        refine held_read hO (i := 13) rfl rfl (by kernel_rfl) (fun _ _ _ _ h => h) ?_ hHeld ?_ ?_
        rotate_left 1
        · (intro w hSw; obtain ⟨_, _, hSw, azz⟩ := (hSp.out _).1 hSw; obtain ⟨a0, a1, a2, a3, a7, a30, a31⟩ := hSw.out; clear hSw; go_simp; (try with_reducible rfl))
        try simp only [Act.put, List.setIfInBounds_toArray, List.set_cons_zero, List.set_cons_succ]
        refine held_take hO (i := 14) rfl (by kernel_rfl) (by kernel_rfl) (fun _ _ _ _ h => h) ?_ hHeld ?_ ?_
        rotate_left 1
        · (intro w hSw; obtain ⟨_, _, hSw, azz⟩ := (hSp.out _).1 hSw; obtain ⟨a0, a1, a2, a3, a7, a30, a31⟩ := hSw.out; clear hSw; go_simp; (try with_reducible rfl))
        try simp only [Act.put, List.setIfInBounds_toArray, List.set_cons_zero, List.set_cons_succ]
        refine held_take hO (i := 15) rfl (by kernel_rfl) (by kernel_rfl) (fun _ _ _ _ h => h) ?_ hHeld ?_ ?_
        rotate_left 1
        · (intro w hSw; obtain ⟨_, _, hSw, azz⟩ := (hSp.out _).1 hSw; obtain ⟨a0, a1, a2, a3, a7, a30, a31⟩ := hSw.out; clear hSw; go_simp; (try with_reducible rfl))
        try simp only [Act.put, List.setIfInBounds_toArray, List.set_cons_zero, List.set_cons_succ]
        refine held_take hO (i := 16) rfl (by kernel_rfl) (by kernel_rfl) (fun _ _ _ _ h => h) ?_ hHeld ?_ ?_
        rotate_left 1
        · (intro w hSw; obtain ⟨_, _, hSw, azz⟩ := (hSp.out _).1 hSw; obtain ⟨a0, a1, a2, a3, a7, a30, a31⟩ := hSw.out; clear hSw; go_simp; (try with_reducible rfl))
        try simp only [Act.put, List.setIfInBounds_toArray, List.set_cons_zero, List.set_cons_succ]
        refine held_take hO (i := 17) rfl (by kernel_rfl) (by kernel_rfl) (fun _ _ _ _ h => h) ?_ hHeld ?_ ?_
        rotate_left 1
        · (intro w hSw; obtain ⟨_, _, hSw, azz⟩ := (hSp.out _).1 hSw; obtain ⟨a0, a1, a2, a3, a7, a30, a31⟩ := hSw.out; clear hSw; go_simp; (try with_reducible rfl))
        try simp only [Act.put, List.setIfInBounds_toArray, List.set_cons_zero, List.set_cons_succ]
        refine held_take hO (i := 18) rfl (by kernel_rfl) (by kernel_rfl) (fun _ _ _ _ h => h) ?_ hHeld ?_ ?_
        rotate_left 1
        · (intro w hSw; obtain ⟨_, _, hSw, azz⟩ := (hSp.out _).1 hSw; obtain ⟨a0, a1, a2, a3, a7, a30, a31⟩ := hSw.out; clear hSw; go_simp; (try with_reducible rfl))
        try simp only [Act.put, List.setIfInBounds_toArray, List.set_cons_zero, List.set_cons_succ]
        refine held_take hO (i := 19) rfl (by kernel_rfl) (by kernel_rfl) (fun _ _ _ _ h => h) ?_ hHeld ?_ ?_
        rotate_left 1
        · (intro w hSw; obtain ⟨_, _, hSw, azz⟩ := (hSp.out _).1 hSw; obtain ⟨a0, a1, a2, a3, a7, a30, a31⟩ := hSw.out; clear hSw; go_simp; (try with_reducible rfl))
        try simp only [Act.put, List.setIfInBounds_toArray, List.set_cons_zero, List.set_cons_succ]
        refine held_take hO (i := 20) rfl (by kernel_rfl) (by kernel_rfl) (fun _ _ _ _ h => h) ?_ hHeld ?_ ?_
        rotate_left 1
        · (intro w hSw; obtain ⟨_, _, hSw, azz⟩ := (hSp.out _).1 hSw; obtain ⟨a0, a1, a2, a3, a7, a30, a31⟩ := hSw.out; clear hSw; go_simp; (try with_reducible rfl))
        try simp only [Act.put, List.setIfInBounds_toArray, List.set_cons_zero, List.set_cons_succ]
        refine held_take hO (i := 21) rfl (by kernel_rfl) (by kernel_rfl) (fun _ _ _ _ h => h) ?_ hHeld ?_ ?_
        rotate_left 1
        · (intro w hSw; obtain ⟨_, _, hSw, azz⟩ := (hSp.out _).1 hSw; obtain ⟨a0, a1, a2, a3, a7, a30, a31⟩ := hSw.out; clear hSw; go_simp; (try with_reducible rfl))
        try simp only [Act.put, List.setIfInBounds_toArray, List.set_cons_zero, List.set_cons_succ]
        refine held_take hO (i := 22) rfl (by kernel_rfl) (by kernel_rfl) (fun _ _ _ _ h => h) ?_ hHeld ?_ ?_
        rotate_left 1
        · (intro w hSw; obtain ⟨_, _, hSw, azz⟩ := (hSp.out _).1 hSw; obtain ⟨a0, a1, a2, a3, a7, a30, a31⟩ := hSw.out; clear hSw; go_simp; (try with_reducible rfl))
        try simp only [Act.put, List.setIfInBounds_toArray, List.set_cons_zero, List.set_cons_succ]
        refine held_take hO (i := 23) rfl (by kernel_rfl) (by kernel_rfl) (fun _ _ _ _ h => h) ?_ hHeld ?_ ?_
        rotate_left 1
        · (intro w hSw; obtain ⟨_, _, hSw, azz⟩ := (hSp.out _).1 hSw; obtain ⟨a0, a1, a2, a3, a7, a30, a31⟩ := hSw.out; clear hSw; go_simp; (try with_reducible rfl))
        try simp only [Act.put, List.setIfInBounds_toArray, List.set_cons_zero, List.set_cons_succ]
        refine held_take hO (i := 24) rfl (by kernel_rfl) (by kernel_rfl) (fun _ _ _ _ h => h) ?_ hHeld ?_ ?_
        rotate_left 1
        · (intro w hSw; obtain ⟨_, _, hSw, azz⟩ := (hSp.out _).1 hSw; obtain ⟨a0, a1, a2, a3, a7, a30, a31⟩ := hSw.out; clear hSw; go_simp; (try with_reducible rfl))
        try simp only [Act.put, List.setIfInBounds_toArray, List.set_cons_zero, List.set_cons_succ]
        refine held_take hO (i := 25) rfl (by kernel_rfl) (by kernel_rfl) (fun _ _ _ _ h => h) ?_ hHeld ?_ ?_
        rotate_left 1
        · (intro w hSw; obtain ⟨_, _, hSw, azz⟩ := (hSp.out _).1 hSw; obtain ⟨a0, a1, a2, a3, a7, a30, a31⟩ := hSw.out; clear hSw; go_simp; (try with_reducible rfl))
        try simp only [Act.put, List.setIfInBounds_toArray, List.set_cons_zero, List.set_cons_succ]
        refine held_take hO (i := 26) rfl (by kernel_rfl) (by kernel_rfl) (fun _ _ _ _ h => h) ?_ hHeld ?_ ?_
        rotate_left 1
        · (intro w hSw; obtain ⟨_, _, hSw, azz⟩ := (hSp.out _).1 hSw; obtain ⟨a0, a1, a2, a3, a7, a30, a31⟩ := hSw.out; clear hSw; go_simp; (try with_reducible rfl))
        try simp only [Act.put, List.setIfInBounds_toArray, List.set_cons_zero, List.set_cons_succ]
        refine held_read hO (i := 27) rfl rfl (by kernel_rfl) (fun _ _ _ _ h => h) ?_ hHeld ?_ ?_
        rotate_left 1
        · (intro w hSw; obtain ⟨_, _, hSw, azz⟩ := (hSp.out _).1 hSw; obtain ⟨a0, a1, a2, a3, a7, a30, a31⟩ := hSw.out; clear hSw; go_simp; (try with_reducible rfl))
        try simp only [Act.put, List.setIfInBounds_toArray, List.set_cons_zero, List.set_cons_succ]
        refine held_done hO (by kernel_rfl) ?_
        clear hO O
        have HBh := Lib.hid ((hSp.out _).1 hHeld).1
        have HOh := Lib.hid ((hSp.out _).1 hHeld).2.1
        clear hHeld
        go_wp2_with fail
        go_meet
        case rel => exact ⟨by rw [HZ.out]; rfl, HBh, HOh⟩
    have q3 : (ki == 3) = false := beq_eq_false_iff_ne.2 h3
    by_cases h4 : ki = 4
    · subst h4
      have HL : Hid (lok = true) := HLo.out.trans rfl
      rcases HFd.out with ⟨e1, e2⟩ | ⟨i, y, e1, hi, e2, hcl⟩
      · have e3 := (HWo.out e2).2
        have HZ : Hid (c4 = true) := by rw [← HC4.out, HL.out, e3]; rfl
        clear HWo HWn HFd e2 e3 HC4 HL HLo
        subst e1
        obtain ⟨Sp, hSp⟩ : ∃ Sp : World → Prop, Hid (∀ w', Sp w' ↔ (Below w.heap.size w w' ∧ Holds w' E5 45 R5 ∧ Hid (w'.cell? ⟨E5, 0, none⟩ = some (.int .i64 4) ∧ w'.cell? ⟨E5, 1, none⟩ = some (.int .i64 se) ∧ w'.cell? ⟨E5, 2, none⟩ = some (.int .i64 nu) ∧ w'.cell? ⟨E5, 3, none⟩ = some (.int .i64 wh) ∧ w'.cell? ⟨E5, 7, none⟩ = some (.int .i64 sid) ∧ w'.cell? ⟨E5, 30, none⟩ = some (.int .i64 kh) ∧ w'.cell? ⟨E5, 31, none⟩ = some (.int .i64 ks)))) := ⟨_, Lib.hid fun _ => Iff.rfl⟩
        refine wp_region_held_gen Sp (by kernel_rfl) ((hSp.out _).2 ⟨HB4.out.drew, HO4.out, HRd.out (World.drew wD) HO4.out⟩) ?_
        have hHeld : Sp _ := (hSp.out (World.drew _)).2 ⟨HB4.out.drew, HO4.out, HRd.out (World.drew wD) HO4.out⟩
        intro O hO
        refine held_read hO (i := 0) rfl rfl (by kernel_rfl) (fun _ _ _ _ h => h) ?_ hHeld ?_ ?_
        rotate_left 1
        · (intro w hSw; obtain ⟨_, _, hSw⟩ := (hSp.out _).1 hSw; obtain ⟨a0, a1, a2, a3, a7, a30, a31⟩ := hSw.out; clear hSw; go_simp; (try with_reducible rfl))
        try simp only [Act.put, List.setIfInBounds_toArray, List.set_cons_zero, List.set_cons_succ]
        refine held_read hO (i := 1) rfl rfl (by kernel_rfl) (fun _ _ _ _ h => h) ?_ hHeld ?_ ?_
        rotate_left 1
        · (intro w hSw; obtain ⟨_, _, hSw⟩ := (hSp.out _).1 hSw; obtain ⟨a0, a1, a2, a3, a7, a30, a31⟩ := hSw.out; clear hSw; go_simp; (try with_reducible rfl))
        try simp only [Act.put, List.setIfInBounds_toArray, List.set_cons_zero, List.set_cons_succ]
        refine held_read hO (i := 2) rfl rfl (by kernel_rfl) (fun _ _ _ _ h => h) ?_ hHeld ?_ ?_
        rotate_left 1
        · (intro w hSw; obtain ⟨_, _, hSw⟩ := (hSp.out _).1 hSw; obtain ⟨a0, a1, a2, a3, a7, a30, a31⟩ := hSw.out; clear hSw; go_simp; (try with_reducible rfl))
        try simp only [Act.put, List.setIfInBounds_toArray, List.set_cons_zero, List.set_cons_succ]
        refine held_read hO (i := 3) rfl rfl (by kernel_rfl) (fun _ _ _ _ h => h) ?_ hHeld ?_ ?_
        rotate_left 1
        · (intro w hSw; obtain ⟨_, _, hSw⟩ := (hSp.out _).1 hSw; obtain ⟨a0, a1, a2, a3, a7, a30, a31⟩ := hSw.out; clear hSw; go_simp; (try with_reducible rfl))
        try simp only [Act.put, List.setIfInBounds_toArray, List.set_cons_zero, List.set_cons_succ]
        refine held_take hO (i := 4) rfl (by kernel_rfl) (by kernel_rfl) (fun _ _ _ _ h => h) ?_ hHeld ?_ ?_
        rotate_left 1
        · (intro w hSw; obtain ⟨_, _, hSw⟩ := (hSp.out _).1 hSw; obtain ⟨a0, a1, a2, a3, a7, a30, a31⟩ := hSw.out; clear hSw; go_simp; (try with_reducible rfl))
        try simp only [Act.put, List.setIfInBounds_toArray, List.set_cons_zero, List.set_cons_succ]
        refine held_take hO (i := 5) rfl (by kernel_rfl) (by kernel_rfl) (fun _ _ _ _ h => h) ?_ hHeld ?_ ?_
        rotate_left 1
        · (intro w hSw; obtain ⟨_, _, hSw⟩ := (hSp.out _).1 hSw; obtain ⟨a0, a1, a2, a3, a7, a30, a31⟩ := hSw.out; clear hSw; go_simp; (try with_reducible rfl))
        try simp only [Act.put, List.setIfInBounds_toArray, List.set_cons_zero, List.set_cons_succ]
        refine held_take hO (i := 6) rfl (by kernel_rfl) (by kernel_rfl) (fun _ _ _ _ h => h) ?_ hHeld ?_ ?_
        rotate_left 1
        · (intro w hSw; obtain ⟨_, _, hSw⟩ := (hSp.out _).1 hSw; obtain ⟨a0, a1, a2, a3, a7, a30, a31⟩ := hSw.out; clear hSw; go_simp; (try with_reducible rfl))
        try simp only [Act.put, List.setIfInBounds_toArray, List.set_cons_zero, List.set_cons_succ]
        refine held_read hO (i := 7) rfl rfl (by kernel_rfl) (fun _ _ _ _ h => h) ?_ hHeld ?_ ?_
        rotate_left 1
        · (intro w hSw; obtain ⟨_, _, hSw⟩ := (hSp.out _).1 hSw; obtain ⟨a0, a1, a2, a3, a7, a30, a31⟩ := hSw.out; clear hSw; go_simp; (try with_reducible rfl))
        try simp only [Act.put, List.setIfInBounds_toArray, List.set_cons_zero, List.set_cons_succ]
        refine held_read hO (i := 8) rfl rfl (by kernel_rfl) (fun _ _ _ _ h => h) ?_ hHeld ?_ ?_
        rotate_left 1
        · (intro w hSw; obtain ⟨_, _, hSw⟩ := (hSp.out _).1 hSw; obtain ⟨a0, a1, a2, a3, a7, a30, a31⟩ := hSw.out; clear hSw; go_simp; (try with_reducible rfl))
        try simp only [Act.put, List.setIfInBounds_toArray, List.set_cons_zero, List.set_cons_succ]
        refine held_skip hO (i := 9) rfl (by kernel_rfl) (by kernel_rfl) (fun _ _ _ _ h => h) hHeld ?_
        try simp only [Act.put, List.setIfInBounds_toArray, List.set_cons_zero, List.set_cons_succ]
        refine held_skip hO (i := 10) rfl (by kernel_rfl) (by kernel_rfl) (fun _ _ _ _ h => h) hHeld ?_
        try simp only [Act.put, List.setIfInBounds_toArray, List.set_cons_zero, List.set_cons_succ]
        refine held_skip hO (i := 11) rfl (by kernel_rfl) (by kernel_rfl) (fun _ _ _ _ h => h) hHeld ?_
        try simp only [Act.put, List.setIfInBounds_toArray, List.set_cons_zero, List.set_cons_succ]
        refine held_read hO (i := 12) rfl rfl (by kernel_rfl) (fun _ _ _ _ h => h) ?_ hHeld ?_ ?_
        rotate_left 1
        · (intro w hSw; obtain ⟨_, _, hSw⟩ := (hSp.out _).1 hSw; obtain ⟨a0, a1, a2, a3, a7, a30, a31⟩ := hSw.out; clear hSw; go_simp; (try with_reducible rfl))
        try simp only [Act.put, List.setIfInBounds_toArray, List.set_cons_zero, List.set_cons_succ]
        refine held_read hO (i := 13) rfl rfl (by kernel_rfl) (fun _ _ _ _ h => h) ?_ hHeld ?_ ?_
        rotate_left 1
        · (intro w hSw; obtain ⟨_, _, hSw⟩ := (hSp.out _).1 hSw; obtain ⟨a0, a1, a2, a3, a7, a30, a31⟩ := hSw.out; clear hSw; go_simp; (try with_reducible rfl))
        try simp only [Act.put, List.setIfInBounds_toArray, List.set_cons_zero, List.set_cons_succ]
        refine held_take hO (i := 14) rfl (by kernel_rfl) (by kernel_rfl) (fun _ _ _ _ h => h) ?_ hHeld ?_ ?_
        rotate_left 1
        · (intro w hSw; obtain ⟨_, _, hSw⟩ := (hSp.out _).1 hSw; obtain ⟨a0, a1, a2, a3, a7, a30, a31⟩ := hSw.out; clear hSw; go_simp; (try with_reducible rfl))
        try simp only [Act.put, List.setIfInBounds_toArray, List.set_cons_zero, List.set_cons_succ]
        refine held_take hO (i := 15) rfl (by kernel_rfl) (by kernel_rfl) (fun _ _ _ _ h => h) ?_ hHeld ?_ ?_
        rotate_left 1
        · (intro w hSw; obtain ⟨_, _, hSw⟩ := (hSp.out _).1 hSw; obtain ⟨a0, a1, a2, a3, a7, a30, a31⟩ := hSw.out; clear hSw; go_simp; (try with_reducible rfl))
        try simp only [Act.put, List.setIfInBounds_toArray, List.set_cons_zero, List.set_cons_succ]
        refine held_take hO (i := 16) rfl (by kernel_rfl) (by kernel_rfl) (fun _ _ _ _ h => h) ?_ hHeld ?_ ?_
        rotate_left 1
        · (intro w hSw; obtain ⟨_, _, hSw⟩ := (hSp.out _).1 hSw; obtain ⟨a0, a1, a2, a3, a7, a30, a31⟩ := hSw.out; clear hSw; go_simp; (try with_reducible rfl))
        try simp only [Act.put, List.setIfInBounds_toArray, List.set_cons_zero, List.set_cons_succ]
        refine held_skip hO (i := 17) rfl (by kernel_rfl) (by kernel_rfl) (fun _ _ _ _ h => h) hHeld ?_
        try simp only [Act.put, List.setIfInBounds_toArray, List.set_cons_zero, List.set_cons_succ]
        refine held_skip hO (i := 18) rfl (by kernel_rfl) (by kernel_rfl) (fun _ _ _ _ h => h) hHeld ?_
        try simp only [Act.put, List.setIfInBounds_toArray, List.set_cons_zero, List.set_cons_succ]
        refine held_skip hO (i := 19) rfl (by kernel_rfl) (by kernel_rfl) (fun _ _ _ _ h => h) hHeld ?_
        try simp only [Act.put, List.setIfInBounds_toArray, List.set_cons_zero, List.set_cons_succ]
        refine held_skip hO (i := 20) rfl (by kernel_rfl) (by kernel_rfl) (fun _ _ _ _ h => h) hHeld ?_
        try simp only [Act.put, List.setIfInBounds_toArray, List.set_cons_zero, List.set_cons_succ]
        refine held_skip hO (i := 21) rfl (by kernel_rfl) (by kernel_rfl) (fun _ _ _ _ h => h) hHeld ?_
        try simp only [Act.put, List.setIfInBounds_toArray, List.set_cons_zero, List.set_cons_succ]
        refine held_skip hO (i := 22) rfl (by kernel_rfl) (by kernel_rfl) (fun _ _ _ _ h => h) hHeld ?_
        try simp only [Act.put, List.setIfInBounds_toArray, List.set_cons_zero, List.set_cons_succ]
        refine held_skip hO (i := 23) rfl (by kernel_rfl) (by kernel_rfl) (fun _ _ _ _ h => h) hHeld ?_
        try simp only [Act.put, List.setIfInBounds_toArray, List.set_cons_zero, List.set_cons_succ]
        refine held_skip hO (i := 24) rfl (by kernel_rfl) (by kernel_rfl) (fun _ _ _ _ h => h) hHeld ?_
        try simp only [Act.put, List.setIfInBounds_toArray, List.set_cons_zero, List.set_cons_succ]
        refine held_skip hO (i := 25) rfl (by kernel_rfl) (by kernel_rfl) (fun _ _ _ _ h => h) hHeld ?_
        try simp only [Act.put, List.setIfInBounds_toArray, List.set_cons_zero, List.set_cons_succ]
        refine held_take hO (i := 26) rfl (by kernel_rfl) (by kernel_rfl) (fun _ _ _ _ h => h) ?_ hHeld ?_ ?_
        rotate_left 1
        · (intro w hSw; obtain ⟨_, _, hSw⟩ := (hSp.out _).1 hSw; obtain ⟨a0, a1, a2, a3, a7, a30, a31⟩ := hSw.out; clear hSw; go_simp; (try with_reducible rfl))
        try simp only [Act.put, List.setIfInBounds_toArray, List.set_cons_zero, List.set_cons_succ]
        refine held_read hO (i := 27) rfl rfl (by kernel_rfl) (fun _ _ _ _ h => h) ?_ hHeld ?_ ?_
        rotate_left 1
        · (intro w hSw; obtain ⟨_, _, hSw⟩ := (hSp.out _).1 hSw; obtain ⟨a0, a1, a2, a3, a7, a30, a31⟩ := hSw.out; clear hSw; go_simp; (try with_reducible rfl))
        try simp only [Act.put, List.setIfInBounds_toArray, List.set_cons_zero, List.set_cons_succ]
        refine held_done hO (by kernel_rfl) ?_
        clear hO O
        have HBh := Lib.hid ((hSp.out _).1 hHeld).1
        have HOh := Lib.hid ((hSp.out _).1 hHeld).2.1
        clear hHeld
        go_wp2_with fail
        go_meet
        case rel => exact ⟨by rw [HZ.out], HBh, HOh⟩
      · have e3 := (HWn.out y e2).2
        have HCz := Lib.hid hcl
        have HZ : Hid (c4 = !(y.dn.ks == sid)) := by rw [← HC4.out, HL.out, e3]; rfl
        clear HWo HWn HFd e2 e3 HC4 HL HLo hcl
        subst e1
        generalize y.dn.ks = z at *
        have hii : (i : Int) < (l.length : Int) := by omega
        have qi : decide ((i : Int) < 0) = false := decide_eq_false (by omega)
        obtain ⟨Sp, hSp⟩ : ∃ Sp : World → Prop, Hid (∀ w', Sp w' ↔ (Below w.heap.size w w' ∧ Holds w' E5 45 R5 ∧ Hid (w'.cell? ⟨E5, 0, none⟩ = some (.int .i64 4) ∧ w'.cell? ⟨E5, 1, none⟩ = some (.int .i64 se) ∧ w'.cell? ⟨E5, 2, none⟩ = some (.int .i64 nu) ∧ w'.cell? ⟨E5, 3, none⟩ = some (.int .i64 wh) ∧ w'.cell? ⟨E5, 7, none⟩ = some (.int .i64 sid) ∧ w'.cell? ⟨E5, 30, none⟩ = some (.int .i64 kh) ∧ w'.cell? ⟨E5, 31, none⟩ = some (.int .i64 ks)) ∧ w'.cell? ⟨b, off + i * 34 + 31, none⟩ = some (.int .i64 z))) := ⟨_, Lib.hid fun _ => Iff.rfl⟩
        refine wp_region_held_gen Sp (by kernel_rfl) ((hSp.out _).2 ⟨HB4.out.drew, HO4.out, HRd.out (World.drew wD) HO4.out, HCz.out _ HB4.out.drew⟩) ?_
        have hHeld : Sp _ := (hSp.out (World.drew _)).2 ⟨HB4.out.drew, HO4.out, HRd.out (World.drew wD) HO4.out, HCz.out _ HB4.out.drew⟩
        intro O hO
        refine held_read hO (i := 0) rfl rfl (by kernel_rfl) (fun _ _ _ _ h => h) ?_ hHeld ?_ ?_
        rotate_left 1
        · (intro w hSw; obtain ⟨_, _, hSw, azz⟩ := (hSp.out _).1 hSw; obtain ⟨a0, a1, a2, a3, a7, a30, a31⟩ := hSw.out; clear hSw; go_simp; (try with_reducible rfl))
        try simp only [Act.put, List.setIfInBounds_toArray, List.set_cons_zero, List.set_cons_succ]
        refine held_read hO (i := 1) rfl rfl (by kernel_rfl) (fun _ _ _ _ h => h) ?_ hHeld ?_ ?_
        rotate_left 1
        · (intro w hSw; obtain ⟨_, _, hSw, azz⟩ := (hSp.out _).1 hSw; obtain ⟨a0, a1, a2, a3, a7, a30, a31⟩ := hSw.out; clear hSw; go_simp; (try with_reducible rfl))
        try simp only [Act.put, List.setIfInBounds_toArray, List.set_cons_zero, List.set_cons_succ]
        refine held_read hO (i := 2) rfl rfl (by kernel_rfl) (fun _ _ _ _ h => h) ?_ hHeld ?_ ?_
        rotate_left 1
        · (intro w hSw; obtain ⟨_, _, hSw, azz⟩ := (hSp.out _).1 hSw; obtain ⟨a0, a1, a2, a3, a7, a30, a31⟩ := hSw.out; clear hSw; go_simp; (try with_reducible rfl))
        try simp only [Act.put, List.setIfInBounds_toArray, List.set_cons_zero, List.set_cons_succ]
        refine held_read hO (i := 3) rfl rfl (by kernel_rfl) (fun _ _ _ _ h => h) ?_ hHeld ?_ ?_
        rotate_left 1
        · (intro w hSw; obtain ⟨_, _, hSw, azz⟩ := (hSp.out _).1 hSw; obtain ⟨a0, a1, a2, a3, a7, a30, a31⟩ := hSw.out; clear hSw; go_simp; (try with_reducible rfl))
        try simp only [Act.put, List.setIfInBounds_toArray, List.set_cons_zero, List.set_cons_succ]
        refine held_take hO (i := 4) rfl (by kernel_rfl) (by kernel_rfl) (fun _ _ _ _ h => h) ?_ hHeld ?_ ?_
        rotate_left 1
        · (intro w hSw; obtain ⟨_, _, hSw, azz⟩ := (hSp.out _).1 hSw; obtain ⟨a0, a1, a2, a3, a7, a30, a31⟩ := hSw.out; clear hSw; go_simp; (try with_reducible rfl))
        try simp only [Act.put, List.setIfInBounds_toArray, List.set_cons_zero, List.set_cons_succ]
        refine held_take hO (i := 5) rfl (by kernel_rfl) (by kernel_rfl) (fun _ _ _ _ h => h) ?_ hHeld ?_ ?_
        rotate_left 1
        · (intro w hSw; obtain ⟨_, _, hSw, azz⟩ := (hSp.out _).1 hSw; obtain ⟨a0, a1, a2, a3, a7, a30, a31⟩ := hSw.out; clear hSw; go_simp; (try with_reducible rfl))
        try simp only [Act.put, List.setIfInBounds_toArray, List.set_cons_zero, List.set_cons_succ]
        refine held_take hO (i := 6) rfl (by kernel_rfl) (by kernel_rfl) (fun _ _ _ _ h => h) ?_ hHeld ?_ ?_
        rotate_left 1
        · (intro w hSw; obtain ⟨_, _, hSw, azz⟩ := (hSp.out _).1 hSw; obtain ⟨a0, a1, a2, a3, a7, a30, a31⟩ := hSw.out; clear hSw; go_simp; (try with_reducible rfl))
        try simp only [Act.put, List.setIfInBounds_toArray, List.set_cons_zero, List.set_cons_succ]
        refine held_read hO (i := 7) rfl rfl (by kernel_rfl) (fun _ _ _ _ h => h) ?_ hHeld ?_ ?_
        rotate_left 1
        · (intro w hSw; obtain ⟨_, _, hSw, azz⟩ := (hSp.out _).1 hSw; obtain ⟨a0, a1, a2, a3, a7, a30, a31⟩ := hSw.out; clear hSw; go_simp; (try with_reducible rfl))
        try simp only [Act.put, List.setIfInBounds_toArray, List.set_cons_zero, List.set_cons_succ]
        refine held_read hO (i := 8) rfl rfl (by kernel_rfl) (fun _ _ _ _ h => h) ?_ hHeld ?_ ?_
        rotate_left 1
        · (intro w hSw; obtain ⟨_, _, hSw, azz⟩ := (hSp.out _).1 hSw; obtain ⟨a0, a1, a2, a3, a7, a30, a31⟩ := hSw.out; clear hSw; go_simp; (try with_reducible rfl))
        try simp only [Act.put, List.setIfInBounds_toArray, List.set_cons_zero, List.set_cons_succ]
        refine held_skip hO (i := 9) rfl (by kernel_rfl) (by kernel_rfl) (fun _ _ _ _ h => h) hHeld ?_
        try simp only [Act.put, List.setIfInBounds_toArray, List.set_cons_zero, List.set_cons_succ]
        refine held_skip hO (i := 10) rfl (by kernel_rfl) (by kernel_rfl) (fun _ _ _ _ h => h) hHeld ?_
        try simp only [Act.put, List.setIfInBounds_toArray, List.set_cons_zero, List.set_cons_succ]
        refine held_skip hO (i := 11) rfl (by kernel_rfl) (by kernel_rfl) (fun _ _ _ _ h => h) hHeld ?_
        try simp only [Act.put, List.setIfInBounds_toArray, List.set_cons_zero, List.set_cons_succ]
        refine held_read hO (i := 12) rfl rfl (by kernel_rfl) (fun _ _ _ _ h => h) ?_ hHeld ?_ ?_
        rotate_left 1
        · (intro w hSw; obtain ⟨_, _, hSw, azz⟩ := (hSp.out _).1 hSw; obtain ⟨a0, a1, a2, a3, a7, a30, a31⟩ := hSw.out; clear hSw; go_simp; (try with_reducible rfl))
        try simp only [Act.put, List.setIfInBounds_toArray, List.set_cons_zero, List.set_cons_succ]
        refine held_read hO (i := 13) rfl rfl (by kernel_rfl) (fun _ _ _ _ h => h) ?_ hHeld ?_ ?_
        rotate_left 1
        · (intro w hSw; obtain ⟨_, _, hSw, azz⟩ := (hSp.out _).1 hSw; obtain ⟨a0, a1, a2, a3, a7, a30, a31⟩ := hSw.out; clear hSw; go_simp; (try with_reducible rfl))
        try simp only [Act.put, List.setIfInBounds_toArray, List.set_cons_zero, List.set_cons_succ]
        refine held_take hO (i := 14) rfl (by kernel_rfl) (by kernel_rfl) (fun _ _ _ _ h => h) ?_ hHeld ?_ ?_
        rotate_left 1
        · (intro w hSw; obtain ⟨_, _, hSw, azz⟩ := (hSp.out _).1 hSw; obtain ⟨a0, a1, a2, a3, a7, a30, a31⟩ := hSw.out; clear hSw; go_simp; (try with_reducible rfl))
        try simp only [Act.put, List.setIfInBounds_toArray, List.set_cons_zero, List.set_cons_succ]
        refine held_take hO (i := 15) rfl (by kernel_rfl) (by kernel_rfl) (fun _ _ _ _ h => h) ?_ hHeld ?_ ?_
        rotate_left 1
        · (intro w hSw; obtain ⟨_, _, hSw, azz⟩ := (hSp.out _).1 hSw; obtain ⟨a0, a1, a2, a3, a7, a30, a31⟩ := hSw.out; clear hSw; go_simp; (try with_reducible rfl))
        try simp only [Act.put, List.setIfInBounds_toArray, List.set_cons_zero, List.set_cons_succ]
        refine held_take hO (i := 16) rfl (by kernel_rfl) (by kernel_rfl) (fun _ _ _ _ h => h) ?_ hHeld ?_ ?_
        rotate_left 1
        · (intro w hSw; obtain ⟨_, _, hSw, azz⟩ := (hSp.out _).1 hSw; obtain ⟨a0, a1, a2, a3, a7, a30, a31⟩ := hSw.out; clear hSw; go_simp; (try with_reducible rfl))
        try simp only [Act.put, List.setIfInBounds_toArray, List.set_cons_zero, List.set_cons_succ]
        refine held_take hO (i := 17) rfl (by kernel_rfl) (by kernel_rfl) (fun _ _ _ _ h => h) ?_ hHeld ?_ ?_
        rotate_left 1
        · (intro w hSw; obtain ⟨_, _, hSw, azz⟩ := (hSp.out _).1 hSw; obtain ⟨a0, a1, a2, a3, a7, a30, a31⟩ := hSw.out; clear hSw; go_simp; (try with_reducible rfl))
        try simp only [Act.put, List.setIfInBounds_toArray, List.set_cons_zero, List.set_cons_succ]
        refine held_take hO (i := 18) rfl (by kernel_rfl) (by kernel_rfl) (fun _ _ _ _ h => h) ?_ hHeld ?_ ?_
        rotate_left 1
        · (intro w hSw; obtain ⟨_, _, hSw, azz⟩ := (hSp.out _).1 hSw; obtain ⟨a0, a1, a2, a3, a7, a30, a31⟩ := hSw.out; clear hSw; go_simp; (try with_reducible rfl))
        try simp only [Act.put, List.setIfInBounds_toArray, List.set_cons_zero, List.set_cons_succ]
        refine held_take hO (i := 19) rfl (by kernel_rfl) (by kernel_rfl) (fun _ _ _ _ h => h) ?_ hHeld ?_ ?_
        rotate_left 1
        · (intro w hSw; obtain ⟨_, _, hSw, azz⟩ := (hSp.out _).1 hSw; obtain ⟨a0, a1, a2, a3, a7, a30, a31⟩ := hSw.out; clear hSw; go_simp; (try with_reducible rfl))
        try simp only [Act.put, List.setIfInBounds_toArray, List.set_cons_zero, List.set_cons_succ]
        refine held_take hO (i := 20) rfl (by kernel_rfl) (by kernel_rfl) (fun _ _ _ _ h => h) ?_ hHeld ?_ ?_
        rotate_left 1
        · (intro w hSw; obtain ⟨_, _, hSw, azz⟩ := (hSp.out _).1 hSw; obtain ⟨a0, a1, a2, a3, a7, a30, a31⟩ := hSw.out; clear hSw; go_simp; (try with_reducible rfl))
        try simp only [Act.put, List.setIfInBounds_toArray, List.set_cons_zero, List.set_cons_succ]
        refine held_take hO (i := 21) rfl (by kernel_rfl) (by kernel_rfl) (fun _ _ _ _ h => h) ?_ hHeld ?_ ?_
        rotate_left 1
        · (intro w hSw; obtain ⟨_, _, hSw, azz⟩ := (hSp.out _).1 hSw; obtain ⟨a0, a1, a2, a3, a7, a30, a31⟩ := hSw.out; clear hSw; go_simp; (try with_reducible rfl))
        try simp only [Act.put, List.setIfInBounds_toArray, List.set_cons_zero, List.set_cons_succ]
        refine held_take hO (i := 22) rfl (by kernel_rfl) (by kernel_rfl) (fun _ _ _ _ h => h) ?_ hHeld ?_ ?_
        rotate_left 1
        · (intro w hSw; obtain ⟨_, _, hSw, azz⟩ := (hSp.out _).1 hSw; obtain ⟨a0, a1, a2, a3, a7, a30, a31⟩ := hSw.out; clear hSw; go_simp; (try with_reducible rfl))
        try simp only [Act.put, List.setIfInBounds_toArray, List.set_cons_zero, List.set_cons_succ]
        refine held_take hO (i := 23) rfl (by kernel_rfl) (by kernel_rfl) (fun _ _ _ _ h => h) ?_ hHeld ?_ ?_
        rotate_left 1
        · (intro w hSw; obtain ⟨_, _, hSw, azz⟩ := (hSp.out _).1 hSw; obtain ⟨a0, a1, a2, a3, a7, a30, a31⟩ := hSw.out; clear hSw; go_simp; (try with_reducible rfl))
        try simp only [Act.put, List.setIfInBounds_toArray, List.set_cons_zero, List.set_cons_succ]
        refine held_take hO (i := 24) rfl (by kernel_rfl) (by kernel_rfl) (fun _ _ _ _ h => h) ?_ hHeld ?_ ?_
        rotate_left 1
        · (intro w hSw; obtain ⟨_, _, hSw, azz⟩ := (hSp.out _).1 hSw; obtain ⟨a0, a1, a2, a3, a7, a30, a31⟩ := hSw.out; clear hSw; go_simp; (try with_reducible rfl))
        try simp only [Act.put, List.setIfInBounds_toArray, List.set_cons_zero, List.set_cons_succ]
        refine held_take hO (i := 25) rfl (by kernel_rfl) (by kernel_rfl) (fun _ _ _ _ h => h) ?_ hHeld ?_ ?_
        rotate_left 1
        · (intro w hSw; obtain ⟨_, _, hSw, azz⟩ := (hSp.out _).1 hSw; obtain ⟨a0, a1, a2, a3, a7, a30, a31⟩ := hSw.out; clear hSw; go_simp; (try with_reducible rfl))
        try simp only [Act.put, List.setIfInBounds_toArray, List.set_cons_zero, List.set_cons_succ]
        refine held_take hO (i := 26) rfl (by kernel_rfl) (by kernel_rfl) (fun _ _ _ _ h => h) ?_ hHeld ?_ ?_
        rotate_left 1
        · (intro w hSw; obtain ⟨_, _, hSw, azz⟩ := (hSp.out _).1 hSw; obtain ⟨a0, a1, a2, a3, a7, a30, a31⟩ := hSw.out; clear hSw; go_simp; (try with_reducible rfl))
        try simp only [Act.put, List.setIfInBounds_toArray, List.set_cons_zero, List.set_cons_succ]
        refine held_read hO (i := 27) rfl rfl (by kernel_rfl) (fun _ _ _ _ h => h) ?_ hHeld ?_ ?_
        rotate_left 1
        · (intro w hSw; obtain ⟨_, _, hSw, azz⟩ := (hSp.out _).1 hSw; obtain ⟨a0, a1, a2, a3, a7, a30, a31⟩ := hSw.out; clear hSw; go_simp; (try with_reducible rfl))
        try simp only [Act.put, List.setIfInBounds_toArray, List.set_cons_zero, List.set_cons_succ]
        refine held_done hO (by kernel_rfl) ?_
        clear hO O
        have HBh := Lib.hid ((hSp.out _).1 hHeld).1
        have HOh := Lib.hid ((hSp.out _).1 hHeld).2.1
        clear hHeld
        go_wp2_with fail
        go_meet
        case rel => exact ⟨by rw [HZ.out]; rfl, HBh, HOh⟩
    have q4 : (ki == 4) = false := beq_eq_false_iff_ne.2 h4
    by_cases h5 : ki = 5
    · subst h5
      have HL : Hid (lok = true) := HLo.out.trans rfl
      rcases HFd.out with ⟨e1, e2⟩ | ⟨i, y, e1, hi, e2, hcl⟩
      · have e3 := (HWo.out e2).2
        have HZ : Hid (c4 = true) := by rw [← HC4.out, HL.out, e3]; rfl
        clear HWo HWn HFd e2 e3 HC4 HL HLo
        subst e1
        obtain ⟨Sp, hSp⟩ : ∃ Sp : World → Prop, Hid (∀ w', Sp w' ↔ (Below w.heap.size w w' ∧ Holds w' E5 45 R5 ∧ Hid (w'.cell? ⟨E5, 0, none⟩ = some (.int .i64 5) ∧ w'.cell? ⟨E5, 1, none⟩ = some (.int .i64 se) ∧ w'.cell? ⟨E5, 2, none⟩ = some (.int .i64 nu) ∧ w'.cell? ⟨E5, 3, none⟩ = some (.int .i64 wh) ∧ w'.cell? ⟨E5, 7, none⟩ = some (.int .i64 sid) ∧ w'.cell? ⟨E5, 30, none⟩ = some (.int .i64 kh) ∧ w'.cell? ⟨E5, 31, none⟩ = some (.int .i64 ks)))) := ⟨_, Lib.hid fun _ => Iff.rfl⟩
        refine wp_region_held_gen Sp (by kernel_rfl) ((hSp.out _).2 ⟨HB4.out.drew, HO4.out, HRd.out (World.drew wD) HO4.out⟩) ?_
        have hHeld : Sp _ := (hSp.out (World.drew _)).2 ⟨HB4.out.drew, HO4.out, HRd.out (World.drew wD) HO4.out⟩
        intro O hO
        refine held_read hO (i := 0) rfl rfl (by kernel_rfl) (fun _ _ _ _ h => h) ?_ hHeld ?_ ?_
        rotate_left 1
        · (intro w hSw; obtain ⟨_, _, hSw⟩ := (hSp.out _).1 hSw; obtain ⟨a0, a1, a2, a3, a7, a30, a31⟩ := hSw.out; clear hSw; go_simp; (try with_reducible rfl))
        try simp only [Act.put, List.setIfInBounds_toArray, List.set_cons_zero, List.set_cons_succ]
        refine held_read hO (i := 1) rfl rfl (by kernel_rfl) (fun _ _ _ _ h => h) ?_ hHeld ?_ ?_
        rotate_left 1
        · (intro w hSw; obtain ⟨_, _, hSw⟩ := (hSp.out _).1 hSw; obtain ⟨a0, a1, a2, a3, a7, a30, a31⟩ := hSw.out; clear hSw; go_simp; (try with_reducible rfl))
        try simp only [Act.put, List.setIfInBounds_toArray, List.set_cons_zero, List.set_cons_succ]
        refine held_read hO (i := 2) rfl rfl (by kernel_rfl) (fun _ _ _ _ h => h) ?_ hHeld ?_ ?_
        rotate_left 1
        · (intro w hSw; obtain ⟨_, _, hSw⟩ := (hSp.out _).1 hSw; obtain ⟨a0, a1, a2, a3, a7, a30, a31⟩ := hSw.out; clear hSw; go_simp; (try with_reducible rfl))
        try simp only [Act.put, List.setIfInBounds_toArray, List.set_cons_zero, List.set_cons_succ]
        refine held_read hO (i := 3) rfl rfl (by kernel_rfl) (fun _ _ _ _ h => h) ?_ hHeld ?_ ?_
        rotate_left 1
        · (intro w hSw; obtain ⟨_, _, hSw⟩ := (hSp.out _).1 hSw; obtain ⟨a0, a1, a2, a3, a7, a30, a31⟩ := hSw.out; clear hSw; go_simp; (try with_reducible rfl))
        try simp only [Act.put, List.setIfInBounds_toArray, List.set_cons_zero, List.set_cons_succ]
        refine held_take hO (i := 4) rfl (by kernel_rfl) (by kernel_rfl) (fun _ _ _ _ h => h) ?_ hHeld ?_ ?_
        rotate_left 1
        · (intro w hSw; obtain ⟨_, _, hSw⟩ := (hSp.out _).1 hSw; obtain ⟨a0, a1, a2, a3, a7, a30, a31⟩ := hSw.out; clear hSw; go_simp; (try with_reducible rfl))
        try simp only [Act.put, List.setIfInBounds_toArray, List.set_cons_zero, List.set_cons_succ]
        refine held_take hO (i := 5) rfl (by kernel_rfl) (by kernel_rfl) (fun _ _ _ _ h => h) ?_ hHeld ?_ ?_
        rotate_left 1
        · (intro w hSw; obtain ⟨_, _, hSw⟩ := (hSp.out _).1 hSw; obtain ⟨a0, a1, a2, a3, a7, a30, a31⟩ := hSw.out; clear hSw; go_simp; (try with_reducible rfl))
        try simp only [Act.put, List.setIfInBounds_toArray, List.set_cons_zero, List.set_cons_succ]
        refine held_take hO (i := 6) rfl (by kernel_rfl) (by kernel_rfl) (fun _ _ _ _ h => h) ?_ hHeld ?_ ?_
        rotate_left 1
        · (intro w hSw; obtain ⟨_, _, hSw⟩ := (hSp.out _).1 hSw; obtain ⟨a0, a1, a2, a3, a7, a30, a31⟩ := hSw.out; clear hSw; go_simp; (try with_reducible rfl))
        try simp only [Act.put, List.setIfInBounds_toArray, List.set_cons_zero, List.set_cons_succ]
        refine held_read hO (i := 7) rfl rfl (by kernel_rfl) (fun _ _ _ _ h => h) ?_ hHeld ?_ ?_
        rotate_left 1
        · (intro w hSw; obtain ⟨_, _, hSw⟩ := (hSp.out _).1 hSw; obtain ⟨a0, a1, a2, a3, a7, a30, a31⟩ := hSw.out; clear hSw; go_simp; (try with_reducible rfl))
        try simp only [Act.put, List.setIfInBounds_toArray, List.set_cons_zero, List.set_cons_succ]
        refine held_read hO (i := 8) rfl rfl (by kernel_rfl) (fun _ _ _ _ h => h) ?_ hHeld ?_ ?_
        rotate_left 1
        · (intro w hSw; obtain ⟨_, _, hSw⟩ := (hSp.out _).1 hSw; obtain ⟨a0, a1, a2, a3, a7, a30, a31⟩ := hSw.out; clear hSw; go_simp; (try with_reducible rfl))
        try simp only [Act.put, List.setIfInBounds_toArray, List.set_cons_zero, List.set_cons_succ]
        refine held_take hO (i := 9) rfl (by kernel_rfl) (by kernel_rfl) (fun _ _ _ _ h => h) ?_ hHeld ?_ ?_
        rotate_left 1
        · (intro w hSw; obtain ⟨_, _, hSw⟩ := (hSp.out _).1 hSw; obtain ⟨a0, a1, a2, a3, a7, a30, a31⟩ := hSw.out; clear hSw; go_simp; (try with_reducible rfl))
        try simp only [Act.put, List.setIfInBounds_toArray, List.set_cons_zero, List.set_cons_succ]
        refine held_take hO (i := 10) rfl (by kernel_rfl) (by kernel_rfl) (fun _ _ _ _ h => h) ?_ hHeld ?_ ?_
        rotate_left 1
        · (intro w hSw; obtain ⟨_, _, hSw⟩ := (hSp.out _).1 hSw; obtain ⟨a0, a1, a2, a3, a7, a30, a31⟩ := hSw.out; clear hSw; go_simp; (try with_reducible rfl))
        try simp only [Act.put, List.setIfInBounds_toArray, List.set_cons_zero, List.set_cons_succ]
        refine held_take hO (i := 11) rfl (by kernel_rfl) (by kernel_rfl) (fun _ _ _ _ h => h) ?_ hHeld ?_ ?_
        rotate_left 1
        · (intro w hSw; obtain ⟨_, _, hSw⟩ := (hSp.out _).1 hSw; obtain ⟨a0, a1, a2, a3, a7, a30, a31⟩ := hSw.out; clear hSw; go_simp; (try with_reducible rfl))
        try simp only [Act.put, List.setIfInBounds_toArray, List.set_cons_zero, List.set_cons_succ]
        refine held_read hO (i := 12) rfl rfl (by kernel_rfl) (fun _ _ _ _ h => h) ?_ hHeld ?_ ?_
        rotate_left 1
        · (intro w hSw; obtain ⟨_, _, hSw⟩ := (hSp.out _).1 hSw; obtain ⟨a0, a1, a2, a3, a7, a30, a31⟩ := hSw.out; clear hSw; go_simp; (try with_reducible rfl))
        try simp only [Act.put, List.setIfInBounds_toArray, List.set_cons_zero, List.set_cons_succ]
        refine held_read hO (i := 13) rfl rfl (by kernel_rfl) (fun _ _ _ _ h => h) ?_ hHeld ?_ ?_
        rotate_left 1
        · (intro w hSw; obtain ⟨_, _, hSw⟩ := (hSp.out _).1 hSw; obtain ⟨a0, a1, a2, a3, a7, a30, a31⟩ := hSw.out; clear hSw; go_simp; (try with_reducible rfl))
        try simp only [Act.put, List.setIfInBounds_toArray, List.set_cons_zero, List.set_cons_succ]
        refine held_take hO (i := 14) rfl (by kernel_rfl) (by kernel_rfl) (fun _ _ _ _ h => h) ?_ hHeld ?_ ?_
        rotate_left 1
        · (intro w hSw; obtain ⟨_, _, hSw⟩ := (hSp.out _).1 hSw; obtain ⟨a0, a1, a2, a3, a7, a30, a31⟩ := hSw.out; clear hSw; go_simp; (try with_reducible rfl))
        try simp only [Act.put, List.setIfInBounds_toArray, List.set_cons_zero, List.set_cons_succ]
        refine held_take hO (i := 15) rfl (by kernel_rfl) (by kernel_rfl) (fun _ _ _ _ h => h) ?_ hHeld ?_ ?_
        rotate_left 1
        · (intro w hSw; obtain ⟨_, _, hSw⟩ := (hSp.out _).1 hSw; obtain ⟨a0, a1, a2, a3, a7, a30, a31⟩ := hSw.out; clear hSw; go_simp; (try with_reducible rfl))
        try simp only [Act.put, List.setIfInBounds_toArray, List.set_cons_zero, List.set_cons_succ]
        refine held_take hO (i := 16) rfl (by kernel_rfl) (by kernel_rfl) (fun _ _ _ _ h => h) ?_ hHeld ?_ ?_
        rotate_left 1
        · (intro w hSw; obtain ⟨_, _, hSw⟩ := (hSp.out _).1 hSw; obtain ⟨a0, a1, a2, a3, a7, a30, a31⟩ := hSw.out; clear hSw; go_simp; (try with_reducible rfl))
        try simp only [Act.put, List.setIfInBounds_toArray, List.set_cons_zero, List.set_cons_succ]
        refine held_skip hO (i := 17) rfl (by kernel_rfl) (by kernel_rfl) (fun _ _ _ _ h => h) hHeld ?_
        try simp only [Act.put, List.setIfInBounds_toArray, List.set_cons_zero, List.set_cons_succ]
        refine held_skip hO (i := 18) rfl (by kernel_rfl) (by kernel_rfl) (fun _ _ _ _ h => h) hHeld ?_
        try simp only [Act.put, List.setIfInBounds_toArray, List.set_cons_zero, List.set_cons_succ]
        refine held_skip hO (i := 19) rfl (by kernel_rfl) (by kernel_rfl) (fun _ _ _ _ h => h) hHeld ?_
        try simp only [Act.put, List.setIfInBounds_toArray, List.set_cons_zero, List.set_cons_succ]
        refine held_skip hO (i := 20) rfl (by kernel_rfl) (by kernel_rfl) (fun _ _ _ _ h => h) hHeld ?_
        try simp only [Act.put, List.setIfInBounds_toArray, List.set_cons_zero, List.set_cons_succ]
        refine held_skip hO (i := 21) rfl (by kernel_rfl) (by kernel_rfl) (fun _ _ _ _ h => h) hHeld ?_
        try simp only [Act.put, List.setIfInBounds_toArray, List.set_cons_zero, List.set_cons_succ]
        refine held_skip hO (i := 22) rfl (by kernel_rfl) (by kernel_rfl) (fun _ _ _ _ h => h) hHeld ?_
        try simp only [Act.put, List.setIfInBounds_toArray, List.set_cons_zero, List.set_cons_succ]
        refine held_skip hO (i := 23) rfl (by kernel_rfl) (by kernel_rfl) (fun _ _ _ _ h => h) hHeld ?_
        try simp only [Act.put, List.setIfInBounds_toArray, List.set_cons_zero, List.set_cons_succ]
        refine held_skip hO (i := 24) rfl (by kernel_rfl) (by kernel_rfl) (fun _ _ _ _ h => h) hHeld ?_
        try simp only [Act.put, List.setIfInBounds_toArray, List.set_cons_zero, List.set_cons_succ]
        refine held_skip hO (i := 25) rfl (by kernel_rfl) (by kernel_rfl) (fun _ _ _ _ h => h) hHeld ?_
        try simp only [Act.put, List.setIfInBounds_toArray, List.set_cons_zero, List.set_cons_succ]
        refine held_take hO (i := 26) rfl (by kernel_rfl) (by kernel_rfl) (fun _ _ _ _ h => h) ?_ hHeld ?_ ?_
        rotate_left 1
        · (intro w hSw; obtain ⟨_, _, hSw⟩ := (hSp.out _).1 hSw; obtain ⟨a0, a1, a2, a3, a7, a30, a31⟩ := hSw.out; clear hSw; go_simp; (try with_reducible rfl))
        try simp only [Act.put, List.setIfInBounds_toArray, List.set_cons_zero, List.set_cons_succ]
        refine held_read hO (i := 27) rfl rfl (by kernel_rfl) (fun _ _ _ _ h => h) ?_ hHeld ?_ ?_
        rotate_left 1
        · (intro w hSw; obtain ⟨_, _, hSw⟩ := (hSp.out _).1 hSw; obtain ⟨a0, a1, a2, a3, a7, a30, a31⟩ := hSw.out; clear hSw; go_simp; (try with_reducible rfl))
        try simp only [Act.put, List.setIfInBounds_toArray, List.set_cons_zero, List.set_cons_succ]
        refine held_done hO (by kernel_rfl) ?_
        clear hO O
        have HBh := Lib.hid ((hSp.out _).1 hHeld).1
        have HOh := Lib.hid ((hSp.out _).1 hHeld).2.1
        clear hHeld
        go_wp2_with fail
        go_meet
        case rel => exact ⟨by rw [HZ.out], HBh, HOh⟩
      · have e3 := (HWn.out y e2).2
        have HCz := Lib.hid hcl
        have HZ : Hid (c4 = !(y.dn.ks == sid)) := by rw [← HC4.out, HL.out, e3]; rfl
        clear HWo HWn HFd e2 e3 HC4 HL HLo hcl
        subst e1
        generalize y.dn.ks = z at *
        have hii : (i : Int) < (l.length : Int) := by omega
        have qi : decide ((i : Int) < 0) = false := decide_eq_false (by omega)
        obtain ⟨Sp, hSp⟩ : ∃ Sp : World → Prop, Hid (∀ w', Sp w' ↔ (Below w.heap.size w w' ∧ Holds w' E5 45 R5 ∧ Hid (w'.cell? ⟨E5, 0, none⟩ = some (.int .i64 5) ∧ w'.cell? ⟨E5, 1, none⟩ = some (.int .i64 se) ∧ w'.cell? ⟨E5, 2, none⟩ = some (.int .i64 nu) ∧ w'.cell? ⟨E5, 3, none⟩ = some (.int .i64 wh) ∧ w'.cell? ⟨E5, 7, none⟩ = some (.int .i64 sid) ∧ w'.cell? ⟨E5, 30, none⟩ = some (.int .i64 kh) ∧ w'.cell? ⟨E5, 31, none⟩ = some (.int .i64 ks)) ∧ w'.cell? ⟨b, off + i * 34 + 31, none⟩ = some (.int .i64 z))) := ⟨_, Lib.hid fun _ => Iff.rfl⟩
        refine wp_region_held_gen Sp (by kernel_rfl) ((hSp.out _).2 ⟨HB4.out.drew, HO4.out, HRd.out (World.drew wD) HO4.out, HCz.out _ HB4.out.drew⟩) ?_
        have hHeld : Sp _ := (hSp.out (World.drew _)).2 ⟨HB4.out.drew, HO4.out, HRd.out (World.drew wD) HO4.out, HCz.out _ HB4.out.drew⟩
        intro O hO
        refine held_read hO (i := 0) rfl rfl (by kernel_rfl) (fun _ _ _ _ h => h) ?_ hHeld ?_ ?_
        rotate_left 1
        · (intro w hSw; obtain ⟨_, _, hSw, azz⟩ := (hSp.out _).1 hSw; obtain ⟨a0, a1, a2, a3, a7, a30, a31⟩ := hSw.out; clear hSw; go_simp; (try with_reducible rfl))
        try simp only [Act.put, List.setIfInBounds_toArray, List.set_cons_zero, List.set_cons_succ]
        refine held_read hO (i := 1) rfl rfl (by kernel_rfl) (fun _ _ _ _ h => h) ?_ hHeld ?_ ?_
        rotate_left 1
        · (intro w hSw; obtain ⟨_, _, hSw, azz⟩ := (hSp.out _).1 hSw; obtain ⟨a0, a1, a2, a3, a7, a30, a31⟩ := hSw.out; clear hSw; go_simp; (try with_reducible rfl))
        try simp only [Act.put, List.setIfInBounds_toArray, List.set_cons_zero, List.set_cons_succ]
        refine held_read hO (i := 2) rfl rfl (by kernel_rfl) (fun _ _ _ _ h => h) ?_ hHeld ?_ ?_
        rotate_left 1
        · (intro w hSw; obtain ⟨_, _, hSw, azz⟩ := (hSp.out _).1 hSw; obtain ⟨a0, a1, a2, a3, a7, a30, a31⟩ := hSw.out; clear hSw; go_simp; (try with_reducible rfl))
        try simp only [Act.put, List.setIfInBounds_toArray, List.set_cons_zero, List.set_cons_succ]
        refine held_read hO (i := 3) rfl rfl (by kernel_rfl) (fun _ _ _ _ h => h) ?_ hHeld ?_ ?_
        rotate_left 1
        · (intro w hSw; obtain ⟨_, _, hSw, azz⟩ := (hSp.out _).1 hSw; obtain ⟨a0, a1, a2, a3, a7, a30, a31⟩ := hSw.out; clear hSw; go_simp; (try with_reducible rfl))
        try simp only [Act.put, List.setIfInBounds_toArray, List.set_cons_zero, List.set_cons_succ]
        refine held_take hO (i := 4) rfl (by kernel_rfl) (by kernel_rfl) (fun _ _ _ _ h => h) ?_ hHeld ?_ ?_
        rotate_left 1
        · (intro w hSw; obtain ⟨_, _, hSw, azz⟩ := (hSp.out _).1 hSw; obtain ⟨a0, a1, a2, a3, a7, a30, a31⟩ := hSw.out; clear hSw; go_simp; (try with_reducible rfl))
        try simp only [Act.put, List.setIfInBounds_toArray, List.set_cons_zero, List.set_cons_succ]
        refine held_take hO (i := 5) rfl (by kernel_rfl) (by kernel_rfl) (fun _ _ _ _ h => h) ?_ hHeld ?_ ?_
        rotate_left 1
        · (intro w hSw; obtain ⟨_, _, hSw, azz⟩ := (hSp.out _).1 hSw; obtain ⟨a0, a1, a2, a3, a7, a30, a31⟩ := hSw.out; clear hSw; go_simp; (try with_reducible rfl))
        try simp only [Act.put, List.setIfInBounds_toArray, List.set_cons_zero, List.set_cons_succ]
        refine held_take hO (i := 6) rfl (by kernel_rfl) (by kernel_rfl) (fun _ _ _ _ h => h) ?_ hHeld ?_ ?_
        rotate_left 1
        · (intro w hSw; obtain ⟨_, _, hSw, azz⟩ := (hSp.out _).1 hSw; obtain ⟨a0, a1, a2, a3, a7, a30, a31⟩ := hSw.out; clear hSw; go_simp; (try with_reducible rfl))
        try simp only [Act.put, List.setIfInBounds_toArray, List.set_cons_zero, List.set_cons_succ]
        refine held_read hO (i := 7) rfl rfl (by kernel_rfl) (fun _ _ _ _ h => h) ?_ hHeld ?_ ?_
        rotate_left 1
        · (intro w hSw; obtain ⟨_, _, hSw, azz⟩ := (hSp.out _).1 hSw; obtain ⟨a0, a1, a2, a3, a7, a30, a31⟩ := hSw.out; clear hSw; go_simp; (try with_reducible rfl))
        try simp only [Act.put, List.setIfInBounds_toArray, List.set_cons_zero, List.set_cons_succ]
        refine held_read hO (i := 8) rfl rfl (by kernel_rfl) (fun _ _ _ _ h => h) ?_ hHeld ?_ ?_
        rotate_left 1
        · (intro w hSw; obtain ⟨_, _, hSw, azz⟩ := (hSp.out _).1 hSw; obtain ⟨a0, a1, a2, a3, a7, a30, a31⟩ := hSw.out; clear hSw; go_simp; (try with_reducible rfl))
        try simp only [Act.put, List.setIfInBounds_toArray, List.set_cons_zero, List.set_cons_succ]
        refine held_take hO (i := 9) rfl (by kernel_rfl) (by kernel_rfl) (fun _ _ _ _ h => h) ?_ hHeld ?_ ?_
        rotate_left 1
        · (intro w hSw; obtain ⟨_, _, hSw, azz⟩ := (hSp.out _).1 hSw; obtain ⟨a0, a1, a2, a3, a7, a30, a31⟩ := hSw.out; clear hSw; go_simp; (try with_reducible rfl))
        try simp only [Act.put, List.setIfInBounds_toArray, List.set_cons_zero, List.set_cons_succ]
        refine held_take hO (i := 10) rfl (by kernel_rfl) (by kernel_rfl) (fun _ _ _ _ h => h) ?_ hHeld ?_ ?_
        rotate_left 1
        · (intro w hSw; obtain ⟨_, _, hSw, azz⟩ := (hSp.out _).1 hSw; obtain ⟨a0, a1, a2, a3, a7, a30, a31⟩ := hSw.out; clear hSw; go_simp; (try with_reducible rfl))
        try simp only [Act.put, List.setIfInBounds_toArray, List.set_cons_zero, List.set_cons_succ]
        refine held_take hO (i := 11) rfl (by kernel_rfl) (by kernel_rfl) (fun _ _ _ _ h => h) ?_ hHeld ?_ ?_
        rotate_left 1
        · (intro w hSw; obtain ⟨_, _, hSw, azz⟩ := (hSp.out _).1 hSw; obtain ⟨a0, a1, a2, a3, a7, a30, a31⟩ := hSw.out; clear hSw; go_simp; (try with_reducible rfl))
        try simp only [Act.put, List.setIfInBounds_toArray, List.set_cons_zero, List.set_cons_succ]
        refine held_read hO (i := 12) rfl rfl (by kernel_rfl) (fun _ _ _ _ h => h) ?_ hHeld ?_ ?_
        rotate_left 1
        · (intro w hSw; obtain ⟨_, _, hSw, azz⟩ := (hSp.out _).1 hSw; obtain ⟨a0, a1, a2, a3, a7, a30, a31⟩ := hSw.out; clear hSw; go_simp; (try with_reducible rfl))
        try simp only [Act.put, List.setIfInBounds_toArray, List.set_cons_zero, List.set_cons_succ]
        refine held_read hO (i := 13) rfl rfl (by kernel_rfl) (fun _ _ _ _ h => h) ?_ hHeld ?_ ?_
        rotate_left 1
        · (intro w hSw; obtain ⟨_, _, hSw, azz⟩ := (hSp.out _).1 hSw; obtain ⟨a0, a1, a2, a3, a7, a30, a31⟩ := hSw.out; clear hSw; go_simp; (try with_reducible rfl))
        try simp only [Act.put, List.setIfInBounds_toArray, List.set_cons_zero, List.set_cons_succ]
        refine held_take hO (i := 14) rfl (by kernel_rfl) (by kernel_rfl) (fun _ _ _ _ h => h) ?_ hHeld ?_ ?_
        rotate_left 1
        · (intro w hSw; obtain ⟨_, _, hSw, azz⟩ := (hSp.out _).1 hSw; obtain ⟨a0, a1, a2, a3, a7, a30, a31⟩ := hSw.out; clear hSw; go_simp; (try with_reducible rfl))
        try simp only [Act.put, List.setIfInBounds_toArray, List.set_cons_zero, List.set_cons_succ]
        refine held_take hO (i := 15) rfl (by kernel_rfl) (by kernel_rfl) (fun _ _ _ _ h => h) ?_ hHeld ?_ ?_
        rotate_left 1
        · (intro w hSw; obtain ⟨_, _, hSw, azz⟩ := (hSp.out _).1 hSw; obtain ⟨a0, a1, a2, a3, a7, a30, a31⟩ := hSw.out; clear hSw; go_simp; (try with_reducible rfl))
        try simp only [Act.put, List.setIfInBounds_toArray, List.set_cons_zero, List.set_cons_succ]
        refine held_take hO (i := 16) rfl (by kernel_rfl) (by kernel_rfl) (fun _ _ _ _ h => h) ?_ hHeld ?_ ?_
        rotate_left 1
        · (intro w hSw; obtain ⟨_, _, hSw, azz⟩ := (hSp.out _).1 hSw; obtain ⟨a0, a1, a2, a3, a7, a30, a31⟩ := hSw.out; clear hSw; go_simp; (try with_reducible rfl))
        try simp only [Act.put, List.setIfInBounds_toArray, List.set_cons_zero, List.set_cons_succ]
        refine held_take hO (i := 17) rfl (by kernel_rfl) (by kernel_rfl) (fun _ _ _ _ h => h) ?_ hHeld ?_ ?_
        rotate_left 1
        · (intro w hSw; obtain ⟨_, _, hSw, azz⟩ := (hSp.out _).1 hSw; obtain ⟨a0, a1, a2, a3, a7, a30, a31⟩ := hSw.out; clear hSw; go_simp; (try with_reducible rfl))
        try simp only [Act.put, List.setIfInBounds_toArray, List.set_cons_zero, List.set_cons_succ]
        refine held_take hO (i := 18) rfl (by kernel_rfl) (by kernel_rfl) (fun _ _ _ _ h => h) ?_ hHeld ?_ ?_
        rotate_left 1
        · (intro w hSw; obtain ⟨_, _, hSw, azz⟩ := (hSp.out _).1 hSw; obtain ⟨a0, a1, a2, a3, a7, a30, a31⟩ := hSw.out; clear hSw; go_simp; (try with_reducible rfl))
        try simp only [Act.put, List.setIfInBounds_toArray, List.set_cons_zero, List.set_cons_succ]
        refine held_take hO (i := 19) rfl (by kernel_rfl) (by kernel_rfl) (fun _ _ _ _ h => h) ?_ hHeld ?_ ?_
        rotate_left 1
        · (intro w hSw; obtain ⟨_, _, hSw, azz⟩ := (hSp.out _).1 hSw; obtain ⟨a0, a1, a2, a3, a7, a30, a31⟩ := hSw.out; clear hSw; go_simp; (try with_reducible rfl))
        try simp only [Act.put, List.setIfInBounds_toArray, List.set_cons_zero, List.set_cons_succ]
        refine held_take hO (i := 20) rfl (by kernel_rfl) (by kernel_rfl) (fun _ _ _ _ h => h) ?_ hHeld ?_ ?_
        rotate_left 1
        · (intro w hSw; obtain ⟨_, _, hSw, azz⟩ := (hSp.out _).1 hSw; obtain ⟨a0, a1, a2, a3, a7, a30, a31⟩ := hSw.out; clear hSw; go_simp; (try with_reducible rfl))
        try simp only [Act.put, List.setIfInBounds_toArray, List.set_cons_zero, List.set_cons_succ]
        refine held_take hO (i := 21) rfl (by kernel_rfl) (by kernel_rfl) (fun _ _ _ _ h => h) ?_ hHeld ?_ ?_
        rotate_left 1
        · (intro w hSw; obtain ⟨_, _, hSw, azz⟩ := (hSp.out _).1 hSw; obtain ⟨a0, a1, a2, a3, a7, a30, a31⟩ := hSw.out; clear hSw; go_simp; (try with_reducible rfl))
        try simp only [Act.put, List.setIfInBounds_toArray, List.set_cons_zero, List.set_cons_succ]
        refine held_take hO (i := 22) rfl (by kernel_rfl) (by kernel_rfl) (fun _ _ _ _ h => h) ?_ hHeld ?_ ?_
        rotate_left 1
        · (intro w hSw; obtain ⟨_, _, hSw, azz⟩ := (hSp.out _).1 hSw; obtain ⟨a0, a1, a2, a3, a7, a30, a31⟩ := hSw.out; clear hSw; go_simp; (try with_reducible rfl))
        try simp only [Act.put, List.setIfInBounds_toArray, List.set_cons_zero, List.set_cons_succ]
        refine held_take hO (i := 23) rfl (by kernel_rfl) (by kernel_rfl) (fun _ _ _ _ h => h) ?_ hHeld ?_ ?_
        rotate_left 1
        · (intro w hSw; obtain ⟨_, _, hSw, azz⟩ := (hSp.out _).1 hSw; obtain ⟨a0, a1, a2, a3, a7, a30, a31⟩ := hSw.out; clear hSw; go_simp; (try with_reducible rfl))
        try simp only [Act.put, List.setIfInBounds_toArray, List.set_cons_zero, List.set_cons_succ]
        refine held_take hO (i := 24) rfl (by kernel_rfl) (by kernel_rfl) (fun _ _ _ _ h => h) ?_ hHeld ?_ ?_
        rotate_left 1
        · (intro w hSw; obtain ⟨_, _, hSw, azz⟩ := (hSp.out _).1 hSw; obtain ⟨a0, a1, a2, a3, a7, a30, a31⟩ := hSw.out; clear hSw; go_simp; (try with_reducible rfl))
        try simp only [Act.put, List.setIfInBounds_toArray, List.set_cons_zero, List.set_cons_succ]
        refine held_take hO (i := 25) rfl (by kernel_rfl) (by kernel_rfl) (fun _ _ _ _ h => h) ?_ hHeld ?_ ?_
        rotate_left 1
        · (intro w hSw; obtain ⟨_, _, hSw, azz⟩ := (hSp.out _).1 hSw; obtain ⟨a0, a1, a2, a3, a7, a30, a31⟩ := hSw.out; clear hSw; go_simp; (try with_reducible rfl))
        try simp only [Act.put, List.setIfInBounds_toArray, List.set_cons_zero, List.set_cons_succ]
        refine held_take hO (i := 26) rfl (by kernel_rfl) (by kernel_rfl) (fun _ _ _ _ h => h) ?_ hHeld ?_ ?_
        rotate_left 1
        · (intro w hSw; obtain ⟨_, _, hSw, azz⟩ := (hSp.out _).1 hSw; obtain ⟨a0, a1, a2, a3, a7, a30, a31⟩ := hSw.out; clear hSw; go_simp; (try with_reducible rfl))
        try simp only [Act.put, List.setIfInBounds_toArray, List.set_cons_zero, List.set_cons_succ]
        refine held_read hO (i := 27) rfl rfl (by kernel_rfl) (fun _ _ _ _ h => h) ?_ hHeld ?_ ?_
        rotate_left 1
        · (intro w hSw; obtain ⟨_, _, hSw, azz⟩ := (hSp.out _).1 hSw; obtain ⟨a0, a1, a2, a3, a7, a30, a31⟩ := hSw.out; clear hSw; go_simp; (try with_reducible rfl))
        try simp only [Act.put, List.setIfInBounds_toArray, List.set_cons_zero, List.set_cons_succ]
        refine held_done hO (by kernel_rfl) ?_
        clear hO O
        have HBh := Lib.hid ((hSp.out _).1 hHeld).1
        have HOh := Lib.hid ((hSp.out _).1 hHeld).2.1
        clear hHeld
        go_wp2_with fail
        go_meet
        case rel => exact ⟨by rw [HZ.out]; rfl, HBh, HOh⟩
    have q5 : (ki == 5) = false := beq_eq_false_iff_ne.2 h5
    have HL : Hid (lok = false) := HLo.out.trans (by rw [q3, q4, q5]; rfl)
    have HZ : Hid (c4 = false) := by rw [← HC4.out, HL.out]; rfl
    clear HWo HWn HFd HC4 HL HLo h3 h4 h5
    obtain ⟨Sp, hSp⟩ : ∃ Sp : World → Prop, Hid (∀ w', Sp w' ↔ (Below w.heap.size w w' ∧ Holds w' E5 45 R5 ∧ Hid (w'.cell? ⟨E5, 0, none⟩ = some (.int .i64 ki) ∧ w'.cell? ⟨E5, 1, none⟩ = some (.int .i64 se) ∧ w'.cell? ⟨E5, 2, none⟩ = some (.int .i64 nu) ∧ w'.cell? ⟨E5, 3, none⟩ = some (.int .i64 wh) ∧ w'.cell? ⟨E5, 7, none⟩ = some (.int .i64 sid) ∧ w'.cell? ⟨E5, 30, none⟩ = some (.int .i64 kh) ∧ w'.cell? ⟨E5, 31, none⟩ = some (.int .i64 ks)))) := ⟨_, Lib.hid fun _ => Iff.rfl⟩
    refine wp_region_held_gen Sp (by kernel_rfl) ((hSp.out _).2 ⟨HB4.out.drew, HO4.out, HRd.out (World.drew wD) HO4.out⟩) ?_
    have hHeld : Sp _ := (hSp.out (World.drew _)).2 ⟨HB4.out.drew, HO4.out, HRd.out (World.drew wD) HO4.out⟩
    intro O hO
    refine held_read hO (i := 0) rfl rfl (by kernel_rfl) (fun _ _ _ _ h => h) ?_ hHeld ?_ ?_
    rotate_left 1
    · (intro w hSw; obtain ⟨_, _, hSw⟩ := (hSp.out _).1 hSw; obtain ⟨a0, a1, a2, a3, a7, a30, a31⟩ := hSw.out; clear hSw; go_simp; (try with_reducible rfl))
    try simp only [Act.put, List.setIfInBounds_toArray, List.set_cons_zero, List.set_cons_succ]
    refine held_read hO (i := 1) rfl rfl (by kernel_rfl) (fun _ _ _ _ h => h) ?_ hHeld ?_ ?_
    rotate_left 1
    · (intro w hSw; obtain ⟨_, _, hSw⟩ := (hSp.out _).1 hSw; obtain ⟨a0, a1, a2, a3, a7, a30, a31⟩ := hSw.out; clear hSw; go_simp; (try with_reducible rfl))
    try simp only [Act.put, List.setIfInBounds_toArray, List.set_cons_zero, List.set_cons_succ]
    refine held_read hO (i := 2) rfl rfl (by kernel_rfl) (fun _ _ _ _ h => h) ?_ hHeld ?_ ?_
    rotate_left 1
    · (intro w hSw; obtain ⟨_, _, hSw⟩ := (hSp.out _).1 hSw; obtain ⟨a0, a1, a2, a3, a7, a30, a31⟩ := hSw.out; clear hSw; go_simp; (try with_reducible rfl))
    try simp only [Act.put, List.setIfInBounds_toArray, List.set_cons_zero, List.set_cons_succ]
    refine held_read hO (i := 3) rfl rfl (by kernel_rfl) (fun _ _ _ _ h => h) ?_ hHeld ?_ ?_
    rotate_left 1
    · (intro w hSw; obtain ⟨_, _, hSw⟩ := (hSp.out _).1 hSw; obtain ⟨a0, a1, a2, a3, a7, a30, a31⟩ := hSw.out; clear hSw; go_simp; (try with_reducible rfl))
    try simp only [Act.put, List.setIfInBounds_toArray, List.set_cons_zero, List.set_cons_succ]
    refine held_take hO (i := 4) rfl (by kernel_rfl) (by kernel_rfl) (fun _ _ _ _ h => h) ?_ hHeld ?_ ?_
    rotate_left 1
    · (intro w hSw; obtain ⟨_, _, hSw⟩ := (hSp.out _).1 hSw; obtain ⟨a0, a1, a2, a3, a7, a30, a31⟩ := hSw.out; clear hSw; go_simp; (try with_reducible rfl))
    try simp only [Act.put, List.setIfInBounds_toArray, List.set_cons_zero, List.set_cons_succ]
    refine held_take hO (i := 5) rfl (by kernel_rfl) (by kernel_rfl) (fun _ _ _ _ h => h) ?_ hHeld ?_ ?_
    rotate_left 1
    · (intro w hSw; obtain ⟨_, _, hSw⟩ := (hSp.out _).1 hSw; obtain ⟨a0, a1, a2, a3, a7, a30, a31⟩ := hSw.out; clear hSw; go_simp; (try with_reducible rfl))
    try simp only [Act.put, List.setIfInBounds_toArray, List.set_cons_zero, List.set_cons_succ]
    refine held_take hO (i := 6) rfl (by kernel_rfl) (by kernel_rfl) (fun _ _ _ _ h => h) ?_ hHeld ?_ ?_
    rotate_left 1
    · (intro w hSw; obtain ⟨_, _, hSw⟩ := (hSp.out _).1 hSw; obtain ⟨a0, a1, a2, a3, a7, a30, a31⟩ := hSw.out; clear hSw; go_simp; (try with_reducible rfl))
    try simp only [Act.put, List.setIfInBounds_toArray, List.set_cons_zero, List.set_cons_succ]
    refine held_read hO (i := 7) rfl rfl (by kernel_rfl) (fun _ _ _ _ h => h) ?_ hHeld ?_ ?_
    rotate_left 1
    · (intro w hSw; obtain ⟨_, _, hSw⟩ := (hSp.out _).1 hSw; obtain ⟨a0, a1, a2, a3, a7, a30, a31⟩ := hSw.out; clear hSw; go_simp; (try with_reducible rfl))
    try simp only [Act.put, List.setIfInBounds_toArray, List.set_cons_zero, List.set_cons_succ]
    refine held_read hO (i := 8) rfl rfl (by kernel_rfl) (fun _ _ _ _ h => h) ?_ hHeld ?_ ?_
    rotate_left 1
    · (intro w hSw; obtain ⟨_, _, hSw⟩ := (hSp.out _).1 hSw; obtain ⟨a0, a1, a2, a3, a7, a30, a31⟩ := hSw.out; clear hSw; go_simp; (try with_reducible rfl))
    try simp only [Act.put, List.setIfInBounds_toArray, List.set_cons_zero, List.set_cons_succ]
    refine held_take hO (i := 9) rfl (by kernel_rfl) (by kernel_rfl) (fun _ _ _ _ h => h) ?_ hHeld ?_ ?_
    rotate_left 1
    · (intro w hSw; obtain ⟨_, _, hSw⟩ := (hSp.out _).1 hSw; obtain ⟨a0, a1, a2, a3, a7, a30, a31⟩ := hSw.out; clear hSw; go_simp; (try with_reducible rfl))
    try simp only [Act.put, List.setIfInBounds_toArray, List.set_cons_zero, List.set_cons_succ]
    refine held_take hO (i := 10) rfl (by kernel_rfl) (by kernel_rfl) (fun _ _ _ _ h => h) ?_ hHeld ?_ ?_
    rotate_left 1
    · (intro w hSw; obtain ⟨_, _, hSw⟩ := (hSp.out _).1 hSw; obtain ⟨a0, a1, a2, a3, a7, a30, a31⟩ := hSw.out; clear hSw; go_simp; (try with_reducible rfl))
    try simp only [Act.put, List.setIfInBounds_toArray, List.set_cons_zero, List.set_cons_succ]
    refine held_take hO (i := 11) rfl (by kernel_rfl) (by kernel_rfl) (fun _ _ _ _ h => h) ?_ hHeld ?_ ?_
    rotate_left 1
    · (intro w hSw; obtain ⟨_, _, hSw⟩ := (hSp.out _).1 hSw; obtain ⟨a0, a1, a2, a3, a7, a30, a31⟩ := hSw.out; clear hSw; go_simp; (try with_reducible rfl))
    try simp only [Act.put, List.setIfInBounds_toArray, List.set_cons_zero, List.set_cons_succ]
    refine held_read hO (i := 12) rfl rfl (by kernel_rfl) (fun _ _ _ _ h => h) ?_ hHeld ?_ ?_
    rotate_left 1
    · (intro w hSw; obtain ⟨_, _, hSw⟩ := (hSp.out _).1 hSw; obtain ⟨a0, a1, a2, a3, a7, a30, a31⟩ := hSw.out; clear hSw; go_simp; (try with_reducible rfl))
    try simp only [Act.put, List.setIfInBounds_toArray, List.set_cons_zero, List.set_cons_succ]
    refine held_read hO (i := 13) rfl rfl (by kernel_rfl) (fun _ _ _ _ h => h) ?_ hHeld ?_ ?_
    rotate_left 1
    · (intro w hSw; obtain ⟨_, _, hSw⟩ := (hSp.out _).1 hSw; obtain ⟨a0, a1, a2, a3, a7, a30, a31⟩ := hSw.out; clear hSw; go_simp; (try with_reducible rfl))
    try simp only [Act.put, List.setIfInBounds_toArray, List.set_cons_zero, List.set_cons_succ]
    refine held_skip hO (i := 14) rfl (by kernel_rfl) (by kernel_rfl) (fun _ _ _ _ h => h) hHeld ?_
    try simp only [Act.put, List.setIfInBounds_toArray, List.set_cons_zero, List.set_cons_succ]
    refine held_skip hO (i := 15) rfl (by kernel_rfl) (by kernel_rfl) (fun _ _ _ _ h => h) hHeld ?_
    try simp only [Act.put, List.setIfInBounds_toArray, List.set_cons_zero, List.set_cons_succ]
    refine held_skip hO (i := 16) rfl (by kernel_rfl) (by kernel_rfl) (fun _ _ _ _ h => h) hHeld ?_
    try simp only [Act.put, List.setIfInBounds_toArray, List.set_cons_zero, List.set_cons_succ]
    refine held_skip hO (i := 17) rfl (by kernel_rfl) (by kernel_rfl) (fun _ _ _ _ h => h) hHeld ?_
    try simp only [Act.put, List.setIfInBounds_toArray, List.set_cons_zero, List.set_cons_succ]
    refine held_skip hO (i := 18) rfl (by kernel_rfl) (by kernel_rfl) (fun _ _ _ _ h => h) hHeld ?_
    try simp only [Act.put, List.setIfInBounds_toArray, List.set_cons_zero, List.set_cons_succ]
    refine held_skip hO (i := 19) rfl (by kernel_rfl) (by kernel_rfl) (fun _ _ _ _ h => h) hHeld ?_
    try simp only [Act.put, List.setIfInBounds_toArray, List.set_cons_zero, List.set_cons_succ]
    refine held_skip hO (i := 20) rfl (by kernel_rfl) (by kernel_rfl) (fun _ _ _ _ h => h) hHeld ?_
    try simp only [Act.put, List.setIfInBounds_toArray, List.set_cons_zero, List.set_cons_succ]
    refine held_skip hO (i := 21) rfl (by kernel_rfl) (by kernel_rfl) (fun _ _ _ _ h => h) hHeld ?_
    try simp only [Act.put, List.setIfInBounds_toArray, List.set_cons_zero, List.set_cons_succ]
    refine held_skip hO (i := 22) rfl (by kernel_rfl) (by kernel_rfl) (fun _ _ _ _ h => h) hHeld ?_
    try simp only [Act.put, List.setIfInBounds_toArray, List.set_cons_zero, List.set_cons_succ]
    refine held_skip hO (i := 23) rfl (by kernel_rfl) (by kernel_rfl) (fun _ _ _ _ h => h) hHeld ?_
    try simp only [Act.put, List.setIfInBounds_toArray, List.set_cons_zero, List.set_cons_succ]
    refine held_skip hO (i := 24) rfl (by kernel_rfl) (by kernel_rfl) (fun _ _ _ _ h => h) hHeld ?_
    try simp only [Act.put, List.setIfInBounds_toArray, List.set_cons_zero, List.set_cons_succ]
    refine held_skip hO (i := 25) rfl (by kernel_rfl) (by kernel_rfl) (fun _ _ _ _ h => h) hHeld ?_
    try simp only [Act.put, List.setIfInBounds_toArray, List.set_cons_zero, List.set_cons_succ]
    refine held_skip hO (i := 26) rfl (by kernel_rfl) (by kernel_rfl) (fun _ _ _ _ h => h) hHeld ?_
    try simp only [Act.put, List.setIfInBounds_toArray, List.set_cons_zero, List.set_cons_succ]
    refine held_read hO (i := 27) rfl rfl (by kernel_rfl) (fun _ _ _ _ h => h) ?_ hHeld ?_ ?_
    rotate_left 1
    · (intro w hSw; obtain ⟨_, _, hSw⟩ := (hSp.out _).1 hSw; obtain ⟨a0, a1, a2, a3, a7, a30, a31⟩ := hSw.out; clear hSw; go_simp; (try with_reducible rfl))
    try simp only [Act.put, List.setIfInBounds_toArray, List.set_cons_zero, List.set_cons_succ]
    refine held_done hO (by kernel_rfl) ?_
    clear hO O
    have HBh := Lib.hid ((hSp.out _).1 hHeld).1
    have HOh := Lib.hid ((hSp.out _).1 hHeld).2.1
    clear hHeld
    go_wp2_with fail
    go_meet
    case rel => exact ⟨by rw [HZ.out], HBh, HOh⟩
  case rest =>
  obtain ⟨rfl, HB5, HO5⟩ := hcut
  clear HB4 HO4 HC4 HLo HWn HWo HFd
  generalize wc = wE at *
  cases c4 with
  | true =>
    have HZ : Hid (rr = nmR 4) := HR
    clear HR HCt HSs HRd
    go_wp2_with fail
    go_ret
    exact ⟨by rw [HZ.out]; rfl, HB5.out⟩
  | false =>
  rw [if_neg (by decide)] at HR
  obtain ⟨c5, hc5⟩ : ∃ c5, (((ki == 4) || (ki == 5)) && decide (0 < cntR l ki se n)) = c5 := ⟨_, rfl⟩
  have HC5 := Lib.hid hc5
  rw [hc5] at HR
  clear hc5
  go_upto_region 17 with fail
  go_cut [121] (fun u wx => u = .bool c5 ∧ Hid (Below w.heap.size w wx) ∧ Hid (Holds wx E5 45 R5))
  case first =>
    clear HR HSs
    obtain ⟨g0, g1, _⟩ := HRd.out _ HO5.out
    by_cases h4 : ki = 4
    · subst h4
      have HZ : Hid (c5 = decide (0 < cntR l 4 se n)) := HC5.out.symm.trans (by simp)
      clear HC5
      go_wp2_with (first | (go_at_call 10; (with_reducible refine (HCt.out _ _ _ HB5.out).mono ?_); rintro e w1 ⟨rfl, hw⟩; have hw := hw.symm; subst hw))
      go_meet
      case rel => exact ⟨by rw [HZ.out], HB5, HO5⟩
    have q4 : (ki == 4) = false := beq_eq_false_iff_ne.2 h4
    by_cases h5 : ki = 5
    · subst h5
      have HZ : Hid (c5 = decide (0 < cntR l 5 se n)) := HC5.out.symm.trans (by simp)
      clear HC5
      go_wp2_with (first | (go_at_call 10; (with_reducible refine (HCt.out _ _ _ HB5.out).mono ?_); rintro e w1 ⟨rfl, hw⟩; have hw := hw.symm; subst hw))
      go_meet
      case rel => exact ⟨by rw [HZ.out], HB5, HO5⟩
    have q5 : (ki == 5) = false := beq_eq_false_iff_ne.2 h5
    have HZ : Hid (c5 = false) := HC5.out.symm.trans (by rw [q4, q5]; rfl)
    clear HC5 h4 h5
    go_wp2_with fail
    go_meet
    case rel => exact ⟨by rw [HZ.out], HB5, HO5⟩
  case rest =>
  obtain ⟨rfl, HB6, HO6⟩ := hcut
  clear HB5 HO5 HC5 HCt HRd
  generalize wc = wF at *
  cases c5 with
  | true =>
    have HZ : Hid (rr = nmR 5) := HR
    clear HR HSs
    go_wp2_with fail
    go_ret
    exact ⟨by rw [HZ.out]; rfl, HB6.out⟩
  | false =>
  have HZ : Hid (rr = sr) := HR
  have HS := Lib.hid (HSs.out _ HB6.out)
  clear HR HSs
  go_wp2_with (first | (go_at_call 13; (with_reducible refine HS.out.mono ?_); rintro e w7 ⟨rfl, b7⟩; have HB7 := Lib.hid (HB6.out.trans (b7.mono HB6.out.size)); clear b7))
  go_ret
  exact ⟨by rw [HZ.out]; rfl, HB7.out⟩
end Go.Proofs.YtpkkeeblgbdfdaaDoor
