/- Layer 37: the law CensusCounts. -/
import Derived.Test.YtjphlhehhigpjaaCe7
namespace Go.Proofs.Ytjphlhehhigpjaa
open Go.RowKit

theorem hit_low (p : Nat) (hp : p < 8) : hitC p = cntP 0 0 (p : Int) 7 := by
  funext e
  have h := clamp_plc 8 (by decide) e.ki
  unfold hitC cntP vW
  rw [if_pos hp, if_neg (by decide), if_neg (by decide)]
  have e7 : ((8 : Nat) : Int) - 1 = 7 := by decide
  rw [e7] at h
  rw [h, Bool.eq_iff_iff]
  simp
  omega
theorem hit_mid (p : Nat) (hp : p < 16) : hitC (8 + p) = cntP 6 1 (p : Int) 15 := by
  funext e
  have h := clamp_plc 16 (by decide) e.nu
  unfold hitC cntP vW
  rw [if_neg (by omega), if_pos (by omega), if_neg (by decide), if_pos rfl]
  have e7 : ((16 : Nat) : Int) - 1 = 15 := by decide
  rw [e7] at h
  rw [h, Bool.eq_iff_iff]
  simp
  omega
theorem hit_high (p : Nat) (hp : p < 4) : hitC (24 + p) = cntP 2 2 (p : Int) 3 := by
  funext e
  have h := clamp_plc 4 (by decide) e.dn.me
  unfold hitC cntP vW
  rw [if_neg (by omega), if_neg (by omega), if_pos (by omega), if_pos rfl]
  have e7 : ((4 : Nat) : Int) - 1 = 3 := by decide
  rw [e7] at h
  rw [h, Bool.eq_iff_iff]
  simp
  omega
set_option maxHeartbeats 8000000 in
set_option maxRecDepth 100000 in
theorem CensusCounts_any {w : World} {v : Value} {l : List EvV} (h : EventsAt w v l) (ho : ∀ x ∈ l, ∀ u ∈ x.row.toList, CellOk u) :
    Calls Try.prog 3 #[v] w fun e w' => e = .returned (.bool true) ∧ Below w.heap.size w w' := by
  have HAw : Hid (∀ W, Calls Try.prog 7 #[] W fun e w' => e = .returned (.bool true) ∧ Below W.heap.size W w') := fun W => awake37_any W
  have HFe := Lib.hid (few37_any h ho)
  have HOf : Hid (∀ W, l.length ≤ 60 → Below w.heap.size w W → Calls Try.prog 8 #[v] W fun e w' => e = .returned (.agg (cenRow (cenC l))) ∧ Below W.heap.size W w') := fun W hl hb => cnOf_any (h.below hb) (by omega) ho
  have HC0 : Hid (∀ W (p : Nat), p < 8 → l.length ≤ 60 → Below w.heap.size w W → Calls Try.prog 9 #[v, .int .i64 0, .int .i64 0, .int .i64 (p : Int), .int .i64 7] W fun e w' => e = .returned (.int .i64 (cenC l p)) ∧ w' = W) := fun W p hp hl hb => by
    rw [cenC_at l (by omega), hit_low p hp]; exact r37Count_any (h.below hb) (by omega) 0 0 p 7
  have HC1 : Hid (∀ W (p : Nat), p < 16 → l.length ≤ 60 → Below w.heap.size w W → Calls Try.prog 9 #[v, .int .i64 6, .int .i64 1, .int .i64 (p : Int), .int .i64 15] W fun e w' => e = .returned (.int .i64 (cenC l (8 + p))) ∧ w' = W) := fun W p hp hl hb => by
    rw [cenC_at l (by omega), hit_mid p hp]; exact r37Count_any (h.below hb) (by omega) 6 1 p 15
  have HC2 : Hid (∀ W (p : Nat), p < 4 → l.length ≤ 60 → Below w.heap.size w W → Calls Try.prog 9 #[v, .int .i64 2, .int .i64 2, .int .i64 (p : Int), .int .i64 3] W fun e w' => e = .returned (.int .i64 (cenC l (24 + p))) ∧ w' = W) := fun W p hp hl hb => by
    rw [cenC_at l (by omega), hit_high p hp]; exact r37Count_any (h.below hb) (by omega) 2 2 p 3
  have HLa : Hid (∀ W, l.length ≤ 60 → Below w.heap.size w W → Calls Try.prog 10 #[v] W fun e w' => e = .returned (.int .i64 (cenC l 28)) ∧ w' = W) := fun W hl hb => by
    rw [cenC_at l (by decide)]; exact r37Later_any (h.below hb) (by omega)
  have HSa : Hid (∀ W, l.length ≤ 60 → Below w.heap.size w W → Calls Try.prog 11 #[v] W fun e w' => e = .returned (.int .i64 (cenC l 29)) ∧ w' = W) := fun W hl hb => by
    rw [cenC_29]; exact r37Safe_any (h.below hb) (by omega)
  have HCk0 : Hid (l.length ≤ 60 → ∀ W, Calls Try.prog 12 #[.agg (cenRow (cenC l))] W fun e w' => e = .returned .nilIface ∧ Below W.heap.size W w') := fun hl W => (cnCheck_any W (cenC l) (fun i _ => by have := cenC_bd l i; omega)).mono fun e w' ⟨v', h1, h2, h3⟩ => by
    rcases h2 with ⟨_, h⟩ | ⟨h, _⟩
    · exact ⟨by rw [h1, h], h3⟩
    · exact absurd (by rw [cenC_chk]; rfl) h
  have HG : Hid (∀ i, i < 30 → (cenRow (cenC l))[i]? = some (.int .i64 (cenC l i))) := fun i hi => cenRow_get _ hi
  have HRR : Hid ((Try.prog.info? 29).map (·.size) = some (cenRow (cenC l)).size ∧ (cenRow (cenC l)).size = 30 ∧ (cenRow (cenC l)).all (·.oneCell') = true) := ⟨sizeCensus, rfl, cenRow_one _⟩
  obtain ⟨ao, cap, rfl, _⟩ := h
  generalize cenRow (cenC l) = RR at *
  generalize cenC l = C at *
  clear ho
  go_enter Try.func3, Try.ntmps3
  go_upto_if 9 with (first
    | (go_at_call 6; (with_reducible refine HFe.out.mono ?_); rintro e w1 ⟨z, rfl, hz1, b1⟩; have HZ := Lib.hid hz1; have B1 := Lib.hid b1; clear hz1 b1))
  cases z with
  | false =>
    clear HOf HC0 HC1 HC2 HLa HSa HCk0 HG HRR HZ
    go_wp2_with (first
      | (go_at_call 7; (with_reducible refine (HAw.out _).mono ?_); rintro e w2 ⟨rfl, b2⟩; have B2 := Lib.hid (B1.out.trans (b2.mono B1.out.size)); clear b2))
    go_ret
    exact ⟨rfl, B2.out⟩
  | true =>
  have hl : l.length ≤ 60 := HZ.out rfl
  have HOf2 := Lib.hid (HOf.out _ hl B1.out)
  clear HOf HZ HFe
  go_upto_region 4 with (first
    | (go_at_call 8; (with_reducible refine HOf2.out.mono ?_); rintro e w2 ⟨rfl, b2⟩; have B2 := Lib.hid (B1.out.trans (b2.mono B1.out.size)); clear b2)
    | (refine wpList_store_new rfl 29 _ _ rfl w2.heap.size _ RR 29 rfl rfl rfl HRR.out.1 (by rw [HRR.out.2.1]; rfl) HRR.out.2.2 ?_))
  have HB : Hid (Below w.heap.size w (w2.alloc (.cells RR 29))) := Lib.hid (B2.out.alloc B2.out.size _)
  have HA : Hid (Holds (w2.alloc (.cells RR 29)) w2.heap.size 29 RR) := Lib.hid (Holds.new w2 _ _)
  obtain ⟨E, hE⟩ : ∃ E, Hid (E = w2.heap.size) := ⟨_, Lib.hid rfl⟩
  have hEw : w.heap.size ≤ E := by rw [hE.out]; exact B2.out.size
  rw [← hE.out] at HA ⊢
  clear hE B1 B2 HOf2
  generalize w2.alloc (.cells RR 29) = W at *
  go_wp2_with fail
  go_loopw [4] (fun i wr => ∃ k : Nat, k ≤ 8 ∧ i = .int .i64 k ∧ Hid (Below w.heap.size w wr) ∧ Hid (Holds wr E 29 RR)) (fun i _ => 8 - (intOf i).toNat)
  case atStart => exact ⟨0, Nat.zero_le _, rfl, HB, HA⟩
  case round =>
  obtain ⟨k, hk, rfl, HBk, HAk⟩ := hrel
  clear HB HA
  by_cases hlt : k < 8
  · have q0 : decide ((k : Int) < 8) = true := decide_eq_true (by omega)
    have HCk := Lib.hid (fun W hb => HC0.out W k hlt hl hb)
    have HRd : Hid (∀ W, Holds W E 29 RR → W.cell? ⟨E, k, none⟩ = some (.int .i64 (C (k)))) := fun W hh => (hh.cell (k)).trans (HG.out (k) (by omega))
    clear HC0 HC1 HC2 HLa HSa HCk0 HG HRR HAw
    generalize C (k) = x at *
    have hkn : (k : Int) < (8 : Int) := by omega
    go_upto_region 7 with fail
    obtain ⟨Sp, hSp⟩ : ∃ Sp : World → Prop, Hid (∀ w', Sp w' ↔ (Below w.heap.size w w' ∧ Holds w' E 29 RR ∧ w'.cell? ⟨E, k, none⟩ = some (.int .i64 x))) := ⟨_, Lib.hid fun _ => Iff.rfl⟩
    refine wp_region_held_gen Sp (by kernel_rfl) ((hSp.out _).2 ⟨HBk.out.drew, HAk.out, HRd.out (World.drew _) HAk.out⟩) ?_
    have hHeld : Sp _ := (hSp.out (World.drew _)).2 ⟨HBk.out.drew, HAk.out, HRd.out (World.drew _) HAk.out⟩
    intro O hO
    refine held_read hO (i := 0) rfl rfl (by kernel_rfl) (fun _ _ _ _ h => h) ?_ hHeld ?_ ?_
    rotate_left 1
    · (intro w hSw; obtain ⟨_, _, hSw⟩ := (hSp.out _).1 hSw; go_simp; (try with_reducible rfl))
    try simp only [Act.put, List.setIfInBounds_toArray, List.set_cons_zero, List.set_cons_succ]
    refine held_read hO (i := 1) rfl rfl (by kernel_rfl) (fun _ _ _ _ h => h) ?_ hHeld ?_ ?_
    rotate_left 1
    · (intro w hSw; obtain ⟨_, _, hSw⟩ := (hSp.out _).1 hSw; go_simp; (try with_reducible rfl))
    try simp only [Act.put, List.setIfInBounds_toArray, List.set_cons_zero, List.set_cons_succ]
    refine held_read hO (i := 2) rfl rfl (by kernel_rfl) (fun _ _ _ _ h => h) ?_ hHeld ?_ ?_
    rotate_left 1
    · (intro w hSw; obtain ⟨_, _, hSw⟩ := (hSp.out _).1 hSw; go_simp; (try with_reducible rfl))
    try simp only [Act.put, List.setIfInBounds_toArray, List.set_cons_zero, List.set_cons_succ]
    refine held_read hO (i := 3) rfl rfl (by kernel_rfl) (fun _ _ _ _ h => h) ?_ hHeld ?_ ?_
    rotate_left 1
    · (intro w hSw; obtain ⟨_, _, hSw⟩ := (hSp.out _).1 hSw; go_simp; (try with_reducible rfl))
    try simp only [Act.put, List.setIfInBounds_toArray, List.set_cons_zero, List.set_cons_succ]
    refine held_read hO (i := 4) rfl rfl (by kernel_rfl) (fun _ _ _ _ h => h) ?_ hHeld ?_ ?_
    rotate_left 1
    · (intro w hSw; obtain ⟨_, _, hSw⟩ := (hSp.out _).1 hSw; go_simp; (try with_reducible rfl))
    try simp only [Act.put, List.setIfInBounds_toArray, List.set_cons_zero, List.set_cons_succ]
    refine held_read hO (i := 5) rfl rfl (by kernel_rfl) (fun _ _ _ _ h => h) ?_ hHeld ?_ ?_
    rotate_left 1
    · (intro w hSw; obtain ⟨_, _, hSw⟩ := (hSp.out _).1 hSw; go_simp; (try with_reducible rfl))
    try simp only [Act.put, List.setIfInBounds_toArray, List.set_cons_zero, List.set_cons_succ]
    refine held_step hO (i := 6) rfl rfl (by kernel_rfl) (fun K hK => ?_)
    go_simp
    go_at_call 9
    with_reducible refine (HCk.out _ ((hSp.out _).1 hHeld).1).mono ?_
    rintro e w9 ⟨rfl, hw⟩
    subst hw
    go_wp2_with fail
    refine hK.out _ _ hHeld ?_
    clear hK K
    try simp only [Act.put, List.setIfInBounds_toArray, List.set_cons_zero, List.set_cons_succ]
    refine held_read hO (i := 7) rfl rfl (by kernel_rfl) (fun _ _ _ _ h => h) ?_ hHeld ?_ ?_
    rotate_left 1
    · (intro w hSw; obtain ⟨_, _, hSw⟩ := (hSp.out _).1 hSw; go_simp; (try with_reducible rfl))
    try simp only [Act.put, List.setIfInBounds_toArray, List.set_cons_zero, List.set_cons_succ]
    refine held_done hO (by kernel_rfl) ?_
    clear hO O
    have HBh := Lib.hid ((hSp.out _).1 hHeld).1
    have HAh := Lib.hid ((hSp.out _).1 hHeld).2.1
    clear hHeld hSp Sp
    go_wp2_with fail
    go_roundw
    case rel => exact ⟨k + 1, by omega, by go_num, HBh, HAh⟩
    case measure => simp [intOf]; omega
  have hkl : (k : Int) = 8 := by omega
  rw [hkl]
  clear hkl hlt hk HC0
  have HB := HBk
  have HA := HAk
  clear HBk HAk
  go_upto_region 9 with fail
  go_wp2_with fail
  go_loopw [5] (fun i wr => ∃ k : Nat, k ≤ 16 ∧ i = .int .i64 k ∧ Hid (Below w.heap.size w wr) ∧ Hid (Holds wr E 29 RR)) (fun i _ => 16 - (intOf i).toNat)
  case atStart => exact ⟨0, Nat.zero_le _, rfl, HB, HA⟩
  case round =>
  obtain ⟨k, hk, rfl, HBk, HAk⟩ := hrel
  clear HB HA
  by_cases hlt : k < 16
  · have q0 : decide ((k : Int) < 16) = true := decide_eq_true (by omega)
    have HCk := Lib.hid (fun W hb => HC1.out W k hlt hl hb)
    have HRd : Hid (∀ W, Holds W E 29 RR → W.cell? ⟨E, 8 + k, none⟩ = some (.int .i64 (C (8 + k)))) := fun W hh => (hh.cell (8 + k)).trans (HG.out (8 + k) (by omega))
    clear HC1 HC2 HLa HSa HCk0 HG HRR HAw
    generalize C (8 + k) = x at *
    have hkn : (k : Int) < (16 : Int) := by omega
    go_upto_region 12 with fail
    obtain ⟨Sp, hSp⟩ : ∃ Sp : World → Prop, Hid (∀ w', Sp w' ↔ (Below w.heap.size w w' ∧ Holds w' E 29 RR ∧ w'.cell? ⟨E, 8 + k, none⟩ = some (.int .i64 x))) := ⟨_, Lib.hid fun _ => Iff.rfl⟩
    refine wp_region_held_gen Sp (by kernel_rfl) ((hSp.out _).2 ⟨HBk.out.drew, HAk.out, HRd.out (World.drew _) HAk.out⟩) ?_
    have hHeld : Sp _ := (hSp.out (World.drew _)).2 ⟨HBk.out.drew, HAk.out, HRd.out (World.drew _) HAk.out⟩
    intro O hO
    refine held_read hO (i := 0) rfl rfl (by kernel_rfl) (fun _ _ _ _ h => h) ?_ hHeld ?_ ?_
    rotate_left 1
    · (intro w hSw; obtain ⟨_, _, hSw⟩ := (hSp.out _).1 hSw; go_simp; (try with_reducible rfl))
    try simp only [Act.put, List.setIfInBounds_toArray, List.set_cons_zero, List.set_cons_succ]
    refine held_read hO (i := 1) rfl rfl (by kernel_rfl) (fun _ _ _ _ h => h) ?_ hHeld ?_ ?_
    rotate_left 1
    · (intro w hSw; obtain ⟨_, _, hSw⟩ := (hSp.out _).1 hSw; go_simp; (try with_reducible rfl))
    try simp only [Act.put, List.setIfInBounds_toArray, List.set_cons_zero, List.set_cons_succ]
    refine held_read hO (i := 2) rfl rfl (by kernel_rfl) (fun _ _ _ _ h => h) ?_ hHeld ?_ ?_
    rotate_left 1
    · (intro w hSw; obtain ⟨_, _, hSw⟩ := (hSp.out _).1 hSw; go_simp; (try with_reducible rfl))
    try simp only [Act.put, List.setIfInBounds_toArray, List.set_cons_zero, List.set_cons_succ]
    refine held_read hO (i := 3) rfl rfl (by kernel_rfl) (fun _ _ _ _ h => h) ?_ hHeld ?_ ?_
    rotate_left 1
    · (intro w hSw; obtain ⟨_, _, hSw⟩ := (hSp.out _).1 hSw; go_simp; (try with_reducible rfl))
    try simp only [Act.put, List.setIfInBounds_toArray, List.set_cons_zero, List.set_cons_succ]
    refine held_read hO (i := 4) rfl rfl (by kernel_rfl) (fun _ _ _ _ h => h) ?_ hHeld ?_ ?_
    rotate_left 1
    · (intro w hSw; obtain ⟨_, _, hSw⟩ := (hSp.out _).1 hSw; go_simp; (try with_reducible rfl))
    try simp only [Act.put, List.setIfInBounds_toArray, List.set_cons_zero, List.set_cons_succ]
    refine held_read hO (i := 5) rfl rfl (by kernel_rfl) (fun _ _ _ _ h => h) ?_ hHeld ?_ ?_
    rotate_left 1
    · (intro w hSw; obtain ⟨_, _, hSw⟩ := (hSp.out _).1 hSw; go_simp; (try with_reducible rfl))
    try simp only [Act.put, List.setIfInBounds_toArray, List.set_cons_zero, List.set_cons_succ]
    refine held_step hO (i := 6) rfl rfl (by kernel_rfl) (fun K hK => ?_)
    go_simp
    go_at_call 9
    with_reducible refine (HCk.out _ ((hSp.out _).1 hHeld).1).mono ?_
    rintro e w9 ⟨rfl, hw⟩
    subst hw
    go_wp2_with fail
    refine hK.out _ _ hHeld ?_
    clear hK K
    try simp only [Act.put, List.setIfInBounds_toArray, List.set_cons_zero, List.set_cons_succ]
    refine held_read hO (i := 7) rfl rfl (by kernel_rfl) (fun _ _ _ _ h => h) ?_ hHeld ?_ ?_
    rotate_left 1
    · (intro w hSw; obtain ⟨_, _, hSw⟩ := (hSp.out _).1 hSw; go_simp; (try with_reducible rfl))
    try simp only [Act.put, List.setIfInBounds_toArray, List.set_cons_zero, List.set_cons_succ]
    refine held_done hO (by kernel_rfl) ?_
    clear hO O
    have HBh := Lib.hid ((hSp.out _).1 hHeld).1
    have HAh := Lib.hid ((hSp.out _).1 hHeld).2.1
    clear hHeld hSp Sp
    go_wp2_with fail
    go_roundw
    case rel => exact ⟨k + 1, by omega, by go_num, HBh, HAh⟩
    case measure => simp [intOf]; omega
  have hkl : (k : Int) = 16 := by omega
  rw [hkl]
  clear hkl hlt hk HC1
  have HB := HBk
  have HA := HAk
  clear HBk HAk
  go_upto_region 14 with fail
  go_wp2_with fail
  go_loopw [6] (fun i wr => ∃ k : Nat, k ≤ 4 ∧ i = .int .i64 k ∧ Hid (Below w.heap.size w wr) ∧ Hid (Holds wr E 29 RR)) (fun i _ => 4 - (intOf i).toNat)
  case atStart => exact ⟨0, Nat.zero_le _, rfl, HB, HA⟩
  case round =>
  obtain ⟨k, hk, rfl, HBk, HAk⟩ := hrel
  clear HB HA
  by_cases hlt : k < 4
  · have q0 : decide ((k : Int) < 4) = true := decide_eq_true (by omega)
    have HCk := Lib.hid (fun W hb => HC2.out W k hlt hl hb)
    have HRd : Hid (∀ W, Holds W E 29 RR → W.cell? ⟨E, 24 + k, none⟩ = some (.int .i64 (C (24 + k)))) := fun W hh => (hh.cell (24 + k)).trans (HG.out (24 + k) (by omega))
    clear HC2 HLa HSa HCk0 HG HRR HAw
    generalize C (24 + k) = x at *
    have hkn : (k : Int) < (4 : Int) := by omega
    go_upto_region 17 with fail
    obtain ⟨Sp, hSp⟩ : ∃ Sp : World → Prop, Hid (∀ w', Sp w' ↔ (Below w.heap.size w w' ∧ Holds w' E 29 RR ∧ w'.cell? ⟨E, 24 + k, none⟩ = some (.int .i64 x))) := ⟨_, Lib.hid fun _ => Iff.rfl⟩
    refine wp_region_held_gen Sp (by kernel_rfl) ((hSp.out _).2 ⟨HBk.out.drew, HAk.out, HRd.out (World.drew _) HAk.out⟩) ?_
    have hHeld : Sp _ := (hSp.out (World.drew _)).2 ⟨HBk.out.drew, HAk.out, HRd.out (World.drew _) HAk.out⟩
    intro O hO
    refine held_read hO (i := 0) rfl rfl (by kernel_rfl) (fun _ _ _ _ h => h) ?_ hHeld ?_ ?_
    rotate_left 1
    · (intro w hSw; obtain ⟨_, _, hSw⟩ := (hSp.out _).1 hSw; go_simp; (try with_reducible rfl))
    try simp only [Act.put, List.setIfInBounds_toArray, List.set_cons_zero, List.set_cons_succ]
    refine held_read hO (i := 1) rfl rfl (by kernel_rfl) (fun _ _ _ _ h => h) ?_ hHeld ?_ ?_
    rotate_left 1
    · (intro w hSw; obtain ⟨_, _, hSw⟩ := (hSp.out _).1 hSw; go_simp; (try with_reducible rfl))
    try simp only [Act.put, List.setIfInBounds_toArray, List.set_cons_zero, List.set_cons_succ]
    refine held_read hO (i := 2) rfl rfl (by kernel_rfl) (fun _ _ _ _ h => h) ?_ hHeld ?_ ?_
    rotate_left 1
    · (intro w hSw; obtain ⟨_, _, hSw⟩ := (hSp.out _).1 hSw; go_simp; (try with_reducible rfl))
    try simp only [Act.put, List.setIfInBounds_toArray, List.set_cons_zero, List.set_cons_succ]
    refine held_read hO (i := 3) rfl rfl (by kernel_rfl) (fun _ _ _ _ h => h) ?_ hHeld ?_ ?_
    rotate_left 1
    · (intro w hSw; obtain ⟨_, _, hSw⟩ := (hSp.out _).1 hSw; go_simp; (try with_reducible rfl))
    try simp only [Act.put, List.setIfInBounds_toArray, List.set_cons_zero, List.set_cons_succ]
    refine held_read hO (i := 4) rfl rfl (by kernel_rfl) (fun _ _ _ _ h => h) ?_ hHeld ?_ ?_
    rotate_left 1
    · (intro w hSw; obtain ⟨_, _, hSw⟩ := (hSp.out _).1 hSw; go_simp; (try with_reducible rfl))
    try simp only [Act.put, List.setIfInBounds_toArray, List.set_cons_zero, List.set_cons_succ]
    refine held_read hO (i := 5) rfl rfl (by kernel_rfl) (fun _ _ _ _ h => h) ?_ hHeld ?_ ?_
    rotate_left 1
    · (intro w hSw; obtain ⟨_, _, hSw⟩ := (hSp.out _).1 hSw; go_simp; (try with_reducible rfl))
    try simp only [Act.put, List.setIfInBounds_toArray, List.set_cons_zero, List.set_cons_succ]
    refine held_step hO (i := 6) rfl rfl (by kernel_rfl) (fun K hK => ?_)
    go_simp
    go_at_call 9
    with_reducible refine (HCk.out _ ((hSp.out _).1 hHeld).1).mono ?_
    rintro e w9 ⟨rfl, hw⟩
    subst hw
    go_wp2_with fail
    refine hK.out _ _ hHeld ?_
    clear hK K
    try simp only [Act.put, List.setIfInBounds_toArray, List.set_cons_zero, List.set_cons_succ]
    refine held_read hO (i := 7) rfl rfl (by kernel_rfl) (fun _ _ _ _ h => h) ?_ hHeld ?_ ?_
    rotate_left 1
    · (intro w hSw; obtain ⟨_, _, hSw⟩ := (hSp.out _).1 hSw; go_simp; (try with_reducible rfl))
    try simp only [Act.put, List.setIfInBounds_toArray, List.set_cons_zero, List.set_cons_succ]
    refine held_done hO (by kernel_rfl) ?_
    clear hO O
    have HBh := Lib.hid ((hSp.out _).1 hHeld).1
    have HAh := Lib.hid ((hSp.out _).1 hHeld).2.1
    clear hHeld hSp Sp
    go_wp2_with fail
    go_roundw
    case rel => exact ⟨k + 1, by omega, by go_num, HBh, HAh⟩
    case measure => simp [intOf]; omega
  have hkl : (k : Int) = 4 := by omega
  rw [hkl]
  clear hkl hlt hk HC2
  have HB := HBk
  have HA := HAk
  clear HBk HAk
  go_upto_region 19 with fail
  have HRd : Hid (∀ W, Holds W E 29 RR → W.cell? ⟨E, 28, none⟩ = some (.int .i64 (C 28)) ∧ W.cell? ⟨E, 29, none⟩ = some (.int .i64 (C 29))) := fun W hh => ⟨(hh.cell 28).trans (HG.out 28 (by decide)), (hh.cell 29).trans (HG.out 29 (by decide))⟩
  have HLd : Hid (∀ W, Holds W E 29 RR → ∀ j u, RR[j]? = some u → W.cell? ((⟨E, 0, none⟩ : Addr).add j) = some u) := fun W hh j u hj => by
    rw [Addr.add_lit, Nat.zero_add]
    exact (hh.cell j).trans hj
  clear HG
  generalize C 28 = z8 at *
  generalize C 29 = z9 at *
  obtain ⟨Sp, hSp⟩ : ∃ Sp : World → Prop, Hid (∀ w', Sp w' ↔ (Below w.heap.size w w' ∧ Holds w' E 29 RR)) := ⟨_, Lib.hid fun _ => Iff.rfl⟩
  refine wp_region_held_gen Sp (by kernel_rfl) ((hSp.out _).2 ⟨HB.out.drew, HA.out⟩) ?_
  have hHeld : Sp _ := (hSp.out (World.drew _)).2 ⟨HB.out.drew, HA.out⟩
  intro O hO
  refine held_step hO (i := 0) rfl rfl (by kernel_rfl) (fun K hK => ?_)
  go_simp
  go_at_call 7
  with_reducible refine (HAw.out _).mono ?_
  rintro e w9 ⟨rfl, b9⟩
  have HS9 : Hid (Below w.heap.size w w9 ∧ Holds w9 E 29 RR) := Lib.hid ⟨((hSp.out _).1 hHeld).1.trans (b9.mono ((hSp.out _).1 hHeld).1.size), (b9.block _ ((hSp.out _).1 hHeld).2.lt).trans ((hSp.out _).1 hHeld).2⟩
  clear b9
  go_wp2_with fail
  clear hHeld
  have hHeld : Sp _ := (hSp.out _).2 HS9.out
  refine hK.out _ _ hHeld ?_
  clear hK K
  try simp only [Act.put, List.setIfInBounds_toArray, List.set_cons_zero, List.set_cons_succ]
  refine held_read hO (i := 1) rfl rfl (by kernel_rfl) (fun _ _ _ _ h => h) ?_ hHeld ?_ ?_
  rotate_left 1
  · (intro w hSw; obtain ⟨_, hSw⟩ := (hSp.out _).1 hSw; obtain ⟨a28, a29⟩ := HRd.out _ hSw; clear hSw; go_simp; (try with_reducible rfl))
  try simp only [Act.put, List.setIfInBounds_toArray, List.set_cons_zero, List.set_cons_succ]
  refine held_take hO (i := 2) rfl (by kernel_rfl) (by kernel_rfl) (fun _ _ _ _ h => h) ?_ hHeld ?_ ?_
  rotate_left 1
  · (intro w hSw; obtain ⟨_, hSw⟩ := (hSp.out _).1 hSw; obtain ⟨a28, a29⟩ := HRd.out _ hSw; clear hSw; go_simp; (try with_reducible rfl))
  try simp only [Act.put, List.setIfInBounds_toArray, List.set_cons_zero, List.set_cons_succ]
  refine held_take hO (i := 3) rfl (by kernel_rfl) (by kernel_rfl) (fun _ _ _ _ h => h) ?_ hHeld ?_ ?_
  rotate_left 1
  · (intro w hSw; obtain ⟨_, hSw⟩ := (hSp.out _).1 hSw; obtain ⟨a28, a29⟩ := HRd.out _ hSw; clear hSw; go_simp; (try with_reducible rfl))
  try simp only [Act.put, List.setIfInBounds_toArray, List.set_cons_zero, List.set_cons_succ]
  refine held_take hO (i := 4) rfl (by kernel_rfl) (by kernel_rfl) (fun _ _ _ _ h => h) ?_ hHeld ?_ ?_
  rotate_left 1
  · (intro w hSw; obtain ⟨_, hSw⟩ := (hSp.out _).1 hSw; obtain ⟨a28, a29⟩ := HRd.out _ hSw; clear hSw; go_simp; (try with_reducible rfl))
  try simp only [Act.put, List.setIfInBounds_toArray, List.set_cons_zero, List.set_cons_succ]
  refine held_stepg hO (i := 5) rfl (by kernel_rfl) (by kernel_rfl) (fun K hK => ?_)
  go_simp
  go_at_call 10
  with_reducible refine (HLa.out _ hl ((hSp.out _).1 hHeld).1).mono ?_
  rintro e w9 ⟨rfl, hw⟩
  subst hw
  go_wp2_with fail
  refine hK.out _ _ hHeld ?_
  clear hK K
  try simp only [Act.put, List.setIfInBounds_toArray, List.set_cons_zero, List.set_cons_succ]
  refine held_take hO (i := 6) rfl (by kernel_rfl) (by kernel_rfl) (fun _ _ _ _ h => h) ?_ hHeld ?_ ?_
  rotate_left 1
  · (intro w hSw; obtain ⟨_, hSw⟩ := (hSp.out _).1 hSw; obtain ⟨a28, a29⟩ := HRd.out _ hSw; clear hSw; go_simp; (try with_reducible rfl))
  try simp only [Act.put, List.setIfInBounds_toArray, List.set_cons_zero, List.set_cons_succ]
  refine held_read hO (i := 7) rfl rfl (by kernel_rfl) (fun _ _ _ _ h => h) ?_ hHeld ?_ ?_
  rotate_left 1
  · (intro w hSw; obtain ⟨_, hSw⟩ := (hSp.out _).1 hSw; obtain ⟨a28, a29⟩ := HRd.out _ hSw; clear hSw; go_simp; (try with_reducible rfl))
  try simp only [Act.put, List.setIfInBounds_toArray, List.set_cons_zero, List.set_cons_succ]
  refine held_read hO (i := 8) rfl rfl (by kernel_rfl) (fun _ _ _ _ h => h) ?_ hHeld ?_ ?_
  rotate_left 1
  · (intro w hSw; obtain ⟨_, hSw⟩ := (hSp.out _).1 hSw; obtain ⟨a28, a29⟩ := HRd.out _ hSw; clear hSw; go_simp; (try with_reducible rfl))
  try simp only [Act.put, List.setIfInBounds_toArray, List.set_cons_zero, List.set_cons_succ]
  refine held_take hO (i := 9) rfl (by kernel_rfl) (by kernel_rfl) (fun _ _ _ _ h => h) ?_ hHeld ?_ ?_
  rotate_left 1
  · (intro w hSw; obtain ⟨_, hSw⟩ := (hSp.out _).1 hSw; obtain ⟨a28, a29⟩ := HRd.out _ hSw; clear hSw; go_simp; (try with_reducible rfl))
  try simp only [Act.put, List.setIfInBounds_toArray, List.set_cons_zero, List.set_cons_succ]
  refine held_take hO (i := 10) rfl (by kernel_rfl) (by kernel_rfl) (fun _ _ _ _ h => h) ?_ hHeld ?_ ?_
  rotate_left 1
  · (intro w hSw; obtain ⟨_, hSw⟩ := (hSp.out _).1 hSw; obtain ⟨a28, a29⟩ := HRd.out _ hSw; clear hSw; go_simp; (try with_reducible rfl))
  try simp only [Act.put, List.setIfInBounds_toArray, List.set_cons_zero, List.set_cons_succ]
  refine held_take hO (i := 11) rfl (by kernel_rfl) (by kernel_rfl) (fun _ _ _ _ h => h) ?_ hHeld ?_ ?_
  rotate_left 1
  · (intro w hSw; obtain ⟨_, hSw⟩ := (hSp.out _).1 hSw; obtain ⟨a28, a29⟩ := HRd.out _ hSw; clear hSw; go_simp; (try with_reducible rfl))
  try simp only [Act.put, List.setIfInBounds_toArray, List.set_cons_zero, List.set_cons_succ]
  refine held_stepg hO (i := 12) rfl (by kernel_rfl) (by kernel_rfl) (fun K hK => ?_)
  go_simp
  go_at_call 11
  with_reducible refine (HSa.out _ hl ((hSp.out _).1 hHeld).1).mono ?_
  rintro e w9 ⟨rfl, hw⟩
  subst hw
  go_wp2_with fail
  refine hK.out _ _ hHeld ?_
  clear hK K
  try simp only [Act.put, List.setIfInBounds_toArray, List.set_cons_zero, List.set_cons_succ]
  refine held_take hO (i := 13) rfl (by kernel_rfl) (by kernel_rfl) (fun _ _ _ _ h => h) ?_ hHeld ?_ ?_
  rotate_left 1
  · (intro w hSw; obtain ⟨_, hSw⟩ := (hSp.out _).1 hSw; obtain ⟨a28, a29⟩ := HRd.out _ hSw; clear hSw; go_simp; (try with_reducible rfl))
  try simp only [Act.put, List.setIfInBounds_toArray, List.set_cons_zero, List.set_cons_succ]
  refine held_read hO (i := 14) rfl rfl (by kernel_rfl) (fun _ _ _ _ h => h) ?_ hHeld ?_ ?_
  rotate_left 1
  · (intro w hSw; obtain ⟨_, hSw⟩ := (hSp.out _).1 hSw; obtain ⟨a28, a29⟩ := HRd.out _ hSw; clear hSw; go_simp; (try with_reducible rfl))
  try simp only [Act.put, List.setIfInBounds_toArray, List.set_cons_zero, List.set_cons_succ]
  refine held_read hO (i := 15) rfl rfl (by kernel_rfl) (fun _ _ _ _ h => h) ?_ hHeld ?_ ?_
  rotate_left 1
  · (intro w hSw; obtain ⟨_, hSw⟩ := (hSp.out _).1 hSw; obtain ⟨a28, a29⟩ := HRd.out _ hSw; clear hSw; go_simp; (try with_reducible rfl))
  try simp only [Act.put, List.setIfInBounds_toArray, List.set_cons_zero, List.set_cons_succ]
  refine held_take hO (i := 16) rfl (by kernel_rfl) (by kernel_rfl) (fun _ _ _ _ h => h) (.agg RR) hHeld ?_ ?_
  · exact fun w hSw => exec_load_cells 29 _ rfl ⟨E, 0, none⟩ rfl RR _ (HLd.out _ ((hSp.out _).1 hSw).2) Try.underlying29 rfl HRR.out.1
  try simp only [Act.put, List.setIfInBounds_toArray, List.set_cons_zero, List.set_cons_succ]
  refine held_stepg hO (i := 17) rfl (by kernel_rfl) (by kernel_rfl) (fun K hK => ?_)
  go_simp
  go_at_call 12
  with_reducible refine (HCk0.out hl _).mono ?_
  rintro e w10 ⟨rfl, b10⟩
  have HS10 : Hid (Below w.heap.size w w10 ∧ Holds w10 E 29 RR) := Lib.hid ⟨((hSp.out _).1 hHeld).1.trans (b10.mono ((hSp.out _).1 hHeld).1.size), (b10.block _ ((hSp.out _).1 hHeld).2.lt).trans ((hSp.out _).1 hHeld).2⟩
  clear b10
  go_wp2_with fail
  clear hHeld
  have hHeld : Sp _ := (hSp.out _).2 HS10.out
  refine hK.out _ _ hHeld ?_
  clear hK K
  try simp only [Act.put, List.setIfInBounds_toArray, List.set_cons_zero, List.set_cons_succ]
  refine held_take hO (i := 18) rfl (by kernel_rfl) (by kernel_rfl) (fun _ _ _ _ h => h) ?_ hHeld ?_ ?_
  rotate_left 1
  · (intro w hSw; obtain ⟨_, hSw⟩ := (hSp.out _).1 hSw; obtain ⟨a28, a29⟩ := HRd.out _ hSw; clear hSw; go_simp; (try with_reducible rfl))
  try simp only [Act.put, List.setIfInBounds_toArray, List.set_cons_zero, List.set_cons_succ]
  refine held_read hO (i := 19) rfl rfl (by kernel_rfl) (fun _ _ _ _ h => h) ?_ hHeld ?_ ?_
  rotate_left 1
  · (intro w hSw; obtain ⟨_, hSw⟩ := (hSp.out _).1 hSw; obtain ⟨a28, a29⟩ := HRd.out _ hSw; clear hSw; go_simp; (try with_reducible rfl))
  try simp only [Act.put, List.setIfInBounds_toArray, List.set_cons_zero, List.set_cons_succ]
  refine held_read hO (i := 20) rfl rfl (by kernel_rfl) (fun _ _ _ _ h => h) ?_ hHeld ?_ ?_
  rotate_left 1
  · (intro w hSw; obtain ⟨_, hSw⟩ := (hSp.out _).1 hSw; obtain ⟨a28, a29⟩ := HRd.out _ hSw; clear hSw; go_simp; (try with_reducible rfl))
  try simp only [Act.put, List.setIfInBounds_toArray, List.set_cons_zero, List.set_cons_succ]
  refine held_done hO (by kernel_rfl) ?_
  clear hO O
  have HBh := Lib.hid ((hSp.out _).1 hHeld).1
  clear hHeld hSp Sp
  go_wp2_with fail
  go_ret
  exact ⟨rfl, HBh.out⟩
end Go.Proofs.Ytjphlhehhigpjaa
