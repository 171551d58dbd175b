/- Part 17 of what the statement wants. -/
import Derived.Test.YtpkkeeblgbdfdaaDoorPk13
namespace Go.Proofs.YtpkkeeblgbdfdaaDoor
open Go.RowKit Go.Maps Go.WideMaps

set_option maxHeartbeats 4000000 in
set_option maxRecDepth 100000 in
theorem rule2_any {w0 W : World} {v : Value} {S : List Int} {l : List EvV} {k : Nat} (hp : PastAt w0 W v S l k) {B : Nat} (hb : Holds W B 51 #[.pointer (some ⟨w0.heap.size + 4, 0, none⟩)]) {x : EvV} (hx : l[k]? = some x) (ho : ∀ u ∈ x.row.toList, CellOk u) :
    Calls Tryd.prog 29 #[.agg x.row, .pointer (some ⟨B, 0, none⟩)] W fun e w' => e = .returned (.bool (ruleB S l k x 2)) ∧ Below W.heap.size W w' := by
  obtain ⟨n2, n3, n5, f2, f3, f5, hf, h2, h3, h5⟩ := rule_facts hp hb ho
  have HK1 := Lib.hid (keyI_ok (EvV.ok_se ho))
  have HK3 := Lib.hid (keyI_ok (EvV.ok_wh ho))
  have HZs := Lib.hid zeroSess
  have HZi := Lib.hid zeroInt32
  have H2 := Lib.hid h2
  have H3 := Lib.hid h3
  have HRs : Hid (x.row.size = 34) := rfl
  obtain ⟨W1, hW⟩ : ∃ W1, Hid (W1 = W.alloc (.cells x.row 45)) := ⟨_, Lib.hid rfl⟩
  have BW : Hid (Below W.heap.size W W1) := by
    show Below _ _ _
    rw [hW.out]
    exact (Below.refl _ W).alloc (Nat.le_refl _) _
  rw [← hW.out] at hf
  have HF := Lib.hid hf
  have RV : ruleB S l k x 2 = (!(exchK x) || (x.nu == (sessS S l x.se k).ex)) := rfl
  have HIx := Lib.hid (isEx_any x)
  clear hf h2 h3 h5 hp hb ho hx
  obtain ⟨E, hE⟩ : ∃ E, Hid (E = W.heap.size) := ⟨_, Lib.hid rfl⟩
  rw [← hE.out] at HF
  generalize ruleB S l k x 2 = rv at *
  generalize sessS S l x.se k = sv at *
  obtain ⟨s1, s2, s3, s4, s5, s6⟩ := sv
  try dsimp only at H2 RV
  generalize exchK x = ex at *
  have RV := Lib.hid RV
  generalize x.ki = ki at *
  generalize x.se = se at *
  generalize x.nu = nu at *
  generalize x.wh = wh at *
  generalize x.sid = sid at *
  generalize x.dn.kh = kh at *
  generalize x.dn.ks = ks at *
  generalize x.row = R at *
  have HFs : Hid (∀ w', Below W1.heap.size W1 w' → (Below W1.heap.size W1 w' ∧ w'.cell? ⟨B, 0, none⟩ = some (.pointer (some ⟨w0.heap.size + 4, 0, none⟩)) ∧ w'.cell? ⟨w0.heap.size + 4, 2, none⟩ = some (.map (some w0.heap.size)) ∧ w'.cell? ⟨w0.heap.size + 4, 3, none⟩ = some (.map (some (w0.heap.size + 1))) ∧ w'.cell? ⟨w0.heap.size + 4, 5, none⟩ = some (.map (some (w0.heap.size + 3))) ∧ w'.cell? ⟨E, 0, none⟩ = some (.int .i64 ki) ∧ w'.cell? ⟨E, 1, none⟩ = some (.int .i64 se) ∧ w'.cell? ⟨E, 2, none⟩ = some (.int .i64 nu) ∧ w'.cell? ⟨E, 3, none⟩ = some (.int .i64 wh) ∧ w'.cell? ⟨E, 7, none⟩ = some (.int .i64 sid) ∧ w'.cell? ⟨E, 30, none⟩ = some (.int .i64 kh) ∧ w'.cell? ⟨E, 31, none⟩ = some (.int .i64 ks) ∧ Hid (MapF w' Tryd.prog 3 w0.heap.size n2 f2) ∧ Hid (MapF w' Tryd.prog 3 (w0.heap.size + 1) n3 f3) ∧ Hid (Holds w' E 45 R))) := fun w' h => by
    obtain ⟨a1, a2, a3, a4, a5, a6, a7, a8, a9, a10, a11, a12, a13, a14, a15, _⟩ := HF.out w' h
    exact ⟨h, a1, a2, a3, a4, a5, a6, a7, a8, a9, a10, a11, a13, a14, a12⟩
  clear HF
  cases ex with
  | false =>
    have RV : Hid (rv = true) := by show rv = _; rw [RV.out]; rfl
    go_enter Tryd.func29, Tryd.ntmps29
    go_upto_region 1 with fail
    rw [← hW.out, ← hE.out]
    clear hW hE
    obtain ⟨Sp, hSp⟩ : ∃ Sp : World → Prop, Hid (∀ w', Sp w' ↔ (Below W1.heap.size W1 w' ∧ w'.cell? ⟨B, 0, none⟩ = some (.pointer (some ⟨w0.heap.size + 4, 0, none⟩)) ∧ w'.cell? ⟨w0.heap.size + 4, 2, none⟩ = some (.map (some w0.heap.size)) ∧ w'.cell? ⟨w0.heap.size + 4, 3, none⟩ = some (.map (some (w0.heap.size + 1))) ∧ w'.cell? ⟨w0.heap.size + 4, 5, none⟩ = some (.map (some (w0.heap.size + 3))) ∧ w'.cell? ⟨E, 0, none⟩ = some (.int .i64 ki) ∧ w'.cell? ⟨E, 1, none⟩ = some (.int .i64 se) ∧ w'.cell? ⟨E, 2, none⟩ = some (.int .i64 nu) ∧ w'.cell? ⟨E, 3, none⟩ = some (.int .i64 wh) ∧ w'.cell? ⟨E, 7, none⟩ = some (.int .i64 sid) ∧ w'.cell? ⟨E, 30, none⟩ = some (.int .i64 kh) ∧ w'.cell? ⟨E, 31, none⟩ = some (.int .i64 ks) ∧ Hid (MapF w' Tryd.prog 3 w0.heap.size n2 f2) ∧ Hid (MapF w' Tryd.prog 3 (w0.heap.size + 1) n3 f3) ∧ Hid (Holds w' E 45 R))) := ⟨_, Lib.hid fun _ => Iff.rfl⟩
    refine wp_region_held_gen Sp (by kernel_rfl) ((hSp.out _).2 (HFs.out _ (Below.refl _ W1).drew)) ?_
    have hHeld : Sp _ := (hSp.out (World.drew _)).2 (HFs.out _ (Below.refl _ W1).drew)
    intro O hO
    refine held_read hO (i := 0) rfl rfl (by kernel_rfl) (fun _ _ _ _ h => h) (.agg R) hHeld ?_ ?_
    · exact fun w hSw => exec_load_cells 45 _ rfl ⟨E, 0, none⟩ rfl R _ (holds_load32 ((hSp.out _).1 hSw).2.2.2.2.2.2.2.2.2.2.2.2.2.2.out) Tryd.underlying45 rfl (by rw [HRs.out]; exact sizeEvent)
    try simp only [Act.put, List.setIfInBounds_toArray, List.set_cons_zero, List.set_cons_succ]
    refine held_step hO (i := 1) rfl rfl (by kernel_rfl) (fun K hK => ?_)
    go_simp
    go_at_call 30
    with_reducible refine (HIx.out _).mono ?_
    rintro e w2 ⟨rfl, b2⟩
    have B2 : Hid (Below W1.heap.size W1 w2) := Lib.hid (((Below.refl _ W1).drew : Below W1.heap.size W1 _).trans (b2.mono ((Below.refl _ W1).drew : Below W1.heap.size W1 _).size))
    clear b2
    go_wp2_with fail
    clear hHeld
    have hHeld : Sp _ := (hSp.out _).2 (HFs.out _ B2.out)
    refine hK.out _ _ hHeld ?_
    clear hK K
    try simp only [Act.put, List.setIfInBounds_toArray, List.set_cons_zero, List.set_cons_succ]
    refine held_read hO (i := 2) rfl rfl (by kernel_rfl) (fun _ _ _ _ h => h) ?_ hHeld ?_ ?_
    rotate_left 1
    · (intro w hSw; have hSw := (hSp.out _).1 hSw; go_simp; (try with_reducible rfl))
    try simp only [Act.put, List.setIfInBounds_toArray, List.set_cons_zero, List.set_cons_succ]
    refine held_read hO (i := 3) rfl rfl (by kernel_rfl) (fun _ _ _ _ h => h) ?_ hHeld ?_ ?_
    rotate_left 1
    · (intro w hSw; have hSw := (hSp.out _).1 hSw; go_simp; (try with_reducible rfl))
    try simp only [Act.put, List.setIfInBounds_toArray, List.set_cons_zero, List.set_cons_succ]
    refine held_skip hO (i := 4) rfl (by rfl) (by kernel_rfl) (fun _ _ _ _ h => h) hHeld ?_
    try simp only [Act.put, List.setIfInBounds_toArray, List.set_cons_zero, List.set_cons_succ]
    refine held_skip hO (i := 5) rfl (by rfl) (by kernel_rfl) (fun _ _ _ _ h => h) hHeld ?_
    try simp only [Act.put, List.setIfInBounds_toArray, List.set_cons_zero, List.set_cons_succ]
    refine held_skip hO (i := 6) rfl (by rfl) (by kernel_rfl) (fun _ _ _ _ h => h) hHeld ?_
    try simp only [Act.put, List.setIfInBounds_toArray, List.set_cons_zero, List.set_cons_succ]
    refine held_skip hO (i := 7) rfl (by rfl) (by kernel_rfl) (fun _ _ _ _ h => h) hHeld ?_
    try simp only [Act.put, List.setIfInBounds_toArray, List.set_cons_zero, List.set_cons_succ]
    refine held_skip hO (i := 8) rfl (by rfl) (by kernel_rfl) (fun _ _ _ _ h => h) hHeld ?_
    try simp only [Act.put, List.setIfInBounds_toArray, List.set_cons_zero, List.set_cons_succ]
    refine held_skip hO (i := 9) rfl (by rfl) (by kernel_rfl) (fun _ _ _ _ h => h) hHeld ?_
    try simp only [Act.put, List.setIfInBounds_toArray, List.set_cons_zero, List.set_cons_succ]
    refine held_skip hO (i := 10) rfl (by rfl) (by kernel_rfl) (fun _ _ _ _ h => h) hHeld ?_
    try simp only [Act.put, List.setIfInBounds_toArray, List.set_cons_zero, List.set_cons_succ]
    refine held_skip hO (i := 11) rfl (by rfl) (by kernel_rfl) (fun _ _ _ _ h => h) hHeld ?_
    try simp only [Act.put, List.setIfInBounds_toArray, List.set_cons_zero, List.set_cons_succ]
    refine held_skip hO (i := 12) rfl (by rfl) (by kernel_rfl) (fun _ _ _ _ h => h) hHeld ?_
    try simp only [Act.put, List.setIfInBounds_toArray, List.set_cons_zero, List.set_cons_succ]
    refine held_skip hO (i := 13) rfl (by rfl) (by kernel_rfl) (fun _ _ _ _ h => h) hHeld ?_
    try simp only [Act.put, List.setIfInBounds_toArray, List.set_cons_zero, List.set_cons_succ]
    refine held_skip hO (i := 14) rfl (by rfl) (by kernel_rfl) (fun _ _ _ _ h => h) hHeld ?_
    try simp only [Act.put, List.setIfInBounds_toArray, List.set_cons_zero, List.set_cons_succ]
    refine held_read hO (i := 15) rfl rfl (by kernel_rfl) (fun _ _ _ _ h => h) ?_ hHeld ?_ ?_
    rotate_left 1
    · (intro w hSw; have hSw := (hSp.out _).1 hSw; go_simp; (try with_reducible rfl))
    try simp only [Act.put, List.setIfInBounds_toArray, List.set_cons_zero, List.set_cons_succ]
    refine held_read hO (i := 16) rfl rfl (by kernel_rfl) (fun _ _ _ _ h => h) ?_ hHeld ?_ ?_
    rotate_left 1
    · (intro w hSw; have hSw := (hSp.out _).1 hSw; go_simp; (try with_reducible rfl))
    try simp only [Act.put, List.setIfInBounds_toArray, List.set_cons_zero, List.set_cons_succ]
    refine held_done hO (by kernel_rfl) ?_
    clear hO O
    go_wp2_with fail
    go_ret
    exact ⟨by rw [RV.out]; rfl, BW.out.trans (((hSp.out _).1 hHeld).1.mono BW.out.size)⟩
  | true =>
    have RV : Hid (rv = (nu == s1)) := by show rv = _; rw [RV.out]; rfl
    go_enter Tryd.func29, Tryd.ntmps29
    go_upto_region 1 with fail
    rw [← hW.out, ← hE.out]
    clear hW hE
    obtain ⟨Sp, hSp⟩ : ∃ Sp : World → Prop, Hid (∀ w', Sp w' ↔ (Below W1.heap.size W1 w' ∧ w'.cell? ⟨B, 0, none⟩ = some (.pointer (some ⟨w0.heap.size + 4, 0, none⟩)) ∧ w'.cell? ⟨w0.heap.size + 4, 2, none⟩ = some (.map (some w0.heap.size)) ∧ w'.cell? ⟨w0.heap.size + 4, 3, none⟩ = some (.map (some (w0.heap.size + 1))) ∧ w'.cell? ⟨w0.heap.size + 4, 5, none⟩ = some (.map (some (w0.heap.size + 3))) ∧ w'.cell? ⟨E, 0, none⟩ = some (.int .i64 ki) ∧ w'.cell? ⟨E, 1, none⟩ = some (.int .i64 se) ∧ w'.cell? ⟨E, 2, none⟩ = some (.int .i64 nu) ∧ w'.cell? ⟨E, 3, none⟩ = some (.int .i64 wh) ∧ w'.cell? ⟨E, 7, none⟩ = some (.int .i64 sid) ∧ w'.cell? ⟨E, 30, none⟩ = some (.int .i64 kh) ∧ w'.cell? ⟨E, 31, none⟩ = some (.int .i64 ks) ∧ Hid (MapF w' Tryd.prog 3 w0.heap.size n2 f2) ∧ Hid (MapF w' Tryd.prog 3 (w0.heap.size + 1) n3 f3) ∧ Hid (Holds w' E 45 R))) := ⟨_, Lib.hid fun _ => Iff.rfl⟩
    refine wp_region_held_gen Sp (by kernel_rfl) ((hSp.out _).2 (HFs.out _ (Below.refl _ W1).drew)) ?_
    have hHeld : Sp _ := (hSp.out (World.drew _)).2 (HFs.out _ (Below.refl _ W1).drew)
    intro O hO
    refine held_read hO (i := 0) rfl rfl (by kernel_rfl) (fun _ _ _ _ h => h) (.agg R) hHeld ?_ ?_
    · exact fun w hSw => exec_load_cells 45 _ rfl ⟨E, 0, none⟩ rfl R _ (holds_load32 ((hSp.out _).1 hSw).2.2.2.2.2.2.2.2.2.2.2.2.2.2.out) Tryd.underlying45 rfl (by rw [HRs.out]; exact sizeEvent)
    try simp only [Act.put, List.setIfInBounds_toArray, List.set_cons_zero, List.set_cons_succ]
    refine held_step hO (i := 1) rfl rfl (by kernel_rfl) (fun K hK => ?_)
    go_simp
    go_at_call 30
    with_reducible refine (HIx.out _).mono ?_
    rintro e w2 ⟨rfl, b2⟩
    have B2 : Hid (Below W1.heap.size W1 w2) := Lib.hid (((Below.refl _ W1).drew : Below W1.heap.size W1 _).trans (b2.mono ((Below.refl _ W1).drew : Below W1.heap.size W1 _).size))
    clear b2
    go_wp2_with fail
    clear hHeld
    have hHeld : Sp _ := (hSp.out _).2 (HFs.out _ B2.out)
    refine hK.out _ _ hHeld ?_
    clear hK K
    try simp only [Act.put, List.setIfInBounds_toArray, List.set_cons_zero, List.set_cons_succ]
    refine held_read hO (i := 2) rfl rfl (by kernel_rfl) (fun _ _ _ _ h => h) ?_ hHeld ?_ ?_
    rotate_left 1
    · (intro w hSw; have hSw := (hSp.out _).1 hSw; go_simp; (try with_reducible rfl))
    try simp only [Act.put, List.setIfInBounds_toArray, List.set_cons_zero, List.set_cons_succ]
    refine held_read hO (i := 3) rfl rfl (by kernel_rfl) (fun _ _ _ _ h => h) ?_ hHeld ?_ ?_
    rotate_left 1
    · (intro w hSw; have hSw := (hSp.out _).1 hSw; go_simp; (try with_reducible rfl))
    try simp only [Act.put, List.setIfInBounds_toArray, List.set_cons_zero, List.set_cons_succ]
    refine held_take hO (i := 4) rfl (by rfl) (by kernel_rfl) (fun _ _ _ _ h => h) ?_ hHeld ?_ ?_
    rotate_left 1
    · (intro w hSw; have hSw := (hSp.out _).1 hSw; go_simp; (try with_reducible rfl))
    try simp only [Act.put, List.setIfInBounds_toArray, List.set_cons_zero, List.set_cons_succ]
    refine held_take hO (i := 5) rfl (by rfl) (by kernel_rfl) (fun _ _ _ _ h => h) ?_ hHeld ?_ ?_
    rotate_left 1
    · (intro w hSw; have hSw := (hSp.out _).1 hSw; go_simp; (try with_reducible rfl))
    try simp only [Act.put, List.setIfInBounds_toArray, List.set_cons_zero, List.set_cons_succ]
    refine held_take hO (i := 6) rfl (by rfl) (by kernel_rfl) (fun _ _ _ _ h => h) ?_ hHeld ?_ ?_
    rotate_left 1
    · (intro w hSw; have hSw := (hSp.out _).1 hSw; go_simp; (try with_reducible rfl))
    try simp only [Act.put, List.setIfInBounds_toArray, List.set_cons_zero, List.set_cons_succ]
    refine held_take hO (i := 7) rfl (by rfl) (by kernel_rfl) (fun _ _ _ _ h => h) ?_ hHeld ?_ ?_
    rotate_left 1
    · (intro w hSw; have hSw := (hSp.out _).1 hSw; go_simp; (try with_reducible rfl))
    try simp only [Act.put, List.setIfInBounds_toArray, List.set_cons_zero, List.set_cons_succ]
    refine held_take hO (i := 8) rfl (by rfl) (by kernel_rfl) (fun _ _ _ _ h => h) ?_ hHeld ?_ ?_
    rotate_left 1
    · (intro w hSw; have hSw := (hSp.out _).1 hSw; go_simp; (try with_reducible rfl))
    try simp only [Act.put, List.setIfInBounds_toArray, List.set_cons_zero, List.set_cons_succ]
    refine held_take hO (i := 9) rfl (by rfl) (by kernel_rfl) (fun _ _ _ _ h => h) ?_ hHeld ?_ ?_
    rotate_left 1
    · (intro w hSw; have hSw := (hSp.out _).1 hSw; go_simp; (try with_reducible rfl))
    try simp only [Act.put, List.setIfInBounds_toArray, List.set_cons_zero, List.set_cons_succ]
    refine held_take hO (i := 10) rfl (by rfl) (by kernel_rfl) (fun _ _ _ _ h => h) ?_ hHeld ?_ ?_
    rotate_left 1
    · (intro w hSw; have hSw := (hSp.out _).1 hSw; go_simp; (try with_reducible rfl))
    try simp only [Act.put, List.setIfInBounds_toArray, List.set_cons_zero, List.set_cons_succ]
    refine held_take hO (i := 11) rfl (by rfl) (by kernel_rfl) (fun _ _ _ _ h => h) ?_ hHeld ?_ ?_
    rotate_left 1
    · (intro w hSw; have hSw := (hSp.out _).1 hSw; go_simp; (try with_reducible rfl))
    try simp only [Act.put, List.setIfInBounds_toArray, List.set_cons_zero, List.set_cons_succ]
    refine held_take hO (i := 12) rfl (by rfl) (by kernel_rfl) (fun _ _ _ _ h => h) (.agg #[.int .i64 s1, .int .i64 s2, .bool s3, .bool s4, .bool s5, .bool s6]) hHeld ?_ ?_
    · exact fun w hSw => exec_look _ _ 69 rfl ((hSp.out _).1 hSw).2.2.2.2.2.2.2.2.2.2.2.2.1.out lawInt31 Tryd.underlying69 zeroS.enc HZs.out rfl (.int .i64 se) (keyI se) rfl HK1.out H2.out
    try simp only [Act.put, List.setIfInBounds_toArray, List.set_cons_zero, List.set_cons_succ]
    refine held_take hO (i := 13) rfl (by rfl) (by kernel_rfl) (fun _ _ _ _ h => h) (.int .i64 s1) hHeld ?_ ?_
    · exact fun w hSw => by kernel_rfl
    try simp only [Act.put, List.setIfInBounds_toArray, List.set_cons_zero, List.set_cons_succ]
    refine held_take hO (i := 14) rfl (by rfl) (by kernel_rfl) (fun _ _ _ _ h => h) ?_ hHeld ?_ ?_
    rotate_left 1
    · (intro w hSw; have hSw := (hSp.out _).1 hSw; go_simp; (try with_reducible rfl))
    try simp only [Act.put, List.setIfInBounds_toArray, List.set_cons_zero, List.set_cons_succ]
    refine held_read hO (i := 15) rfl rfl (by kernel_rfl) (fun _ _ _ _ h => h) ?_ hHeld ?_ ?_
    rotate_left 1
    · (intro w hSw; have hSw := (hSp.out _).1 hSw; go_simp; (try with_reducible rfl))
    try simp only [Act.put, List.setIfInBounds_toArray, List.set_cons_zero, List.set_cons_succ]
    refine held_read hO (i := 16) rfl rfl (by kernel_rfl) (fun _ _ _ _ h => h) ?_ hHeld ?_ ?_
    rotate_left 1
    · (intro w hSw; have hSw := (hSp.out _).1 hSw; go_simp; (try with_reducible rfl))
    try simp only [Act.put, List.setIfInBounds_toArray, List.set_cons_zero, List.set_cons_succ]
    refine held_done hO (by kernel_rfl) ?_
    clear hO O
    go_wp2_with fail
    go_ret
    exact ⟨by rw [RV.out]; rfl, BW.out.trans (((hSp.out _).1 hHeld).1.mono BW.out.size)⟩
end Go.Proofs.YtpkkeeblgbdfdaaDoor
