/- Part 20 of what the statement wants. -/
import Derived.Test.YtpkkeeblgbdfdaaDoorPk13
namespace Go.Proofs.YtpkkeeblgbdfdaaDoor
open Go.RowKit Go.Maps Go.WideMaps

set_option maxHeartbeats 4000000 in
set_option maxRecDepth 100000 in
theorem rule4_any {w0 W : World} {v : Value} {S : List Int} {l : List EvV} {k : Nat} (hp : PastAt w0 W v S l k) {B : Nat} (hb : Holds W B 51 #[.pointer (some ⟨w0.heap.size + 4, 0, none⟩)]) {x : EvV} (hx : l[k]? = some x) (ho : ∀ u ∈ x.row.toList, CellOk u) :
    Calls Tryd.prog 33 #[.agg x.row, .pointer (some ⟨B, 0, none⟩)] W fun e w' => e = .returned (.bool (ruleB S l k x 4)) ∧ Below W.heap.size W w' := by
  obtain ⟨n2, n3, n5, f2, f3, f5, hf, h2, h3, h5⟩ := rule_facts hp hb ho
  have HK1 := Lib.hid (keyI_ok (EvV.ok_se ho))
  have HK3 := Lib.hid (keyI_ok (EvV.ok_wh ho))
  have HZs := Lib.hid zeroSess
  have HZi := Lib.hid zeroInt32
  have H2 := Lib.hid h2
  have H3 := Lib.hid h3
  have HRs : Hid (x.row.size = 34) := rfl
  obtain ⟨W1, hW⟩ : ∃ W1, Hid (W1 = W.alloc (.cells x.row 45)) := ⟨_, Lib.hid rfl⟩
  have BW : Hid (Below W.heap.size W W1) := by
    show Below _ _ _
    rw [hW.out]
    exact (Below.refl _ W).alloc (Nat.le_refl _) _
  rw [← hW.out] at hf
  have HF := Lib.hid hf
  have RV : ruleB S l k x 4 = (!(loginK x) || (decide ((sessS S l x.se k).ex > 0) && (x.sid == (sessS S l x.se k).id))) := rfl
  have HIx := Lib.hid (isLogin_any x)
  clear hf h2 h3 h5 hp hb ho hx
  obtain ⟨E, hE⟩ : ∃ E, Hid (E = W.heap.size) := ⟨_, Lib.hid rfl⟩
  rw [← hE.out] at HF
  generalize ruleB S l k x 4 = rv at *
  generalize sessS S l x.se k = sv at *
  obtain ⟨s1, s2, s3, s4, s5, s6⟩ := sv
  try dsimp only at H2 RV
  generalize loginK x = ex at *
  have RV := Lib.hid RV
  generalize x.ki = ki at *
  generalize x.se = se at *
  generalize x.nu = nu at *
  generalize x.wh = wh at *
  generalize x.sid = sid at *
  generalize x.dn.kh = kh at *
  generalize x.dn.ks = ks at *
  generalize x.row = R at *
  have HFs : Hid (∀ w', Below W1.heap.size W1 w' → (Below W1.heap.size W1 w' ∧ w'.cell? ⟨B, 0, none⟩ = some (.pointer (some ⟨w0.heap.size + 4, 0, none⟩)) ∧ w'.cell? ⟨w0.heap.size + 4, 2, none⟩ = some (.map (some w0.heap.size)) ∧ w'.cell? ⟨w0.heap.size + 4, 3, none⟩ = some (.map (some (w0.heap.size + 1))) ∧ w'.cell? ⟨w0.heap.size + 4, 5, none⟩ = some (.map (some (w0.heap.size + 3))) ∧ w'.cell? ⟨E, 0, none⟩ = some (.int .i64 ki) ∧ w'.cell? ⟨E, 1, none⟩ = some (.int .i64 se) ∧ w'.cell? ⟨E, 2, none⟩ = some (.int .i64 nu) ∧ w'.cell? ⟨E, 3, none⟩ = some (.int .i64 wh) ∧ w'.cell? ⟨E, 7, none⟩ = some (.int .i64 sid) ∧ w'.cell? ⟨E, 30, none⟩ = some (.int .i64 kh) ∧ w'.cell? ⟨E, 31, none⟩ = some (.int .i64 ks) ∧ Hid (MapF w' Tryd.prog 3 w0.heap.size n2 f2) ∧ Hid (MapF w' Tryd.prog 3 (w0.heap.size + 1) n3 f3) ∧ Hid (Holds w' E 45 R))) := fun w' h => by
    obtain ⟨a1, a2, a3, a4, a5, a6, a7, a8, a9, a10, a11, a12, a13, a14, a15, _⟩ := HF.out w' h
    exact ⟨h, a1, a2, a3, a4, a5, a6, a7, a8, a9, a10, a11, a13, a14, a12⟩
  clear HF
  go_enter Tryd.func33, Tryd.ntmps33
  go_upto_region 1 with fail
  rw [← hW.out, ← hE.out]
  clear hW hE
  obtain ⟨Sp, hSp⟩ : ∃ Sp : World → Prop, Hid (∀ w', Sp w' ↔ (Below W1.heap.size W1 w' ∧ w'.cell? ⟨B, 0, none⟩ = some (.pointer (some ⟨w0.heap.size + 4, 0, none⟩)) ∧ w'.cell? ⟨w0.heap.size + 4, 2, none⟩ = some (.map (some w0.heap.size)) ∧ w'.cell? ⟨w0.heap.size + 4, 3, none⟩ = some (.map (some (w0.heap.size + 1))) ∧ w'.cell? ⟨w0.heap.size + 4, 5, none⟩ = some (.map (some (w0.heap.size + 3))) ∧ w'.cell? ⟨E, 0, none⟩ = some (.int .i64 ki) ∧ w'.cell? ⟨E, 1, none⟩ = some (.int .i64 se) ∧ w'.cell? ⟨E, 2, none⟩ = some (.int .i64 nu) ∧ w'.cell? ⟨E, 3, none⟩ = some (.int .i64 wh) ∧ w'.cell? ⟨E, 7, none⟩ = some (.int .i64 sid) ∧ w'.cell? ⟨E, 30, none⟩ = some (.int .i64 kh) ∧ w'.cell? ⟨E, 31, none⟩ = some (.int .i64 ks) ∧ Hid (MapF w' Tryd.prog 3 w0.heap.size n2 f2) ∧ Hid (MapF w' Tryd.prog 3 (w0.heap.size + 1) n3 f3) ∧ Hid (Holds w' E 45 R))) := ⟨_, Lib.hid fun _ => Iff.rfl⟩
  refine wp_region_held_gen Sp (by kernel_rfl) ((hSp.out _).2 (HFs.out _ (Below.refl _ W1).drew)) ?_
  have hHeld : Sp _ := (hSp.out (World.drew _)).2 (HFs.out _ (Below.refl _ W1).drew)
  intro O hO
  refine held_read hO (i := 0) rfl rfl (by kernel_rfl) (fun _ _ _ _ h => h) ?_ hHeld ?_ ?_
  rotate_left 1
  · (intro w hSw; have hSw := (hSp.out _).1 hSw; go_simp; (try with_reducible rfl))
  try simp only [Act.put, List.setIfInBounds_toArray, List.set_cons_zero, List.set_cons_succ]
  refine held_read hO (i := 1) rfl rfl (by kernel_rfl) (fun _ _ _ _ h => h) ?_ hHeld ?_ ?_
  rotate_left 1
  · (intro w hSw; have hSw := (hSp.out _).1 hSw; go_simp; (try with_reducible rfl))
  try simp only [Act.put, List.setIfInBounds_toArray, List.set_cons_zero, List.set_cons_succ]
  refine held_read hO (i := 2) rfl rfl (by kernel_rfl) (fun _ _ _ _ h => h) ?_ hHeld ?_ ?_
  rotate_left 1
  · (intro w hSw; have hSw := (hSp.out _).1 hSw; go_simp; (try with_reducible rfl))
  try simp only [Act.put, List.setIfInBounds_toArray, List.set_cons_zero, List.set_cons_succ]
  refine held_read hO (i := 3) rfl rfl (by kernel_rfl) (fun _ _ _ _ h => h) ?_ hHeld ?_ ?_
  rotate_left 1
  · (intro w hSw; have hSw := (hSp.out _).1 hSw; go_simp; (try with_reducible rfl))
  try simp only [Act.put, List.setIfInBounds_toArray, List.set_cons_zero, List.set_cons_succ]
  refine held_read hO (i := 4) rfl rfl (by kernel_rfl) (fun _ _ _ _ h => h) ?_ hHeld ?_ ?_
  rotate_left 1
  · (intro w hSw; have hSw := (hSp.out _).1 hSw; go_simp; (try with_reducible rfl))
  try simp only [Act.put, List.setIfInBounds_toArray, List.set_cons_zero, List.set_cons_succ]
  refine held_read hO (i := 5) rfl rfl (by kernel_rfl) (fun _ _ _ _ h => h) ?_ hHeld ?_ ?_
  rotate_left 1
  · (intro w hSw; have hSw := (hSp.out _).1 hSw; go_simp; (try with_reducible rfl))
  try simp only [Act.put, List.setIfInBounds_toArray, List.set_cons_zero, List.set_cons_succ]
  refine held_read hO (i := 6) rfl rfl (by kernel_rfl) (fun _ _ _ _ h => h) (.agg #[.int .i64 s1, .int .i64 s2, .bool s3, .bool s4, .bool s5, .bool s6]) hHeld ?_ ?_
  · exact fun w hSw => exec_look _ _ 69 rfl ((hSp.out _).1 hSw).2.2.2.2.2.2.2.2.2.2.2.2.1.out lawInt31 Tryd.underlying69 zeroS.enc HZs.out rfl (.int .i64 se) (keyI se) rfl HK1.out H2.out
  try simp only [Act.put, List.setIfInBounds_toArray, List.set_cons_zero, List.set_cons_succ]
  refine held_step hO (i := 7) rfl rfl (by kernel_rfl) (fun K hK => ?_)
  go_simp
  clear hHeld
  have hHeld : Sp (W1.alloc (.cells #[.int .i64 0, .int .i64 0, .bool false, .bool false, .bool false, .bool false] 68)).drew := (hSp.out _).2 (HFs.out _ ((Below.refl _ W1).alloc (Nat.le_refl _) (.cells #[.int .i64 0, .int .i64 0, .bool false, .bool false, .bool false, .bool false] 68)).drew)
  refine hK.out _ _ hHeld ?_
  clear hK K
  try simp only [Act.put, List.setIfInBounds_toArray, List.set_cons_zero, List.set_cons_succ]
  refine held_step hO (i := 8) rfl rfl (by kernel_rfl) (fun K hK => ?_)
  go_simp
  clear hHeld
  have hHeld : Sp (W1.alloc (.cells #[.int .i64 s1, .int .i64 s2, .bool s3, .bool s4, .bool s5, .bool s6] 68)).drew := (hSp.out _).2 (HFs.out _ ((Below.refl _ W1).alloc (Nat.le_refl _) (.cells #[.int .i64 s1, .int .i64 s2, .bool s3, .bool s4, .bool s5, .bool s6] 68)).drew)
  refine hK.out _ _ hHeld ?_
  clear hK K
  try simp only [Act.put, List.setIfInBounds_toArray, List.set_cons_zero, List.set_cons_succ]
  refine held_done hO (by kernel_rfl) ?_
  clear hO O
  obtain ⟨a0, a1, a2, a3, a4, a5, a6, a7, a8, a9, a10, a11, _, _, a14⟩ := (hSp.out _).1 hHeld
  have HB := Lib.hid a0
  have HR1 := Lib.hid a14.out
  clear a0 a14 hHeld hSp Sp HFs
  have HSb : Hid (Holds (W1.alloc (.cells #[.int .i64 s1, .int .i64 s2, .bool s3, .bool s4, .bool s5, .bool s6] 68)).drew W1.heap.size 68 #[.int .i64 s1, .int .i64 s2, .bool s3, .bool s4, .bool s5, .bool s6]) := Lib.hid (Holds.new W1 _ _)
  generalize (W1.alloc (.cells #[.int .i64 s1, .int .i64 s2, .bool s3, .bool s4, .bool s5, .bool s6] 68)).drew = W2 at *
  have HCs : Hid (∀ W3, Below W2.heap.size W2 W3 → W3.cell? ⟨W1.heap.size, 0, none⟩ = some (.int .i64 s1) ∧ W3.cell? ⟨W1.heap.size, 1, none⟩ = some (.int .i64 s2) ∧ W3.cell? ⟨E, 7, none⟩ = some (.int .i64 sid)) := fun W3 h => by
    have hS : Holds W3 W1.heap.size 68 #[.int .i64 s1, .int .i64 s2, .bool s3, .bool s4, .bool s5, .bool s6] := (h.block W1.heap.size HSb.out.lt).trans HSb.out
    exact ⟨hS.cell 0, hS.cell 1, (h.cell (p := ⟨E, 7, none⟩) HR1.out.lt).trans a9⟩
  cases ex with
  | false =>
    have RV : Hid (rv = true) := by show rv = _; rw [RV.out]; rfl
    have tok : Hid True := trivial
    go_wp2_with (first
      | (clear tok; refine wpList_load_row rfl 45 _ rfl E rfl 45 R (0, 0) _ (by exact HR1.out) Tryd.underlying45 rfl (by rw [HRs.out]; exact sizeEvent) ?_)
      | (go_at_call 34; (with_reducible refine (HIx.out _).mono ?_); rintro e w3 ⟨rfl, b3⟩; obtain ⟨e1, e2, e3⟩ := HCs.out _ b3; have B3 : Hid (Below W1.heap.size W1 w3) := Lib.hid (HB.out.trans (b3.mono HB.out.size)); clear b3))
    go_ret
    exact ⟨by rw [RV.out]; rfl, BW.out.trans (B3.out.mono BW.out.size)⟩
  | true =>
    by_cases hz : s1 > 0
    · have q : decide (s1 > 0) = true := decide_eq_true hz
      have RV : Hid (rv = (sid == s2)) := by show rv = _; rw [RV.out, q]; rfl
      have tok : Hid True := trivial
      go_wp2_with (first
        | (clear tok; refine wpList_load_row rfl 45 _ rfl E rfl 45 R (0, 0) _ (by exact HR1.out) Tryd.underlying45 rfl (by rw [HRs.out]; exact sizeEvent) ?_)
        | (go_at_call 34; (with_reducible refine (HIx.out _).mono ?_); rintro e w3 ⟨rfl, b3⟩; obtain ⟨e1, e2, e3⟩ := HCs.out _ b3; have B3 : Hid (Below W1.heap.size W1 w3) := Lib.hid (HB.out.trans (b3.mono HB.out.size)); clear b3))
      go_ret
      exact ⟨by rw [RV.out]; rfl, BW.out.trans (B3.out.mono BW.out.size)⟩
    · have q : decide (s1 > 0) = false := decide_eq_false hz
      have RV : Hid (rv = false) := by show rv = _; rw [RV.out, q]; rfl
      have tok : Hid True := trivial
      go_wp2_with (first
        | (clear tok; refine wpList_load_row rfl 45 _ rfl E rfl 45 R (0, 0) _ (by exact HR1.out) Tryd.underlying45 rfl (by rw [HRs.out]; exact sizeEvent) ?_)
        | (go_at_call 34; (with_reducible refine (HIx.out _).mono ?_); rintro e w3 ⟨rfl, b3⟩; obtain ⟨e1, e2, e3⟩ := HCs.out _ b3; have B3 : Hid (Below W1.heap.size W1 w3) := Lib.hid (HB.out.trans (b3.mono HB.out.size)); clear b3))
      go_ret
      exact ⟨by rw [RV.out]; rfl, BW.out.trans (B3.out.mono BW.out.size)⟩
end Go.Proofs.YtpkkeeblgbdfdaaDoor
