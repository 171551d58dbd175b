/- Part 18 of what the statement wants. -/
import Derived.Test.YtpkkeeblgbdfdaaDoorPk13
namespace Go.Proofs.YtpkkeeblgbdfdaaDoor
open Go.RowKit Go.Maps Go.WideMaps

set_option maxHeartbeats 4000000 in
set_option maxRecDepth 100000 in
theorem ident_any {w0 W : World} {v : Value} {S : List Int} {l : List EvV} {k : Nat} (hp : PastAt w0 W v S l k) {x : EvV} (ho : ∀ u ∈ x.row.toList, CellOk u) :
    Calls Tryd.prog 32 #[.pointer (some ⟨w0.heap.size + 4, 0, none⟩), .agg x.row] W fun e w' => e = .returned (.int .i64 (if (sessS S l x.se k).ex > 0 then (sessS S l x.se k).id else x.dn.kh)) ∧ Below W.heap.size W w' := by
  obtain ⟨n2, n3, n4, n5, f2, f3, f4, f5, hm, _, _, _, _, o2, _⟩ := id hp
  have h2 := o2 x.se _ (keyI_ok (EvV.ok_se ho))
  have hf : ∀ W', Below (W.alloc (.cells x.row 45)).heap.size (W.alloc (.cells x.row 45)) W' → W'.cell? ⟨w0.heap.size + 4, 2, none⟩ = some (.map (some w0.heap.size)) ∧ W'.cell? ⟨W.heap.size, 1, none⟩ = some (.int .i64 x.se) ∧ W'.cell? ⟨W.heap.size, 30, none⟩ = some (.int .i64 x.dn.kh) ∧ Hid (MapF W' Tryd.prog 3 w0.heap.size n2 f2) := fun W' hw => by
    have ba : Below W.heap.size W (W.alloc (.cells x.row 45)) := (Below.refl _ W).alloc (Nat.le_refl _) _
    have bw : Below W.heap.size W W' := ba.trans (hw.mono ba.size)
    have hE : Holds W' W.heap.size 45 x.row := (hw.block _ (Holds.new W 45 x.row).lt).trans (Holds.new W _ _)
    have hm' := hm.keep bw
    exact ⟨hm'.box.cell 2, (cell_heap hE 1).trans rfl, (cell_heap hE 30).trans rfl, Lib.hid hm'.sess⟩
  have HK1 := Lib.hid (keyI_ok (EvV.ok_se ho))
  have HZs := Lib.hid zeroSess
  have H2 : Hid ((f2 (keyI x.se)).getD zeroS.enc = .agg #[.int .i64 (sessS S l x.se k).ex, .int .i64 (sessS S l x.se k).id, .bool (sessS S l x.se k).co, .bool (sessS S l x.se k).ac, .bool (sessS S l x.se k).le, .bool (sessS S l x.se k).en]) := Lib.hid h2
  obtain ⟨W1, hW⟩ : ∃ W1, Hid (W1 = W.alloc (.cells x.row 45)) := ⟨_, Lib.hid rfl⟩
  have BW : Hid (Below W.heap.size W W1) := by
    show Below _ _ _
    rw [hW.out]
    exact (Below.refl _ W).alloc (Nat.le_refl _) _
  rw [← hW.out] at hf
  have HF := Lib.hid hf
  clear hf h2 hp ho hm o2
  obtain ⟨E, hE⟩ : ∃ E, Hid (E = W.heap.size) := ⟨_, Lib.hid rfl⟩
  rw [← hE.out] at HF
  generalize hrv : (if (sessS S l x.se k).ex > 0 then (sessS S l x.se k).id else x.dn.kh) = rv
  have RV : rv = (if (sessS S l x.se k).ex > 0 then (sessS S l x.se k).id else x.dn.kh) := hrv.symm
  clear hrv
  generalize sessS S l x.se k = sv at *
  obtain ⟨s1, s2, s3, s4, s5, s6⟩ := sv
  try dsimp only at H2 RV
  generalize x.se = se at *
  generalize x.dn.kh = kh at *
  generalize x.row = R at *
  have HFs : Hid (∀ w', Below W1.heap.size W1 w' → (Below W1.heap.size W1 w' ∧ w'.cell? ⟨w0.heap.size + 4, 2, none⟩ = some (.map (some w0.heap.size)) ∧ w'.cell? ⟨E, 1, none⟩ = some (.int .i64 se) ∧ w'.cell? ⟨E, 30, none⟩ = some (.int .i64 kh) ∧ Hid (MapF w' Tryd.prog 3 w0.heap.size n2 f2))) := fun w' h => by
    obtain ⟨a1, a2, a3, a4⟩ := HF.out w' h
    exact ⟨h, a1, a2, a3, a4⟩
  clear HF
  go_enter Tryd.func32, Tryd.ntmps32
  go_upto_region 1 with fail
  rw [← hW.out, ← hE.out]
  clear hW hE
  obtain ⟨Sp, hSp⟩ : ∃ Sp : World → Prop, Hid (∀ w', Sp w' ↔ (Below W1.heap.size W1 w' ∧ w'.cell? ⟨w0.heap.size + 4, 2, none⟩ = some (.map (some w0.heap.size)) ∧ w'.cell? ⟨E, 1, none⟩ = some (.int .i64 se) ∧ w'.cell? ⟨E, 30, none⟩ = some (.int .i64 kh) ∧ Hid (MapF w' Tryd.prog 3 w0.heap.size n2 f2))) := ⟨_, Lib.hid fun _ => Iff.rfl⟩
  refine wp_region_held_gen Sp (by kernel_rfl) ((hSp.out _).2 (HFs.out _ (Below.refl _ W1).drew)) ?_
  have hHeld : Sp _ := (hSp.out (World.drew _)).2 (HFs.out _ (Below.refl _ W1).drew)
  intro O hO
  refine held_read hO (i := 0) rfl rfl (by kernel_rfl) (fun _ _ _ _ h => h) ?_ hHeld ?_ ?_
  rotate_left 1
  · (intro w hSw; have hSw := (hSp.out _).1 hSw; go_simp; (try with_reducible rfl))
  try simp only [Act.put, List.setIfInBounds_toArray, List.set_cons_zero, List.set_cons_succ]
  refine held_read hO (i := 1) rfl rfl (by kernel_rfl) (fun _ _ _ _ h => h) ?_ hHeld ?_ ?_
  rotate_left 1
  · (intro w hSw; have hSw := (hSp.out _).1 hSw; go_simp; (try with_reducible rfl))
  try simp only [Act.put, List.setIfInBounds_toArray, List.set_cons_zero, List.set_cons_succ]
  refine held_read hO (i := 2) rfl rfl (by kernel_rfl) (fun _ _ _ _ h => h) ?_ hHeld ?_ ?_
  rotate_left 1
  · (intro w hSw; have hSw := (hSp.out _).1 hSw; go_simp; (try with_reducible rfl))
  try simp only [Act.put, List.setIfInBounds_toArray, List.set_cons_zero, List.set_cons_succ]
  refine held_read hO (i := 3) rfl rfl (by kernel_rfl) (fun _ _ _ _ h => h) ?_ hHeld ?_ ?_
  rotate_left 1
  · (intro w hSw; have hSw := (hSp.out _).1 hSw; go_simp; (try with_reducible rfl))
  try simp only [Act.put, List.setIfInBounds_toArray, List.set_cons_zero, List.set_cons_succ]
  refine held_read hO (i := 4) rfl rfl (by kernel_rfl) (fun _ _ _ _ h => h) ?_ hHeld ?_ ?_
  rotate_left 1
  · (intro w hSw; have hSw := (hSp.out _).1 hSw; go_simp; (try with_reducible rfl))
  try simp only [Act.put, List.setIfInBounds_toArray, List.set_cons_zero, List.set_cons_succ]
  refine held_read hO (i := 5) rfl rfl (by kernel_rfl) (fun _ _ _ _ h => h) ?_ hHeld ?_ ?_
  rotate_left 1
  · (intro w hSw; have hSw := (hSp.out _).1 hSw; go_simp; (try with_reducible rfl))
  try simp only [Act.put, List.setIfInBounds_toArray, List.set_cons_zero, List.set_cons_succ]
  refine held_read hO (i := 6) rfl rfl (by kernel_rfl) (fun _ _ _ _ h => h) (.agg #[.int .i64 s1, .int .i64 s2, .bool s3, .bool s4, .bool s5, .bool s6]) hHeld ?_ ?_
  · exact fun w hSw => exec_look _ _ 69 rfl ((hSp.out _).1 hSw).2.2.2.2.out lawInt31 Tryd.underlying69 zeroS.enc HZs.out rfl (.int .i64 se) (keyI se) rfl HK1.out H2.out
  try simp only [Act.put, List.setIfInBounds_toArray, List.set_cons_zero, List.set_cons_succ]
  refine held_step hO (i := 7) rfl rfl (by kernel_rfl) (fun K hK => ?_)
  go_simp
  clear hHeld
  have hHeld : Sp (W1.alloc (.cells #[.int .i64 0, .int .i64 0, .bool false, .bool false, .bool false, .bool false] 68)).drew := (hSp.out _).2 (HFs.out _ ((Below.refl _ W1).alloc (Nat.le_refl _) (.cells #[.int .i64 0, .int .i64 0, .bool false, .bool false, .bool false, .bool false] 68)).drew)
  refine hK.out _ _ hHeld ?_
  clear hK K
  try simp only [Act.put, List.setIfInBounds_toArray, List.set_cons_zero, List.set_cons_succ]
  refine held_step hO (i := 8) rfl rfl (by kernel_rfl) (fun K hK => ?_)
  go_simp
  clear hHeld
  have hHeld : Sp (W1.alloc (.cells #[.int .i64 s1, .int .i64 s2, .bool s3, .bool s4, .bool s5, .bool s6] 68)).drew := (hSp.out _).2 (HFs.out _ ((Below.refl _ W1).alloc (Nat.le_refl _) (.cells #[.int .i64 s1, .int .i64 s2, .bool s3, .bool s4, .bool s5, .bool s6] 68)).drew)
  refine hK.out _ _ hHeld ?_
  clear hK K
  try simp only [Act.put, List.setIfInBounds_toArray, List.set_cons_zero, List.set_cons_succ]
  refine held_done hO (by kernel_rfl) ?_
  clear hO O
  have HB := Lib.hid ((hSp.out _).1 hHeld).1
  obtain ⟨_, a1, a2, a3, _⟩ := (hSp.out _).1 hHeld
  clear hHeld hSp Sp HFs
  have HSb : Hid (Holds (W1.alloc (.cells #[.int .i64 s1, .int .i64 s2, .bool s3, .bool s4, .bool s5, .bool s6] 68)).drew W1.heap.size 68 #[.int .i64 s1, .int .i64 s2, .bool s3, .bool s4, .bool s5, .bool s6]) := Lib.hid (Holds.new W1 _ _)
  generalize (W1.alloc (.cells #[.int .i64 s1, .int .i64 s2, .bool s3, .bool s4, .bool s5, .bool s6] 68)).drew = W2 at *
  have e0 : W2.cell? ⟨W1.heap.size, 0, none⟩ = some (.int .i64 s1) := HSb.out.cell 0
  have e1 : W2.cell? ⟨W1.heap.size, 1, none⟩ = some (.int .i64 s2) := HSb.out.cell 1
  have RVh := Lib.hid RV
  clear RV
  by_cases hz : s1 > 0
  · have q : decide (s1 > 0) = true := decide_eq_true hz
    have RV : Hid (rv = s2) := by show rv = _; rw [RVh.out, if_pos hz]
    go_wp2_with fail
    go_ret
    exact ⟨by rw [RV.out]; rfl, BW.out.trans (HB.out.mono BW.out.size)⟩
  · have q : decide (s1 > 0) = false := decide_eq_false hz
    have RV : Hid (rv = kh) := by show rv = _; rw [RVh.out, if_neg hz]
    go_wp2_with fail
    go_ret
    exact ⟨by rw [RV.out]; rfl, BW.out.trans (HB.out.mono BW.out.size)⟩
end Go.Proofs.YtpkkeeblgbdfdaaDoor
