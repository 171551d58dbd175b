/- Layer 32: Source and Asked of the program. -/
import Derived.Test.YtpkkeeblgbdfdaaAgFp
namespace Go.Proofs.Ytpkkeeblgbdfdaa
open Go.RowKit Go.Maps Go.WideMaps

set_option maxHeartbeats 4000000 in
set_option maxRecDepth 100000 in
theorem agSource_any {w : World} {v : Value} {l : List EvV} (h : EvsAt w v l) (hl : l.length ≤ 900) (ho : ∀ x ∈ l, ∀ u ∈ x.row.toList, CellOk u) (n : Int) :
    Calls Try.prog 7 #[v, .int .i64 n] w fun e w' => e = .returned (.tuple #[.int .i64 (((srcI l n).getD 0 : Nat) : Int), .bool (srcI l n).isSome]) ∧ Below w.heap.size w w' := by
  have hB := @before_any w v l h hl ho
  obtain ⟨h1, ao, cap, rfl, hcap, haf⟩ := h
  have HEx := Lib.hid fun W => exists_any ao cap l n W
  cases hex : existsB l n with
  | false =>
    have HZ : Hid (srcI l n = none) := by show _ = _; unfold srcI; rw [hex]; rfl
    rw [hex] at HEx
    clear h1 haf hB
    go_enter Try.func7, Try.ntmps7
    go_wp2_with (first | (go_at_call 11; (with_reducible refine (HEx.out _).mono ?_); rintro e w1 ⟨rfl, hw⟩; have hw := hw.symm; subst hw))
    go_ret2
    exact ⟨by rw [HZ.out]; rfl, Below.refl _ _⟩
  | true =>
    obtain ⟨k, rfl, hk⟩ := existsB_nat hex
    have HZ : Hid (srcI l (k : Int) = srcK l k) := by show _ = _; unfold srcI; rw [hex, Int.toNat_natCast]; rfl
    rw [hex] at HEx
    have HB : Hid (∀ W, Below w.heap.size w W → Calls Try.prog 12 #[.slice ao l.length cap, .int .i64 (k : Int)] W fun e w' => ∃ p, e = .returned (.pointer (some ⟨p, 0, none⟩)) ∧ Below W.heap.size W w' ∧ Hid (∀ W2, Below w'.heap.size w' W2 → Calls Try.prog 13 #[.pointer (some ⟨p, 0, none⟩), .agg (l[k]).row] W2 fun e w3 => e = .returned (.tuple #[.int .i64 (((srcK l k).getD 0 : Nat) : Int), .bool (srcK l k).isSome]) ∧ Below W2.heap.size W2 w3)) := fun W hw => by
      have hE : EvsAt W (.slice ao l.length cap) l := ⟨h1.below hw, ao, cap, rfl, hcap, haf⟩
      refine (before_any hE hl ho hk).mono ?_
      rintro e w' ⟨w0, v', rfl, hp, hi, hb, _⟩
      exact ⟨_, rfl, hb, Lib.hid fun W2 h2 => (hp.keep h2).source (List.getElem?_eq_getElem hk) (ho _ (List.getElem_mem hk))⟩
    have HRd : Hid (∃ b off, ao = some ⟨b, off, none⟩ ∧ Hid (∀ W, Below w.heap.size w W → ∀ j u, (l[k]).row[j]? = some u → W.cell? ((⟨b, off + k * 34, none⟩ : Addr).add j) = some u)) := by
      obtain ⟨ao', cap', he, hc⟩ := h1
      simp only [Value.slice.injEq, true_and] at he
      obtain ⟨b, off, e, hb, hcell⟩ := hc (by rintro rfl; simp at hk)
      refine ⟨b, off, he.1.trans e, Lib.hid fun W hw j u hj => ?_⟩
      rw [Addr.add_lit]
      exact (hw.cell (p := ⟨b, off + k * 34 + j, none⟩) hb).trans (hcell k _ (List.getElem?_eq_getElem hk) j u hj)
    have HS : Hid ((l[k]).row.size = 34) := rfl
    have hki : (k : Int) < (l.length : Int) := by omega
    clear h1 haf hB ho
    obtain ⟨b, off, rfl, HRd2⟩ := HRd.out
    have HL := Lib.hid (HRd2.out w (Below.refl _ _))
    clear HRd
    generalize (l[k]).row = R at *
    go_enter Try.func7, Try.ntmps7
    go_upto_region 3 with (first | (go_at_call 11; (with_reducible refine (HEx.out _).mono ?_); rintro e w1 ⟨rfl, hw⟩; have hw := hw.symm; subst hw))
    clear HEx hex
    obtain ⟨Sp, hSp⟩ : ∃ Sp : World → Prop, Hid (∀ w', Sp w' ↔ (Below w.heap.size w w' ∧ Hid (∀ j u, R[j]? = some u → w'.cell? ((⟨b, off + k * 34, none⟩ : Addr).add j) = some u))) := ⟨_, Lib.hid fun _ => Iff.rfl⟩
    refine wp_region_held_gen Sp (by kernel_rfl) ((hSp.out _).2 ⟨(Below.refl _ _).drew, HL⟩) ?_
    have hHeld : Sp _ := (hSp.out (World.drew _)).2 ⟨(Below.refl _ _).drew, HL⟩
    intro O hO
    refine held_read hO (i := 0) rfl rfl (by kernel_rfl) (fun _ _ _ _ h => h) ?_ hHeld ?_ ?_
    rotate_left 1
    · (intro w hSw; have hSw := (hSp.out _).1 hSw; go_simp; (try with_reducible rfl))
    try simp only [Act.put, List.setIfInBounds_toArray, List.set_cons_zero, List.set_cons_succ]
    refine held_read hO (i := 1) rfl rfl (by kernel_rfl) (fun _ _ _ _ h => h) ?_ hHeld ?_ ?_
    rotate_left 1
    · (intro w hSw; have hSw := (hSp.out _).1 hSw; go_simp; (try with_reducible rfl))
    try simp only [Act.put, List.setIfInBounds_toArray, List.set_cons_zero, List.set_cons_succ]
    refine held_read hO (i := 3) rfl rfl (by kernel_rfl) (fun _ _ _ _ h => h) ?_ hHeld ?_ ?_
    rotate_left 1
    · (intro w hSw; have hSw := (hSp.out _).1 hSw; go_simp; (try with_reducible rfl))
    try simp only [Act.put, List.setIfInBounds_toArray, List.set_cons_zero, List.set_cons_succ]
    refine held_read hO (i := 4) rfl rfl (by kernel_rfl) (fun _ _ _ _ h => h) ?_ hHeld ?_ ?_
    rotate_left 1
    · (intro w hSw; have hSw := (hSp.out _).1 hSw; go_simp; (try with_reducible rfl))
    try simp only [Act.put, List.setIfInBounds_toArray, List.set_cons_zero, List.set_cons_succ]
    refine held_read hO (i := 5) rfl rfl (by kernel_rfl) (fun _ _ _ _ h => h) ?_ hHeld ?_ ?_
    rotate_left 1
    · (intro w hSw; have hSw := (hSp.out _).1 hSw; go_simp; (try with_reducible rfl))
    try simp only [Act.put, List.setIfInBounds_toArray, List.set_cons_zero, List.set_cons_succ]
    refine held_read hO (i := 6) rfl rfl (by kernel_rfl) (fun _ _ _ _ h => h) (.agg R) hHeld ?_ ?_
    · exact fun w hSw => exec_load_cells 37 _ rfl ⟨b, off + k * 34, none⟩ rfl R _ ((hSp.out _).1 hSw).2.out Try.underlying37 rfl (by rw [HS.out]; exact sizeEvent)
    try simp only [Act.put, List.setIfInBounds_toArray, List.set_cons_zero, List.set_cons_succ]
    refine held_step hO (i := 2) rfl rfl (by kernel_rfl) (fun K hK => ?_)
    go_simp
    go_at_call 12
    with_reducible refine (HB.out _ (Below.refl _ _).drew).mono ?_
    rintro e w2 ⟨p, rfl, b2, hS2⟩
    have B2 : Hid (Below w.heap.size w w2) := Lib.hid (((Below.refl _ _).drew : Below w.heap.size w _).trans (b2.mono ((Below.refl _ _).drew : Below w.heap.size w _).size))
    clear b2
    go_wp2_with fail
    clear hHeld
    have hHeld : Sp _ := (hSp.out _).2 ⟨B2.out, Lib.hid (HRd2.out _ B2.out)⟩
    refine hK.out _ _ hHeld ?_
    clear hK K
    try simp only [Act.put, List.setIfInBounds_toArray, List.set_cons_zero, List.set_cons_succ]
    refine held_step hO (i := 7) rfl rfl (by kernel_rfl) (fun K hK => ?_)
    go_simp
    go_at_call 13
    with_reducible refine (hS2.out _ (Below.refl _ _)).mono ?_
    rintro e w3 ⟨rfl, b3⟩
    have B3 : Hid (Below w.heap.size w w3) := Lib.hid (B2.out.trans (b3.mono B2.out.size))
    clear b3
    go_wp2_with fail
    clear hHeld
    have hHeld : Sp _ := (hSp.out _).2 ⟨B3.out, Lib.hid (HRd2.out _ B3.out)⟩
    refine hK.out _ _ hHeld ?_
    clear hK K
    try simp only [Act.put, List.setIfInBounds_toArray, List.set_cons_zero, List.set_cons_succ]
    refine held_read hO (i := 8) rfl rfl (by kernel_rfl) (fun _ _ _ _ h => h) ?_ hHeld ?_ ?_
    rotate_left 1
    · (intro w hSw; have hSw := (hSp.out _).1 hSw; go_simp; (try with_reducible rfl))
    try simp only [Act.put, List.setIfInBounds_toArray, List.set_cons_zero, List.set_cons_succ]
    refine held_read hO (i := 9) rfl rfl (by kernel_rfl) (fun _ _ _ _ h => h) ?_ hHeld ?_ ?_
    rotate_left 1
    · (intro w hSw; have hSw := (hSp.out _).1 hSw; go_simp; (try with_reducible rfl))
    try simp only [Act.put, List.setIfInBounds_toArray, List.set_cons_zero, List.set_cons_succ]
    refine held_read hO (i := 10) rfl rfl (by kernel_rfl) (fun _ _ _ _ h => h) ?_ hHeld ?_ ?_
    rotate_left 1
    · (intro w hSw; have hSw := (hSp.out _).1 hSw; go_simp; (try with_reducible rfl))
    try simp only [Act.put, List.setIfInBounds_toArray, List.set_cons_zero, List.set_cons_succ]
    refine held_read hO (i := 11) rfl rfl (by kernel_rfl) (fun _ _ _ _ h => h) ?_ hHeld ?_ ?_
    rotate_left 1
    · (intro w hSw; have hSw := (hSp.out _).1 hSw; go_simp; (try with_reducible rfl))
    try simp only [Act.put, List.setIfInBounds_toArray, List.set_cons_zero, List.set_cons_succ]
    refine held_done hO (by kernel_rfl) ?_
    clear hO O
    go_wp2_with fail
    go_ret2
    exact ⟨by rw [HZ.out]; rfl, B3.out⟩
end Go.Proofs.Ytpkkeeblgbdfdaa
