/- Part 14 of what the statement wants. -/
import Derived.Test.YtpkkeeblgbdfdaaDoorPk13
namespace Go.Proofs.YtpkkeeblgbdfdaaDoor
open Go.RowKit Go.Maps Go.WideMaps

set_option maxHeartbeats 4000000 in
set_option maxRecDepth 100000 in
theorem rule6_any {w0 W : World} {v : Value} {S : List Int} {l : List EvV} {k : Nat} (hp : PastAt w0 W v S l k) {B : Nat} (hb : Holds W B 51 #[.pointer (some ⟨w0.heap.size + 4, 0, none⟩)]) {x : EvV} (hx : l[k]? = some x) (ho : ∀ u ∈ x.row.toList, CellOk u) (hi : IdsAt w0 v S) (hS : S.Pairwise (· < ·)) (hl : S.length ≤ 1000) (kind : Int) {KB : Nat} (hkb : Holds W KB 3 #[.int .i64 kind]) :
    Calls Tryd.prog 47 #[.agg x.row, .pointer (some ⟨KB, 0, none⟩), .pointer (some ⟨B, 0, none⟩)] W fun e w' => e = .returned (.bool ((!(x.ki == kind) || (!(askK S l k) || (srcK l k).isSome)))) ∧ Below W.heap.size W w' := by
  obtain ⟨n2, n3, n5, f2, f3, f5, hf, h2, h3, h5⟩ := rule_facts hp hb ho
  have HK1 := Lib.hid (keyI_ok (EvV.ok_se ho))
  have HK3 := Lib.hid (keyI_ok (EvV.ok_wh ho))
  have HZs := Lib.hid zeroSess
  have HZi := Lib.hid zeroInt32
  have H2 := Lib.hid h2
  have H3 := Lib.hid h3
  have HRs : Hid (x.row.size = 34) := rfl
  obtain ⟨W1, hW⟩ : ∃ W1, Hid (W1 = W.alloc (.cells x.row 45)) := ⟨_, Lib.hid rfl⟩
  have BW : Hid (Below W.heap.size W W1) := by
    show Below _ _ _
    rw [hW.out]
    exact (Below.refl _ W).alloc (Nat.le_refl _) _
  rw [← hW.out] at hf
  have HF := Lib.hid hf
  have HAsk : Hid (∀ W', Below W1.heap.size W1 W' → Calls Tryd.prog 39 #[.pointer (some ⟨w0.heap.size + 4, 0, none⟩), .agg x.row] W' fun e w' => e = .returned (.bool (askK S l k)) ∧ Below W'.heap.size W' w') := fun W' h => (hp.keep (BW.out.trans (h.mono BW.out.size))).asked hi hS hl hx ho
  have HSrc : Hid (∀ W', Below W1.heap.size W1 W' → Calls Tryd.prog 38 #[.pointer (some ⟨w0.heap.size + 4, 0, none⟩), .agg x.row] W' fun e w' => e = .returned (.tuple #[.int .i64 (((srcK l k).getD 0 : Nat) : Int), .bool (srcK l k).isSome]) ∧ Below W'.heap.size W' w') := fun W' h => (hp.keep (BW.out.trans (h.mono BW.out.size))).source hx ho
  have hck : ∀ W', Below W1.heap.size W1 W' → W'.cell? ⟨KB, 0, none⟩ = some (.int .i64 kind) := fun W' h => (Holds.cell (((BW.out.trans (h.mono BW.out.size)).block _ hkb.lt).trans hkb) 0)
  have HCk := Lib.hid hck
  clear hf h2 h3 h5 hp hb ho hx hck hkb hi hS hl H2 H3
  obtain ⟨E, hE⟩ : ∃ E, Hid (E = W.heap.size) := ⟨_, Lib.hid rfl⟩
  rw [← hE.out] at HF
  generalize sessS S l x.se k = sv at *
  generalize hrv : (!(x.ki == kind) || (!(askK S l k) || (srcK l k).isSome)) = rv
  have RV := Lib.hid hrv
  clear hrv
  generalize askK S l k = ak at *
  generalize (srcK l k).isSome = si at *
  generalize (srcK l k).getD 0 = sg at *
  generalize x.ki = ki at *
  generalize x.se = se at *
  generalize x.nu = nu at *
  generalize x.wh = wh at *
  generalize x.sid = sid at *
  generalize x.dn.kh = kh at *
  generalize x.dn.ks = ks at *
  generalize x.row = R at *
  have HFs : Hid (∀ w', Below W1.heap.size W1 w' → (Below W1.heap.size W1 w' ∧ w'.cell? ⟨B, 0, none⟩ = some (.pointer (some ⟨w0.heap.size + 4, 0, none⟩)) ∧ w'.cell? ⟨w0.heap.size + 4, 2, none⟩ = some (.map (some w0.heap.size)) ∧ w'.cell? ⟨w0.heap.size + 4, 3, none⟩ = some (.map (some (w0.heap.size + 1))) ∧ w'.cell? ⟨w0.heap.size + 4, 5, none⟩ = some (.map (some (w0.heap.size + 3))) ∧ w'.cell? ⟨E, 0, none⟩ = some (.int .i64 ki) ∧ w'.cell? ⟨E, 1, none⟩ = some (.int .i64 se) ∧ w'.cell? ⟨E, 2, none⟩ = some (.int .i64 nu) ∧ w'.cell? ⟨E, 3, none⟩ = some (.int .i64 wh) ∧ w'.cell? ⟨E, 7, none⟩ = some (.int .i64 sid) ∧ w'.cell? ⟨E, 30, none⟩ = some (.int .i64 kh) ∧ w'.cell? ⟨E, 31, none⟩ = some (.int .i64 ks) ∧ Hid (MapF w' Tryd.prog 3 w0.heap.size n2 f2) ∧ Hid (MapF w' Tryd.prog 3 (w0.heap.size + 1) n3 f3) ∧ Hid (Holds w' E 45 R))) := fun w' h => by
    obtain ⟨a1, a2, a3, a4, a5, a6, a7, a8, a9, a10, a11, a12, a13, a14, a15, _⟩ := HF.out w' h
    exact ⟨h, a1, a2, a3, a4, a5, a6, a7, a8, a9, a10, a11, a13, a14, a12⟩
  clear HF
  by_cases hk : ki = kind
  case neg =>
    have q : (ki != kind) = true := by simp [hk]
    have q' : (ki == kind) = false := by rw [beq_eq_false_iff_ne]; exact hk
    have RV : Hid (rv = true) := by show rv = _; rw [← RV.out, q']; rfl
    obtain ⟨_, a1, _, _, _, a5, _, _, _, _, _, _, _, _, a14⟩ := HFs.out W1 (Below.refl _ _)
    have ck := HCk.out W1 (Below.refl _ _)
    have HR1 := Lib.hid a14.out
    clear a14
    go_enter Tryd.func47, Tryd.ntmps47
    go_upto_region 1 with fail
    rw [← hW.out, ← hE.out]
    clear hW hE
    go_wp2_with fail
    go_ret
    exact ⟨by rw [RV.out]; rfl, BW.out⟩
  case pos =>
    have q : (ki != kind) = false := by simp [hk]
    have q' : (ki == kind) = true := by rw [hk]; exact beq_self_eq_true _
    clear hk
    cases ak with
    | false =>
      have RV : Hid (rv = true) := by show rv = _; rw [← RV.out, q']; rfl
      have tok : Hid True := trivial
      obtain ⟨_, a1, _, _, _, a5, _, _, _, _, _, _, _, _, a14⟩ := HFs.out W1 (Below.refl _ _)
      have ck := HCk.out W1 (Below.refl _ _)
      have HR1 := Lib.hid a14.out
      clear a14
      go_enter Tryd.func47, Tryd.ntmps47
      go_upto_region 1 with fail
      rw [← hW.out, ← hE.out]
      clear hW hE
      go_wp2_with (first
        | (clear tok; refine wpList_load_row_on rfl 45 _ rfl E rfl 45 R (0, 0) _ (by exact HR1.out) Tryd.underlying45 rfl (by rw [HRs.out]; exact sizeEvent) ?_)
        | (go_at_call 39; (with_reducible refine (HAsk.out _ (Below.refl _ _)).mono ?_); rintro e w2 ⟨rfl, b2⟩; have B2 := Lib.hid b2; clear b2))
      go_ret
      exact ⟨by rw [RV.out]; rfl, BW.out.trans (B2.out.mono BW.out.size)⟩
    | true =>
      have RV : Hid (rv = si) := by show rv = _; rw [← RV.out, q']; rfl
      have tok : Hid True := trivial
      have tok2 : Hid True := trivial
      obtain ⟨_, a1, _, _, _, a5, _, _, _, _, _, _, _, _, a14⟩ := HFs.out W1 (Below.refl _ _)
      have ck := HCk.out W1 (Below.refl _ _)
      have HR1 := Lib.hid a14.out
      clear a14
      go_enter Tryd.func47, Tryd.ntmps47
      go_upto_region 1 with fail
      rw [← hW.out, ← hE.out]
      clear hW hE
      go_wp2_with (first
        | (clear tok; refine wpList_load_row_on rfl 45 _ rfl E rfl 45 R (0, 0) _ (by exact HR1.out) Tryd.underlying45 rfl (by rw [HRs.out]; exact sizeEvent) ?_)
        | (go_at_call 39; (with_reducible refine (HAsk.out _ (Below.refl _ _)).mono ?_); rintro e w2 ⟨rfl, b2⟩; have B2 := Lib.hid b2; have HR2 : Hid (Holds w2 E 45 R) := Lib.hid ((b2.block _ HR1.out.lt).trans HR1.out); obtain ⟨_, y1, _⟩ := HFs.out w2 b2; clear b2)
        | (clear tok2; refine wpList_load_row rfl 45 _ rfl E rfl 45 R (0, 0) _ (by exact HR2.out) Tryd.underlying45 rfl (by rw [HRs.out]; exact sizeEvent) ?_)
        | (go_at_call 38; (with_reducible refine (HSrc.out _ B2.out).mono ?_); rintro e w3 ⟨rfl, b3⟩; have B3 := Lib.hid (B2.out.trans (b3.mono B2.out.size)); clear b3))
      go_ret
      exact ⟨by rw [RV.out]; rfl, BW.out.trans (B3.out.mono BW.out.size)⟩
set_option maxHeartbeats 4000000 in
set_option maxRecDepth 100000 in
theorem rule9_any {w0 W : World} {v : Value} {S : List Int} {l : List EvV} {k : Nat} (hp : PastAt w0 W v S l k) {B : Nat} (hb : Holds W B 51 #[.pointer (some ⟨w0.heap.size + 4, 0, none⟩)]) {x : EvV} (hx : l[k]? = some x) (ho : ∀ u ∈ x.row.toList, CellOk u) (hi : IdsAt w0 v S) (hS : S.Pairwise (· < ·)) (hl : S.length ≤ 1000) (hk : k ≤ 1000) :
    Calls Tryd.prog 37 #[.agg x.row, .pointer (some ⟨B, 0, none⟩)] W fun e w' => e = .returned (.bool (ruleB S l k x 9)) ∧ Below W.heap.size W w' := by
  obtain ⟨n2, n3, n5, f2, f3, f5, hf, h2, h3, h5⟩ := rule_facts hp hb ho
  have HK1 := Lib.hid (keyI_ok (EvV.ok_se ho))
  have HK3 := Lib.hid (keyI_ok (EvV.ok_wh ho))
  have HZs := Lib.hid zeroSess
  have HZi := Lib.hid zeroInt32
  have H2 := Lib.hid h2
  have H3 := Lib.hid h3
  have HRs : Hid (x.row.size = 34) := rfl
  obtain ⟨W1, hW⟩ : ∃ W1, Hid (W1 = W.alloc (.cells x.row 45)) := ⟨_, Lib.hid rfl⟩
  have BW : Hid (Below W.heap.size W W1) := by
    show Below _ _ _
    rw [hW.out]
    exact (Below.refl _ W).alloc (Nat.le_refl _) _
  rw [← hW.out] at hf
  have HF := Lib.hid hf
  have HAsk : Hid (∀ W', Below W1.heap.size W1 W' → Calls Tryd.prog 39 #[.pointer (some ⟨w0.heap.size + 4, 0, none⟩), .agg x.row] W' fun e w' => e = .returned (.bool (askK S l k)) ∧ Below W'.heap.size W' w') := fun W' h => (hp.keep (BW.out.trans (h.mono BW.out.size))).asked hi hS hl hx ho
  have HSrc : Hid (∀ W', Below W1.heap.size W1 W' → Calls Tryd.prog 38 #[.pointer (some ⟨w0.heap.size + 4, 0, none⟩), .agg x.row] W' fun e w' => e = .returned (.tuple #[.int .i64 (((srcK l k).getD 0 : Nat) : Int), .bool (srcK l k).isSome]) ∧ Below W'.heap.size W' w') := fun W' h => (hp.keep (BW.out.trans (h.mono BW.out.size))).source hx ho
  have HLk : Hid (∀ W', Below W1.heap.size W1 W' → ∃ z, (Instr.lookup 70 (.map (some (w0.heap.size + 3))) (.int .i64 (((srcK l k).getD 0 : Nat) : Int)) true).run Tryd.prog W' = .ok (.tuple #[z, .bool (usdK S l k (((srcK l k).getD 0 : Nat) : Int))]) W') := fun W' h => by
    have hkey : keyOf Tryd.prog 3 (.int .i64 (((srcK l k).getD 0 : Nat) : Int)) = some (keyI (((srcK l k).getD 0 : Nat) : Int)) := keyI_ok (int_ok32 (by
      cases hs : srcK l k with
      | none => simp
      | some i => have := srcK_lt hs; simp; omega))
    obtain ⟨_, _, _, _, _, _, _, _, _, _, _, _, _, _, a15, _⟩ := hf W' h
    have h9 := a15.out.look_ok lawInt31 Tryd.underlying70 (zeroInt32 W') hkey
    rw [h5 _ hkey] at h9
    exact ⟨_, h9⟩
  clear hf h2 h3 h5 hp hb ho hx hi hS hl H2 H3
  obtain ⟨E, hE⟩ : ∃ E, Hid (E = W.heap.size) := ⟨_, Lib.hid rfl⟩
  rw [← hE.out] at HF
  generalize sessS S l x.se k = sv at *
  have RV : Hid (ruleB S l k x 9 = (!(srcK l k).isSome || (!(askK S l k) || !(usdK S l k (((srcK l k).getD 0 : Nat) : Int))))) := rfl
  generalize ruleB S l k x 9 = rv at *
  generalize askK S l k = ak at *
  generalize usdK S l k (((srcK l k).getD 0 : Nat) : Int) = us at *
  generalize (srcK l k).isSome = si at *
  generalize (srcK l k).getD 0 = sg at *
  generalize x.ki = ki at *
  generalize x.se = se at *
  generalize x.nu = nu at *
  generalize x.wh = wh at *
  generalize x.sid = sid at *
  generalize x.dn.kh = kh at *
  generalize x.dn.ks = ks at *
  generalize x.row = R at *
  have HFs : Hid (∀ w', Below W1.heap.size W1 w' → (Below W1.heap.size W1 w' ∧ w'.cell? ⟨B, 0, none⟩ = some (.pointer (some ⟨w0.heap.size + 4, 0, none⟩)) ∧ w'.cell? ⟨w0.heap.size + 4, 2, none⟩ = some (.map (some w0.heap.size)) ∧ w'.cell? ⟨w0.heap.size + 4, 3, none⟩ = some (.map (some (w0.heap.size + 1))) ∧ w'.cell? ⟨w0.heap.size + 4, 5, none⟩ = some (.map (some (w0.heap.size + 3))) ∧ w'.cell? ⟨E, 0, none⟩ = some (.int .i64 ki) ∧ w'.cell? ⟨E, 1, none⟩ = some (.int .i64 se) ∧ w'.cell? ⟨E, 2, none⟩ = some (.int .i64 nu) ∧ w'.cell? ⟨E, 3, none⟩ = some (.int .i64 wh) ∧ w'.cell? ⟨E, 7, none⟩ = some (.int .i64 sid) ∧ w'.cell? ⟨E, 30, none⟩ = some (.int .i64 kh) ∧ w'.cell? ⟨E, 31, none⟩ = some (.int .i64 ks) ∧ Hid (MapF w' Tryd.prog 3 w0.heap.size n2 f2) ∧ Hid (MapF w' Tryd.prog 3 (w0.heap.size + 1) n3 f3) ∧ Hid (Holds w' E 45 R))) := fun w' h => by
    obtain ⟨a1, a2, a3, a4, a5, a6, a7, a8, a9, a10, a11, a12, a13, a14, a15, _⟩ := HF.out w' h
    exact ⟨h, a1, a2, a3, a4, a5, a6, a7, a8, a9, a10, a11, a13, a14, a12⟩
  clear HF
  cases si with
  | false =>
    have RV : Hid (rv = true) := by show rv = _; rw [RV.out]; rfl
    obtain ⟨_, a1, _, _, a4, _, _, _, _, _, _, _, _, _, a14⟩ := HFs.out W1 (Below.refl _ _)
    have HR1 := Lib.hid a14.out
    clear a14
    have tok : Hid True := trivial
    go_enter Tryd.func37, Tryd.ntmps37
    go_upto_region 1 with fail
    rw [← hW.out, ← hE.out]
    clear hW hE
    go_wp2_with (first
      | (clear tok; refine wpList_load_row rfl 45 _ rfl E rfl 45 R (0, 0) _ (by exact HR1.out) Tryd.underlying45 rfl (by rw [HRs.out]; exact sizeEvent) ?_)
      | (go_at_call 38; (with_reducible refine (HSrc.out _ (Below.refl _ _)).mono ?_); rintro e w2 ⟨rfl, b2⟩; have B2 := Lib.hid b2; have HR2 : Hid (Holds w2 E 45 R) := Lib.hid ((b2.block _ HR1.out.lt).trans HR1.out); obtain ⟨_, y1, _, _, y4, _⟩ := HFs.out w2 b2; obtain ⟨z, lk⟩ := HLk.out w2 b2; clear b2))
    go_ret
    exact ⟨by rw [RV.out]; rfl, BW.out.trans (B2.out.mono BW.out.size)⟩
  | true =>
    cases ak with
    | false =>
      have RV : Hid (rv = true) := by show rv = _; rw [RV.out]; rfl
      have tok2 : Hid True := trivial
      obtain ⟨_, a1, _, _, a4, _, _, _, _, _, _, _, _, _, a14⟩ := HFs.out W1 (Below.refl _ _)
      have HR1 := Lib.hid a14.out
      clear a14
      have tok : Hid True := trivial
      go_enter Tryd.func37, Tryd.ntmps37
      go_upto_region 1 with fail
      rw [← hW.out, ← hE.out]
      clear hW hE
      go_wp2_with (first
        | (clear tok; refine wpList_load_row rfl 45 _ rfl E rfl 45 R (0, 0) _ (by exact HR1.out) Tryd.underlying45 rfl (by rw [HRs.out]; exact sizeEvent) ?_)
        | (go_at_call 38; (with_reducible refine (HSrc.out _ (Below.refl _ _)).mono ?_); rintro e w2 ⟨rfl, b2⟩; have B2 := Lib.hid b2; have HR2 : Hid (Holds w2 E 45 R) := Lib.hid ((b2.block _ HR1.out.lt).trans HR1.out); obtain ⟨_, y1, _, _, y4, _⟩ := HFs.out w2 b2; obtain ⟨z, lk⟩ := HLk.out w2 b2; clear b2)
        | (clear tok2; refine wpList_load_row_on rfl 45 _ rfl E rfl 45 R (0, 0) _ (by exact HR2.out) Tryd.underlying45 rfl (by rw [HRs.out]; exact sizeEvent) ?_)
        | (go_at_call 39; (with_reducible refine (HAsk.out _ B2.out).mono ?_); rintro e w3 ⟨rfl, b3⟩; have B3 := Lib.hid (B2.out.trans (b3.mono B2.out.size)); clear b3))
      go_ret
      exact ⟨by rw [RV.out]; rfl, BW.out.trans (B3.out.mono BW.out.size)⟩
    | true =>
      have RV : Hid (rv = !us) := by show rv = _; rw [RV.out]; rfl
      have tok2 : Hid True := trivial
      obtain ⟨_, a1, _, _, a4, _, _, _, _, _, _, _, _, _, a14⟩ := HFs.out W1 (Below.refl _ _)
      have HR1 := Lib.hid a14.out
      clear a14
      have tok : Hid True := trivial
      go_enter Tryd.func37, Tryd.ntmps37
      go_upto_region 1 with fail
      rw [← hW.out, ← hE.out]
      clear hW hE
      go_wp2_with (first
        | (clear tok; refine wpList_load_row rfl 45 _ rfl E rfl 45 R (0, 0) _ (by exact HR1.out) Tryd.underlying45 rfl (by rw [HRs.out]; exact sizeEvent) ?_)
        | (go_at_call 38; (with_reducible refine (HSrc.out _ (Below.refl _ _)).mono ?_); rintro e w2 ⟨rfl, b2⟩; have B2 := Lib.hid b2; have HR2 : Hid (Holds w2 E 45 R) := Lib.hid ((b2.block _ HR1.out.lt).trans HR1.out); obtain ⟨_, y1, _, _, y4, _⟩ := HFs.out w2 b2; obtain ⟨z, lk⟩ := HLk.out w2 b2; clear b2)
        | (clear tok2; refine wpList_load_row_on rfl 45 _ rfl E rfl 45 R (0, 0) _ (by exact HR2.out) Tryd.underlying45 rfl (by rw [HRs.out]; exact sizeEvent) ?_)
        | (go_at_call 39; (with_reducible refine (HAsk.out _ B2.out).mono ?_); rintro e w3 ⟨rfl, b3⟩; have B3 := Lib.hid (B2.out.trans (b3.mono B2.out.size)); clear b3))
      go_ret
      exact ⟨by rw [RV.out]; rfl, BW.out.trans (B3.out.mono BW.out.size)⟩
end Go.Proofs.YtpkkeeblgbdfdaaDoor
