/- Part 21 of what the statement wants. -/
import Derived.Test.YtpkkeeblgbdfdaaDoorPk13
import Derived.Test.YtpkkeeblgbdfdaaDoorPk16
import Derived.Test.YtpkkeeblgbdfdaaDoorPk17
import Derived.Test.YtpkkeeblgbdfdaaDoorPk19
import Derived.Test.YtpkkeeblgbdfdaaDoorPk20
namespace Go.Proofs.YtpkkeeblgbdfdaaDoor
open Go.RowKit Go.Maps Go.WideMaps

set_option maxHeartbeats 4000000 in
set_option maxRecDepth 100000 in
theorem rule5_any {w0 W : World} {v : Value} {S : List Int} {l : List EvV} {k : Nat} (hp : PastAt w0 W v S l k) {B : Nat} (hb : Holds W B 51 #[.pointer (some ⟨w0.heap.size + 4, 0, none⟩)]) {x : EvV} (hx : l[k]? = some x) (ho : ∀ u ∈ x.row.toList, CellOk u) :
    Calls Tryd.prog 35 #[.agg x.row, .pointer (some ⟨B, 0, none⟩)] W fun e w' => e = .returned (.bool (ruleB S l k x 5)) ∧ Below W.heap.size W w' := by
  obtain ⟨n2, n3, n5, f2, f3, f5, hf, h2, h3, h5⟩ := rule_facts hp hb ho
  have HK1 := Lib.hid (keyI_ok (EvV.ok_se ho))
  have HK3 := Lib.hid (keyI_ok (EvV.ok_wh ho))
  have HZs := Lib.hid zeroSess
  have HZi := Lib.hid zeroInt32
  have H2 := Lib.hid h2
  have H3 := Lib.hid h3
  have HRs : Hid (x.row.size = 34) := rfl
  obtain ⟨W1, hW⟩ : ∃ W1, Hid (W1 = W.alloc (.cells x.row 45)) := ⟨_, Lib.hid rfl⟩
  have BW : Hid (Below W.heap.size W W1) := by
    show Below _ _ _
    rw [hW.out]
    exact (Below.refl _ W).alloc (Nat.le_refl _) _
  rw [← hW.out] at hf
  have HF := Lib.hid hf
  have RV : ruleB S l k x 5 = !(((x.ki == 4) && (sessS S l x.se k).ac) || ((x.ki == 5) && (sessS S l x.se k).le)) := rfl
  clear hf h2 h3 h5 hp hb ho hx
  obtain ⟨E, hE⟩ : ∃ E, Hid (E = W.heap.size) := ⟨_, Lib.hid rfl⟩
  rw [← hE.out] at HF
  generalize ruleB S l k x 5 = rv at *
  generalize sessS S l x.se k = sv at *
  obtain ⟨s1, s2, s3, s4, s5, s6⟩ := sv
  try dsimp only at H2 RV
  have RV := Lib.hid RV
  generalize x.ki = ki at *
  generalize x.se = se at *
  generalize x.nu = nu at *
  generalize x.wh = wh at *
  generalize x.sid = sid at *
  generalize x.dn.kh = kh at *
  generalize x.dn.ks = ks at *
  generalize x.row = R at *
  have HFs : Hid (∀ w', Below W1.heap.size W1 w' → (Below W1.heap.size W1 w' ∧ w'.cell? ⟨B, 0, none⟩ = some (.pointer (some ⟨w0.heap.size + 4, 0, none⟩)) ∧ w'.cell? ⟨w0.heap.size + 4, 2, none⟩ = some (.map (some w0.heap.size)) ∧ w'.cell? ⟨w0.heap.size + 4, 3, none⟩ = some (.map (some (w0.heap.size + 1))) ∧ w'.cell? ⟨w0.heap.size + 4, 5, none⟩ = some (.map (some (w0.heap.size + 3))) ∧ w'.cell? ⟨E, 0, none⟩ = some (.int .i64 ki) ∧ w'.cell? ⟨E, 1, none⟩ = some (.int .i64 se) ∧ w'.cell? ⟨E, 2, none⟩ = some (.int .i64 nu) ∧ w'.cell? ⟨E, 3, none⟩ = some (.int .i64 wh) ∧ w'.cell? ⟨E, 7, none⟩ = some (.int .i64 sid) ∧ w'.cell? ⟨E, 30, none⟩ = some (.int .i64 kh) ∧ w'.cell? ⟨E, 31, none⟩ = some (.int .i64 ks) ∧ Hid (MapF w' Tryd.prog 3 w0.heap.size n2 f2) ∧ Hid (MapF w' Tryd.prog 3 (w0.heap.size + 1) n3 f3) ∧ Hid (Holds w' E 45 R))) := fun w' h => by
    obtain ⟨a1, a2, a3, a4, a5, a6, a7, a8, a9, a10, a11, a12, a13, a14, a15, _⟩ := HF.out w' h
    exact ⟨h, a1, a2, a3, a4, a5, a6, a7, a8, a9, a10, a11, a13, a14, a12⟩
  clear HF
  go_enter Tryd.func35, Tryd.ntmps35
  go_upto_region 1 with fail
  rw [← hW.out, ← hE.out]
  clear hW hE
  obtain ⟨Sp, hSp⟩ : ∃ Sp : World → Prop, Hid (∀ w', Sp w' ↔ (Below W1.heap.size W1 w' ∧ w'.cell? ⟨B, 0, none⟩ = some (.pointer (some ⟨w0.heap.size + 4, 0, none⟩)) ∧ w'.cell? ⟨w0.heap.size + 4, 2, none⟩ = some (.map (some w0.heap.size)) ∧ w'.cell? ⟨w0.heap.size + 4, 3, none⟩ = some (.map (some (w0.heap.size + 1))) ∧ w'.cell? ⟨w0.heap.size + 4, 5, none⟩ = some (.map (some (w0.heap.size + 3))) ∧ w'.cell? ⟨E, 0, none⟩ = some (.int .i64 ki) ∧ w'.cell? ⟨E, 1, none⟩ = some (.int .i64 se) ∧ w'.cell? ⟨E, 2, none⟩ = some (.int .i64 nu) ∧ w'.cell? ⟨E, 3, none⟩ = some (.int .i64 wh) ∧ w'.cell? ⟨E, 7, none⟩ = some (.int .i64 sid) ∧ w'.cell? ⟨E, 30, none⟩ = some (.int .i64 kh) ∧ w'.cell? ⟨E, 31, none⟩ = some (.int .i64 ks) ∧ Hid (MapF w' Tryd.prog 3 w0.heap.size n2 f2) ∧ Hid (MapF w' Tryd.prog 3 (w0.heap.size + 1) n3 f3) ∧ Hid (Holds w' E 45 R))) := ⟨_, Lib.hid fun _ => Iff.rfl⟩
  refine wp_region_held_gen Sp (by kernel_rfl) ((hSp.out _).2 (HFs.out _ (Below.refl _ W1).drew)) ?_
  have hHeld : Sp _ := (hSp.out (World.drew _)).2 (HFs.out _ (Below.refl _ W1).drew)
  intro O hO
  refine held_read hO (i := 0) rfl rfl (by kernel_rfl) (fun _ _ _ _ h => h) ?_ hHeld ?_ ?_
  rotate_left 1
  · (intro w hSw; have hSw := (hSp.out _).1 hSw; go_simp; (try with_reducible rfl))
  try simp only [Act.put, List.setIfInBounds_toArray, List.set_cons_zero, List.set_cons_succ]
  refine held_read hO (i := 1) rfl rfl (by kernel_rfl) (fun _ _ _ _ h => h) ?_ hHeld ?_ ?_
  rotate_left 1
  · (intro w hSw; have hSw := (hSp.out _).1 hSw; go_simp; (try with_reducible rfl))
  try simp only [Act.put, List.setIfInBounds_toArray, List.set_cons_zero, List.set_cons_succ]
  refine held_read hO (i := 2) rfl rfl (by kernel_rfl) (fun _ _ _ _ h => h) ?_ hHeld ?_ ?_
  rotate_left 1
  · (intro w hSw; have hSw := (hSp.out _).1 hSw; go_simp; (try with_reducible rfl))
  try simp only [Act.put, List.setIfInBounds_toArray, List.set_cons_zero, List.set_cons_succ]
  refine held_read hO (i := 3) rfl rfl (by kernel_rfl) (fun _ _ _ _ h => h) ?_ hHeld ?_ ?_
  rotate_left 1
  · (intro w hSw; have hSw := (hSp.out _).1 hSw; go_simp; (try with_reducible rfl))
  try simp only [Act.put, List.setIfInBounds_toArray, List.set_cons_zero, List.set_cons_succ]
  refine held_read hO (i := 4) rfl rfl (by kernel_rfl) (fun _ _ _ _ h => h) ?_ hHeld ?_ ?_
  rotate_left 1
  · (intro w hSw; have hSw := (hSp.out _).1 hSw; go_simp; (try with_reducible rfl))
  try simp only [Act.put, List.setIfInBounds_toArray, List.set_cons_zero, List.set_cons_succ]
  refine held_read hO (i := 5) rfl rfl (by kernel_rfl) (fun _ _ _ _ h => h) ?_ hHeld ?_ ?_
  rotate_left 1
  · (intro w hSw; have hSw := (hSp.out _).1 hSw; go_simp; (try with_reducible rfl))
  try simp only [Act.put, List.setIfInBounds_toArray, List.set_cons_zero, List.set_cons_succ]
  refine held_read hO (i := 6) rfl rfl (by kernel_rfl) (fun _ _ _ _ h => h) (.agg #[.int .i64 s1, .int .i64 s2, .bool s3, .bool s4, .bool s5, .bool s6]) hHeld ?_ ?_
  · exact fun w hSw => exec_look _ _ 69 rfl ((hSp.out _).1 hSw).2.2.2.2.2.2.2.2.2.2.2.2.1.out lawInt31 Tryd.underlying69 zeroS.enc HZs.out rfl (.int .i64 se) (keyI se) rfl HK1.out H2.out
  try simp only [Act.put, List.setIfInBounds_toArray, List.set_cons_zero, List.set_cons_succ]
  refine held_step hO (i := 7) rfl rfl (by kernel_rfl) (fun K hK => ?_)
  go_simp
  clear hHeld
  have hHeld : Sp (W1.alloc (.cells #[.int .i64 0, .int .i64 0, .bool false, .bool false, .bool false, .bool false] 68)).drew := (hSp.out _).2 (HFs.out _ ((Below.refl _ W1).alloc (Nat.le_refl _) (.cells #[.int .i64 0, .int .i64 0, .bool false, .bool false, .bool false, .bool false] 68)).drew)
  refine hK.out _ _ hHeld ?_
  clear hK K
  try simp only [Act.put, List.setIfInBounds_toArray, List.set_cons_zero, List.set_cons_succ]
  refine held_step hO (i := 8) rfl rfl (by kernel_rfl) (fun K hK => ?_)
  go_simp
  clear hHeld
  have hHeld : Sp (W1.alloc (.cells #[.int .i64 s1, .int .i64 s2, .bool s3, .bool s4, .bool s5, .bool s6] 68)).drew := (hSp.out _).2 (HFs.out _ ((Below.refl _ W1).alloc (Nat.le_refl _) (.cells #[.int .i64 s1, .int .i64 s2, .bool s3, .bool s4, .bool s5, .bool s6] 68)).drew)
  refine hK.out _ _ hHeld ?_
  clear hK K
  try simp only [Act.put, List.setIfInBounds_toArray, List.set_cons_zero, List.set_cons_succ]
  refine held_done hO (by kernel_rfl) ?_
  clear hO O
  obtain ⟨a0, a1, a2, a3, a4, a5, a6, a7, a8, a9, a10, a11, _, _, a14⟩ := (hSp.out _).1 hHeld
  have HB := Lib.hid a0
  clear a0 a14 hHeld hSp Sp HFs
  have HSb : Hid (Holds (W1.alloc (.cells #[.int .i64 s1, .int .i64 s2, .bool s3, .bool s4, .bool s5, .bool s6] 68)).drew W1.heap.size 68 #[.int .i64 s1, .int .i64 s2, .bool s3, .bool s4, .bool s5, .bool s6]) := Lib.hid (Holds.new W1 _ _)
  generalize (W1.alloc (.cells #[.int .i64 s1, .int .i64 s2, .bool s3, .bool s4, .bool s5, .bool s6] 68)).drew = W2 at *
  have e3 : W2.cell? ⟨W1.heap.size, 3, none⟩ = some (.bool s4) := HSb.out.cell 3
  have e4 : W2.cell? ⟨W1.heap.size, 4, none⟩ = some (.bool s5) := HSb.out.cell 4
  by_cases h4 : ki = 4
  · subst h4
    cases s4 with
    | true =>
      have RV : Hid (rv = false) := by show rv = _; rw [RV.out]; rfl
      go_wp2_with fail
      go_ret
      exact ⟨by rw [RV.out]; rfl, BW.out.trans (HB.out.mono BW.out.size)⟩
    | false =>
      have RV : Hid (rv = true) := by show rv = _; rw [RV.out]; rfl
      go_wp2_with fail
      go_ret
      exact ⟨by rw [RV.out]; rfl, BW.out.trans (HB.out.mono BW.out.size)⟩
  · have q4 : (ki == 4) = false := by rw [beq_eq_false_iff_ne]; exact h4
    by_cases h5 : ki = 5
    · subst h5
      cases s5 with
      | true =>
        have RV : Hid (rv = false) := by show rv = _; rw [RV.out]; rfl
        go_wp2_with fail
        go_ret
        exact ⟨by rw [RV.out]; rfl, BW.out.trans (HB.out.mono BW.out.size)⟩
      | false =>
        have RV : Hid (rv = true) := by show rv = _; rw [RV.out]; rfl
        go_wp2_with fail
        go_ret
        exact ⟨by rw [RV.out]; rfl, BW.out.trans (HB.out.mono BW.out.size)⟩
    · have q5 : (ki == 5) = false := by rw [beq_eq_false_iff_ne]; exact h5
      have RV : Hid (rv = true) := by show rv = _; rw [RV.out, q4, q5]; rfl
      go_wp2_with fail
      go_ret
      exact ⟨by rw [RV.out]; rfl, BW.out.trans (HB.out.mono BW.out.size)⟩
end Go.Proofs.YtpkkeeblgbdfdaaDoor

namespace Go.Proofs.YtpkkeeblgbdfdaaDoor
open Go.RowKit Go.Maps Go.WideMaps

def nmR : Nat → ByteArray
  | 0 => ⟨#[101, 110, 100]⟩
  | 1 => ⟨#[116, 97, 107, 101, 110]⟩
  | 2 => ⟨#[110, 117, 109, 98, 101, 114]⟩
  | 3 => ⟨#[115, 101, 115, 115, 105, 111, 110]⟩
  | 4 => ⟨#[101, 97, 114, 108, 121]⟩
  | 5 => ⟨#[97, 103, 97, 105, 110]⟩
  | 6 => ⟨#[99, 111, 109, 109, 105, 116]⟩
  | 7 => ⟨#[97, 99, 99, 101, 112, 116]⟩
  | 8 => ⟨#[108, 101, 116]⟩
  | _ => ⟨#[116, 119, 105, 99, 101]⟩
/-- The name of the first rule that an event violates. -/
def badK (S : List Int) (l : List EvV) (k : Nat) : ByteArray := match l[k]? with
  | some x => firstBad nmR (ruleB S l k x) 10
  | none => ⟨#[]⟩
set_option maxHeartbeats 1000000 in
set_option maxRecDepth 100000 in
theorem rules_at {lo : Nat} {w0 w : World} {v : Value} {S : List Int} {l : List EvV} {k g : Nat} {x : EvV} (hp : PastAt w0 w v S l k) (hb : RulesBox lo w g (w0.heap.size + 4)) (hx : l[k]? = some x) (ho : ∀ u ∈ x.row.toList, CellOk u) (hi : IdsAt w0 v S) (hS : S.Pairwise (· < ·)) (hl : S.length ≤ 1000) (hk : k ≤ 1000) :
    RulesAt w g x.row nmR (ruleB S l k x) := by
  obtain ⟨B, k1, p1, k2, p2, k3, p3, h0, h1, h2, h3, h4, h5⟩ := hb
  have hbk : ∀ {W : World} {j : Nat} {t : TypeId} {cs : Array Value}, Holds w j t cs → Below w.heap.size w W → Holds W j t cs := fun h hw => (hw.block _ h.lt).trans h
  refine ⟨h1.lt, fun i hi10 => ?_⟩
  match i, hi10 with
  | 0, _ => exact ⟨h1.cell 0, 27, #[.pointer (some ⟨B, 0, none⟩)], h1.cell 1, callF32 Tryd.func27 (by kernel_rfl) (by kernel_rfl), fun W hw => rule0_any (hp.keep hw) (hbk h2 hw) hx ho⟩
  | 1, _ => exact ⟨h1.cell 2, 28, #[.pointer (some ⟨B, 0, none⟩)], h1.cell 3, callF32 Tryd.func28 (by kernel_rfl) (by kernel_rfl), fun W hw => rule1_any (hp.keep hw) (hbk h2 hw) hx ho⟩
  | 2, _ => exact ⟨h1.cell 4, 29, #[.pointer (some ⟨B, 0, none⟩)], h1.cell 5, callF32 Tryd.func29 (by kernel_rfl) (by kernel_rfl), fun W hw => rule2_any (hp.keep hw) (hbk h2 hw) hx ho⟩
  | 3, _ => exact ⟨h1.cell 6, 31, #[.pointer (some ⟨B, 0, none⟩)], h1.cell 7, callF32 Tryd.func31 (by kernel_rfl) (by kernel_rfl), fun W hw => rule3_any (hp.keep hw) (hbk h2 hw) hx ho⟩
  | 4, _ => exact ⟨h1.cell 8, 33, #[.pointer (some ⟨B, 0, none⟩)], h1.cell 9, callF32 Tryd.func33 (by kernel_rfl) (by kernel_rfl), fun W hw => rule4_any (hp.keep hw) (hbk h2 hw) hx ho⟩
  | 5, _ => exact ⟨h1.cell 10, 35, #[.pointer (some ⟨B, 0, none⟩)], h1.cell 11, callF32 Tryd.func35 (by kernel_rfl) (by kernel_rfl), fun W hw => rule5_any (hp.keep hw) (hbk h2 hw) hx ho⟩
  | 6, _ => exact ⟨h1.cell 12, 47, #[.pointer (some ⟨k1, 0, none⟩), .pointer (some ⟨p1, 0, none⟩)], h1.cell 13, callF32 Tryd.func47 (by kernel_rfl) (by kernel_rfl), fun W hw => rule6_any (hp.keep hw) (hbk h3.2.1 hw) hx ho hi hS hl 2 (hbk h3.2.2 hw)⟩
  | 7, _ => exact ⟨h1.cell 14, 47, #[.pointer (some ⟨k2, 0, none⟩), .pointer (some ⟨p2, 0, none⟩)], h1.cell 15, callF32 Tryd.func47 (by kernel_rfl) (by kernel_rfl), fun W hw => rule6_any (hp.keep hw) (hbk h4.2.1 hw) hx ho hi hS hl 4 (hbk h4.2.2 hw)⟩
  | 8, _ => exact ⟨h1.cell 16, 47, #[.pointer (some ⟨k3, 0, none⟩), .pointer (some ⟨p3, 0, none⟩)], h1.cell 17, callF32 Tryd.func47 (by kernel_rfl) (by kernel_rfl), fun W hw => rule6_any (hp.keep hw) (hbk h5.2.1 hw) hx ho hi hS hl 5 (hbk h5.2.2 hw)⟩
  | 9, _ => exact ⟨h1.cell 18, 37, #[.pointer (some ⟨B, 0, none⟩)], h1.cell 19, callF32 Tryd.func37 (by kernel_rfl) (by kernel_rfl), fun W hw => rule9_any (hp.keep hw) (hbk h2 hw) hx ho hi hS hl hk⟩
  | i + 10, h => omega
end Go.Proofs.YtpkkeeblgbdfdaaDoor
