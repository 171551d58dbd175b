/- Part 31 of what the statement wants. -/
import Derived.LaidEql
import Derived.Stop.Asserts
import Derived.RowKitTokens
import Derived.Test.YtpkkeeblgbdfdaaDoorPk00
import Derived.Test.YtpkkeeblgbdfdaaDoorPk22
import Derived.Test.YtpkkeeblgbdfdaaDoorPk24
namespace Go.Proofs.YtpkkeeblgbdfdaaDoor
open Go.RowKit Go.Maps Go.WideMaps

set_option maxHeartbeats 2000000 in
set_option maxRecDepth 100000 in
theorem agRule_no {w : World} {v : Value} {l : List EvV} (h : EvsAt w v l) (n : Int) (hex : existsB l n = false) :
    Calls Tryd.prog 6 #[v, .int .i64 n] w fun e w' => e = .returned (.string ⟨#[]⟩) ∧ w' = w := by
  obtain ⟨h1, ao, cap, rfl, _⟩ := h
  have HEx := Lib.hid (fun W => exists_any ao cap l n W)
  rw [hex] at HEx
  clear hex h1
  go_enter Tryd.func6, Tryd.ntmps6
  go_wp2_with (first | (go_at_call 14; (with_reducible refine (HEx.out _).mono ?_); rintro e w1 ⟨rfl, hw⟩; have hw := hw.symm; subst hw))
  go_ret
  exact ⟨rfl, rfl⟩
set_option maxHeartbeats 4000000 in
set_option maxRecDepth 100000 in
theorem agRule_yes {w : World} {v : Value} {l : List EvV} (h : EvsAt w v l) (hl : l.length ≤ 900) (ho : ∀ x ∈ l, ∀ u ∈ x.row.toList, CellOk u) {n : Nat} (hn : n < l.length) :
    Calls Tryd.prog 6 #[v, .int .i64 (n : Int)] w fun e w' => e = .returned (.string (ruleR l n)) ∧ Below w.heap.size w w' := by
  have hex : existsB l (n : Int) = true := by unfold existsB; rw [decide_eq_true (by omega), decide_eq_true (by omega)]; rfl
  have HBf : Hid (∀ W, Below w.heap.size w W → Calls Tryd.prog 16 #[v, .int .i64 (n : Int)] W fun e w' => ∃ w0 v', e = .returned (.pointer (some ⟨w0.heap.size + 4, 0, none⟩)) ∧ PastAt w0 w' v' (SB l n) l n ∧ IdsAt w0 v' (SB l n) ∧ Below W.heap.size W w') := fun W hb => (before_any (h.below hb) hl ho hn).mono fun e w' ⟨w0, v', h1, h2, h3, h4, _⟩ => ⟨w0, v', h1, h2, h3, h4⟩
  have HRu : Hid (∀ P W, Calls Tryd.prog 17 #[.pointer (some ⟨P, 0, none⟩)] W fun e w' => ∃ g, e = .returned (.slice (some ⟨g, 0, none⟩) 10 10) ∧ RulesBox W.heap.size w' g P ∧ Below W.heap.size W w') := fun P W => rules_any P W
  have HVi : Hid (∀ lo w0 W v' g, PastAt w0 W v' (SB l n) l n → IdsAt w0 v' (SB l n) → RulesBox lo W g (w0.heap.size + 4) → Calls Tryd.prog 15 #[.slice (some ⟨g, 0, none⟩) 10 10, .agg (l[n]).row] W fun e w' => e = .returned (.string (ruleR l n)) ∧ Below W.heap.size W w') := fun lo w0 W v' g hp hi hb => by
    have h1 := violated_any (rules_at hp hb (List.getElem?_eq_getElem hn) (ho _ (List.getElem_mem _)) hi (SB_rise l n) (by have := SB_len l n; omega) (by omega)) rfl 10
    have e : ruleR l n = firstBad nmR (ruleB (SB l n) l n l[n]) 10 := by rw [← rule_is (S := SB l n) hn (fun j hj => SB_is hn hj)]; unfold badK; rw [List.getElem?_eq_getElem hn]
    rw [e]
    exact h1
  obtain ⟨h1, ao, cap, rfl, _⟩ := h
  have HEx := Lib.hid (fun W => exists_any ao cap l (n : Int) W)
  rw [hex] at HEx
  obtain ⟨ao', cap', he, hc⟩ := h1
  simp only [Value.slice.injEq, true_and] at he
  obtain ⟨rfl, rfl⟩ := he
  obtain ⟨b, off, hao, hb, hcell⟩ := hc (by rintro rfl; simp at hn)
  subst hao
  have HRd2 : Hid (∀ W, Below w.heap.size w W → ∀ j u, (l[n]).row[j]? = some u → W.cell? ((⟨b, off + n * 34, none⟩ : Addr).add j) = some u) := fun W hw j u hj => by
    rw [Addr.add_lit]
    exact (hw.cell (p := ⟨b, off + n * 34 + j, none⟩) hb).trans (hcell n _ (List.getElem?_eq_getElem hn) j u hj)
  have HL := Lib.hid (HRd2.out w (Below.refl _ _))
  have HS : Hid ((l[n]).row.size = 34) := rfl
  have hki : (n : Int) < (l.length : Int) := by omega
  clear hc hcell ho hex
  generalize ruleR l n = rr at *
  generalize (l[n]).row = R at *
  go_enter Tryd.func6, Tryd.ntmps6
  go_upto_region 3 with (first | (go_at_call 14; (with_reducible refine (HEx.out _).mono ?_); rintro e w1 ⟨rfl, hw⟩; have hw := hw.symm; subst hw))
  clear HEx
  obtain ⟨Sp, hSp⟩ : ∃ Sp : World → Prop, Hid (∀ w', Sp w' ↔ (Below w.heap.size w w' ∧ Hid (∀ j u, R[j]? = some u → w'.cell? ((⟨b, off + n * 34, none⟩ : Addr).add j) = some u))) := ⟨_, Lib.hid fun _ => Iff.rfl⟩
  refine wp_region_held_gen Sp (by kernel_rfl) ((hSp.out _).2 ⟨(Below.refl _ _).drew, HL⟩) ?_
  have hHeld : Sp _ := (hSp.out (World.drew _)).2 ⟨(Below.refl _ _).drew, HL⟩
  intro O hO
  refine held_read hO (i := 0) rfl rfl (by kernel_rfl) (fun _ _ _ _ h => h) ?_ hHeld ?_ ?_
  rotate_left 1
  · (intro w hSw; have hSw := (hSp.out _).1 hSw; go_simp; (try with_reducible rfl))
  try simp only [Act.put, List.setIfInBounds_toArray, List.set_cons_zero, List.set_cons_succ]
  refine held_read hO (i := 1) rfl rfl (by kernel_rfl) (fun _ _ _ _ h => h) ?_ hHeld ?_ ?_
  rotate_left 1
  · (intro w hSw; have hSw := (hSp.out _).1 hSw; go_simp; (try with_reducible rfl))
  try simp only [Act.put, List.setIfInBounds_toArray, List.set_cons_zero, List.set_cons_succ]
  refine held_read hO (i := 4) rfl rfl (by kernel_rfl) (fun _ _ _ _ h => h) ?_ hHeld ?_ ?_
  rotate_left 1
  · (intro w hSw; have hSw := (hSp.out _).1 hSw; go_simp; (try with_reducible rfl))
  try simp only [Act.put, List.setIfInBounds_toArray, List.set_cons_zero, List.set_cons_succ]
  refine held_read hO (i := 5) rfl rfl (by kernel_rfl) (fun _ _ _ _ h => h) ?_ hHeld ?_ ?_
  rotate_left 1
  · (intro w hSw; have hSw := (hSp.out _).1 hSw; go_simp; (try with_reducible rfl))
  try simp only [Act.put, List.setIfInBounds_toArray, List.set_cons_zero, List.set_cons_succ]
  refine held_read hO (i := 6) rfl rfl (by kernel_rfl) (fun _ _ _ _ h => h) ?_ hHeld ?_ ?_
  rotate_left 1
  · (intro w hSw; have hSw := (hSp.out _).1 hSw; go_simp; (try with_reducible rfl))
  try simp only [Act.put, List.setIfInBounds_toArray, List.set_cons_zero, List.set_cons_succ]
  refine held_read hO (i := 7) rfl rfl (by kernel_rfl) (fun _ _ _ _ h => h) (.agg R) hHeld ?_ ?_
  · exact fun w hSw => exec_load_cells 45 _ rfl ⟨b, off + n * 34, none⟩ rfl R _ ((hSp.out _).1 hSw).2.out Tryd.underlying45 rfl (by rw [HS.out]; exact sizeEvent)
  try simp only [Act.put, List.setIfInBounds_toArray, List.set_cons_zero, List.set_cons_succ]
  refine held_step hO (i := 2) rfl rfl (by kernel_rfl) (fun K hK => ?_)
  go_simp
  go_at_call 16
  with_reducible refine (HBf.out _ (Below.refl _ _).drew).mono ?_
  rintro e w2 ⟨w0, v', rfl, hp, hi, b2⟩
  have B2 : Hid (Below w.heap.size w w2) := Lib.hid (((Below.refl _ _).drew : Below w.heap.size w _).trans (b2.mono ((Below.refl _ _).drew : Below w.heap.size w _).size))
  have HP := Lib.hid hp
  have HI := Lib.hid hi
  clear b2 hp hi
  go_wp2_with fail
  clear hHeld
  have hHeld : Sp _ := (hSp.out _).2 ⟨B2.out, Lib.hid (HRd2.out _ B2.out)⟩
  refine hK.out _ _ hHeld ?_
  clear hK K
  try simp only [Act.put, List.setIfInBounds_toArray, List.set_cons_zero, List.set_cons_succ]
  refine held_step hO (i := 3) rfl rfl (by kernel_rfl) (fun K hK => ?_)
  go_simp
  go_at_call 17
  with_reducible refine (HRu.out _ _).mono ?_
  rintro e w3 ⟨g, rfl, hr, b3⟩
  have HV3 := Lib.hid (HVi.out _ w0 w3 v' g (HP.out.keep b3) HI.out hr)
  have B3 : Hid (Below w.heap.size w w3) := Lib.hid (B2.out.trans (b3.mono B2.out.size))
  clear b3 hr
  go_wp2_with fail
  clear hHeld
  have hHeld : Sp _ := (hSp.out _).2 ⟨B3.out, Lib.hid (HRd2.out _ B3.out)⟩
  refine hK.out _ _ hHeld ?_
  clear hK K
  try simp only [Act.put, List.setIfInBounds_toArray, List.set_cons_zero, List.set_cons_succ]
  refine held_step hO (i := 8) rfl rfl (by kernel_rfl) (fun K hK => ?_)
  go_simp
  go_at_call 15
  with_reducible refine HV3.out.mono ?_
  rintro e w4 ⟨rfl, b4⟩
  have B4 : Hid (Below w.heap.size w w4) := Lib.hid (B3.out.trans (b4.mono B3.out.size))
  clear b4
  go_wp2_with fail
  clear hHeld
  have hHeld : Sp _ := (hSp.out _).2 ⟨B4.out, Lib.hid (HRd2.out _ B4.out)⟩
  refine hK.out _ _ hHeld ?_
  clear hK K
  try simp only [Act.put, List.setIfInBounds_toArray, List.set_cons_zero, List.set_cons_succ]
  refine held_read hO (i := 9) rfl rfl (by kernel_rfl) (fun _ _ _ _ h => h) ?_ hHeld ?_ ?_
  rotate_left 1
  · (intro w hSw; have hSw := (hSp.out _).1 hSw; go_simp; (try with_reducible rfl))
  try simp only [Act.put, List.setIfInBounds_toArray, List.set_cons_zero, List.set_cons_succ]
  refine held_done hO (by kernel_rfl) ?_
  clear hO O
  go_wp2_with fail
  go_ret
  exact ⟨rfl, B4.out⟩
end Go.Proofs.YtpkkeeblgbdfdaaDoor

namespace Go.Proofs.YtpkkeeblgbdfdaaDoor
open Go.RowKit Go.Extern.Stop Go.Stop Go.Extern

/-- An error in memory: its locations and its number, if it has one. -/
inductive ErrAt (w : World) : Value → List ByteArray → Option Int → Prop
  | none : ErrAt w .nilIface [] none
  | num (e : Int) : ErrAt w (.iface 31 (.int .i64 e)) [] (some e)
  | fault {b : Nat} {x : ByteArray} {v : Value} {path : List ByteArray} {n : Option Int} : b < w.heap.size → w.cell? ⟨b, 0, none⟩ = some (.string x) → w.cell? ⟨b, 1, none⟩ = some v → ErrAt w v path n → ErrAt w (.iface 85 (.pointer (some ⟨b, 0, none⟩))) (x :: path) n
theorem ErrAt.later {w w' : World} {v : Value} {path : List ByteArray} {n : Option Int} (h : ErrAt w v path n) (hb : Below w.heap.size w w') : ErrAt w' v path n := by
  induction h with
  | none => exact .none
  | num e => exact .num e
  | @fault b x v path n h1 h2 h3 _ ih => exact .fault (Nat.lt_of_lt_of_le h1 hb.size) ((hb.cell (p := ⟨b, 0, Option.none⟩) h1).trans h2) ((hb.cell (p := ⟨b, 1, Option.none⟩) h1).trans h3) ih

theorem ErrAt.same {w : World} {v : Value} {path : List ByteArray} {n : Option Int} (h : ErrAt w v path n) : ∀ {path' : List ByteArray} {n' : Option Int}, ErrAt w v path' n' → path = path' ∧ n = n' := by
  induction h with
  | none => intro _ _ k; cases k; exact ⟨rfl, rfl⟩
  | num e => intro _ _ k; cases k; exact ⟨rfl, rfl⟩
  | @fault b x v path n h1 h2 h3 _ ih =>
    intro _ _ k
    cases k with
    | fault k1 k2 k3 k4 =>
      have e2 := h2.symm.trans k2
      have e3 := h3.symm.trans k3
      simp only [Option.some.injEq, Value.string.injEq] at e2 e3
      subst e2 e3
      obtain ⟨rfl, rfl⟩ := ih k4
      exact ⟨rfl, rfl⟩
open Classical in
/-- How many locations. -/
noncomputable def depthAt (w : World) (v : Value) : Nat := if h : ∃ q : List ByteArray × Option Int, ErrAt w v q.1 q.2 then (Classical.choose h).1.length else 0
theorem ErrAt.depth {w : World} {v : Value} {path : List ByteArray} {n : Option Int} (h : ErrAt w v path n) : depthAt w v = path.length := by
  have hx : ∃ q : List ByteArray × Option Int, ErrAt w v q.1 q.2 := ⟨(path, n), h⟩
  unfold depthAt
  rw [dif_pos hx, ((Classical.choose_spec hx).same h).1]


theorem fAt_some (x : ByteArray) (t : TypeId) (u : Value) (w : World) : Calls Tryd.prog 21 #[.string x, .iface t u] w fun r w' => r = .returned (.iface 85 (.pointer (some ⟨w.heap.size, 0, none⟩))) ∧ w' = w.alloc (.cells #[.string x, .iface t u] 87) := by
  go_enter Tryd.func21, Tryd.ntmps21
  go_wp2_with fail
  go_ret
  exact ⟨rfl, rfl⟩
/-- At of what is an error. -/
theorem fAt_any {w : World} {v : Value} {path : List ByteArray} {n : Option Int} (hv : ErrAt w v path n) (hne : v ≠ .nilIface) (x : ByteArray) : Calls Tryd.prog 21 #[.string x, v] w fun r w' => ∃ v', r = .returned v' ∧ ErrAt w' v' (x :: path) n ∧ v' ≠ .nilIface ∧ Below w.heap.size w w' := by
  obtain ⟨t0, v0, rfl⟩ : ∃ t0 v0, v = .iface t0 v0 := by
    cases hv with
    | none => exact absurd rfl hne
    | num e => exact ⟨_, _, rfl⟩
    | fault _ _ _ _ => exact ⟨_, _, rfl⟩
  refine (fAt_some x t0 v0 w).mono fun r w' ⟨h1, h2⟩ => ⟨_, h1, ?_, by simp, ?_⟩
  · subst h2
    have hN := Holds.new w 87 #[.string x, .iface t0 v0]
    exact .fault (by simp) (hN.cell 0) (hN.cell 1) (hv.later ((Below.refl _ _).alloc (Nat.le_refl _) _))
  · rw [h2]; exact (Below.refl _ _).alloc (Nat.le_refl _) _
theorem fOf_any (x : ByteArray) (e : Int) (he : e ≠ 0) (w : World) : Calls Tryd.prog 22 #[.string x, .int .i64 e] w fun r w' => ∃ v', r = .returned v' ∧ ErrAt w' v' [x] (some e) ∧ v' ≠ .nilIface ∧ Below w.heap.size w w' := by
  have hq : (e == 0) = false := by simpa using he
  have HA := Lib.hid (fAt_any (ErrAt.num (w := w) e) (by simp) x)
  go_enter Tryd.func22, Tryd.ntmps22
  go_wp2_with (go_at_call 21; with_reducible refine HA.out.mono ?_; rintro r w1 ⟨v', rfl, hv, hn, hb⟩)
  go_ret
  exact ⟨v', rfl, hv, hn, hb⟩
end Go.Proofs.YtpkkeeblgbdfdaaDoor

namespace Go.Proofs.YtpkkeeblgbdfdaaDoor
open Go.RowKit Go.Maps Go.WideMaps

def agreeS : ByteArray := ⟨#[97, 103, 114, 101, 101]⟩
set_option maxHeartbeats 2000000 in
set_option maxRecDepth 100000 in
theorem agCheck_ok {w : World} {v : Value} {l : List EvV} (h : EventsAt w v l) (hl : l.length ≤ 900) (ho : ∀ x ∈ l, ∀ u ∈ x.row.toList, CellOk u) (hw : (wrongW (SA l) l).size = 0) :
    Calls Tryd.prog 8 #[v] w fun e w' => e = .returned .nilIface ∧ Below w.heap.size w w' := by
  have HW := Lib.hid (agWrong_any h hl ho)
  have hb : wrongW (SA l) l = ⟨#[]⟩ := by
    generalize wrongW (SA l) l = b at *
    cases b with
    | mk d =>
      congr
      exact Array.eq_empty_of_size_eq_zero hw
  rw [hb] at HW
  obtain ⟨ao, cap, rfl, _⟩ := h
  clear ho hw hb
  generalize wrongI (SA l) l = wi at *
  go_enter Tryd.func8, Tryd.ntmps8
  go_wp2_with (first
    | (go_at_call 7; (with_reducible refine HW.out.mono ?_); rintro e w1 ⟨rfl, b1⟩; have B1 := Lib.hid b1; clear b1))
  go_ret
  exact ⟨rfl, B1.out⟩
set_option maxHeartbeats 2000000 in
set_option maxRecDepth 100000 in
theorem agCheck_bad {w : World} {v : Value} {l : List EvV} (h : EventsAt w v l) (hl : l.length ≤ 900) (ho : ∀ x ∈ l, ∀ u ∈ x.row.toList, CellOk u) (hw : (wrongW (SA l) l).size ≠ 0) :
    Calls Tryd.prog 8 #[v] w fun e w' => ∃ t u, e = .returned (.iface t u) ∧ ErrAt w' (.iface t u) [agreeS, wrongW (SA l) l] (some 14) ∧ Below w.heap.size w w' := by
  have HW := Lib.hid (agWrong_any h hl ho)
  have hb := empty32 hw
  obtain ⟨ao, cap, rfl, _⟩ := h
  clear ho hw
  generalize wrongI (SA l) l = wi at *
  generalize wrongW (SA l) l = ww at *
  have HO : Hid (∀ W, Calls Tryd.prog 22 #[.string ww, .int .i64 14] W fun r w' => ∃ t u, r = .returned (.iface t u) ∧ ErrAt w' (.iface t u) [ww] (some 14) ∧ Below W.heap.size W w') := fun W => (fOf_any ww 14 (by decide) W).mono fun r w' ⟨v', h1, h2, h3, h4⟩ => by
    cases h2 with
    | fault g1 g2 g3 g4 => exact ⟨_, _, h1, .fault g1 g2 g3 g4, h4⟩
  have HA : Hid (∀ (W : World) (t : TypeId) (v : Value), ErrAt W (.iface t v) [ww] (some 14) → Calls Tryd.prog 21 #[.string agreeS, .iface t v] W fun r w' => ∃ t v, r = .returned (.iface t v) ∧ ErrAt w' (.iface t v) [agreeS, ww] (some 14) ∧ Below W.heap.size W w') := fun W t v hv => (fAt_any hv (by simp) agreeS).mono fun r w' ⟨v', h1, h2, h3, h4⟩ => by
    cases h2 with
    | fault g1 g2 g3 g4 => exact ⟨_, _, h1, .fault g1 g2 g3 g4, h4⟩
  unfold agreeS at HA ⊢
  go_enter Tryd.func8, Tryd.ntmps8
  go_wp2_with (first
    | (go_at_call 7; (with_reducible refine HW.out.mono ?_); rintro e w1 ⟨rfl, b1⟩; have B1 := Lib.hid b1; clear b1)
    | (go_at_call 22; (with_reducible refine (HO.out _).mono ?_); rintro e w2 ⟨t2, u2, rfl, e2, b2⟩; have B2 := Lib.hid (B1.out.trans (b2.mono B1.out.size)); have E2 := Lib.hid e2; clear b2 e2)
    | (go_at_call 21; (with_reducible refine (HA.out _ _ _ E2.out).mono ?_); rintro e w3 ⟨t3, u3, rfl, e3, b3⟩; have B3 := Lib.hid (B2.out.trans (b3.mono B2.out.size)); have E3 := Lib.hid e3; clear b3 e3))
  go_ret
  exact ⟨t3, u3, rfl, E3.out, B3.out⟩
end Go.Proofs.YtpkkeeblgbdfdaaDoor
