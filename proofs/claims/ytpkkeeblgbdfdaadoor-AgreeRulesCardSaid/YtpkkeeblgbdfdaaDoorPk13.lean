/- Part 13 of what the statement wants. -/
import Derived.Test.YtpkkeeblgbdfdaaDoorPk12
namespace Go.Proofs.YtpkkeeblgbdfdaaDoor
open Go.RowKit Go.Maps Go.WideMaps

def exchK (x : EvV) : Bool := (x.ki == 1) || (x.ki == 2)
def loginK (x : EvV) : Bool := (x.ki == 3) || ((x.ki == 4) || (x.ki == 5))
/-- Does an event keep a rule? -/
def ruleB (S : List Int) (l : List EvV) (k : Nat) (x : EvV) : Nat → Bool
  | 0 => (x.ki == 7) || !(sessS S l x.se k).en
  | 1 => !(x.ki == 7) || !(aheadB l x.wh k)
  | 2 => !(exchK x) || (x.nu == (sessS S l x.se k).ex)
  | 3 => !(exchK x) || (x.dn.ks == (if (sessS S l x.se k).ex > 0 then (sessS S l x.se k).id else x.dn.kh))
  | 4 => !(loginK x) || (decide ((sessS S l x.se k).ex > 0) && (x.sid == (sessS S l x.se k).id))
  | 5 => !(((x.ki == 4) && (sessS S l x.se k).ac) || ((x.ki == 5) && (sessS S l x.se k).le))
  | 6 => !(x.ki == 2) || (!(askK S l k) || (srcK l k).isSome)
  | 7 => !(x.ki == 4) || (!(askK S l k) || (srcK l k).isSome)
  | 8 => !(x.ki == 5) || (!(askK S l k) || (srcK l k).isSome)
  | _ => !(srcK l k).isSome || (!(askK S l k) || !(usdK S l k (((srcK l k).getD 0 : Nat) : Int)))
set_option maxHeartbeats 1000000 in
theorem rule_facts {w0 W : World} {v : Value} {S : List Int} {l : List EvV} {k : Nat} (hp : PastAt w0 W v S l k) {B : Nat} (hb : Holds W B 51 #[.pointer (some ⟨w0.heap.size + 4, 0, none⟩)]) {x : EvV} (ho : ∀ u ∈ x.row.toList, CellOk u) :
    ∃ n2 n3 n5 f2 f3 f5, (∀ W', Below (W.alloc (.cells x.row 45)).heap.size (W.alloc (.cells x.row 45)) W' → W'.cell? ⟨B, 0, none⟩ = some (.pointer (some ⟨w0.heap.size + 4, 0, none⟩)) ∧ W'.cell? ⟨w0.heap.size + 4, 2, none⟩ = some (.map (some w0.heap.size)) ∧ W'.cell? ⟨w0.heap.size + 4, 3, none⟩ = some (.map (some (w0.heap.size + 1))) ∧ W'.cell? ⟨w0.heap.size + 4, 5, none⟩ = some (.map (some (w0.heap.size + 3))) ∧
        W'.cell? ⟨W.heap.size, 0, none⟩ = some (.int .i64 x.ki) ∧ W'.cell? ⟨W.heap.size, 1, none⟩ = some (.int .i64 x.se) ∧ W'.cell? ⟨W.heap.size, 2, none⟩ = some (.int .i64 x.nu) ∧ W'.cell? ⟨W.heap.size, 3, none⟩ = some (.int .i64 x.wh) ∧ W'.cell? ⟨W.heap.size, 7, none⟩ = some (.int .i64 x.sid) ∧ W'.cell? ⟨W.heap.size, 30, none⟩ = some (.int .i64 x.dn.kh) ∧ W'.cell? ⟨W.heap.size, 31, none⟩ = some (.int .i64 x.dn.ks) ∧
        Hid (Holds W' W.heap.size 45 x.row) ∧ Hid (MapF W' Tryd.prog 3 w0.heap.size n2 f2) ∧ Hid (MapF W' Tryd.prog 3 (w0.heap.size + 1) n3 f3) ∧ Hid (MapF W' Tryd.prog 3 (w0.heap.size + 3) n5 f5) ∧ Hid (PastAt w0 W' v S l k)) ∧
      (f2 (keyI x.se)).getD zeroS.enc = .agg #[.int .i64 (sessS S l x.se k).ex, .int .i64 (sessS S l x.se k).id, .bool (sessS S l x.se k).co, .bool (sessS S l x.se k).ac, .bool (sessS S l x.se k).le, .bool (sessS S l x.se k).en] ∧ (f3 (keyI x.wh)).isSome = aheadB l x.wh k ∧ (∀ z, keyOf Tryd.prog 3 (.int .i64 z) = some (keyI z) → (f5 (keyI z)).isSome = usdK S l k z) := by
  obtain ⟨n2, n3, n4, n5, f2, f3, f4, f5, hm, q2, q3, q4, q5, o2, o3, o4, o5⟩ := id hp
  refine ⟨n2, n3, n5, f2, f3, f5, fun W' hw => ?_, o2 x.se _ (keyI_ok (EvV.ok_se ho)), o3 x.wh _ (keyI_ok (EvV.ok_wh ho)), fun z hz => o5 z _ hz⟩
  have ba : Below W.heap.size W (W.alloc (.cells x.row 45)) := (Below.refl _ W).alloc (Nat.le_refl _) _
  have bw : Below W.heap.size W W' := ba.trans (hw.mono ba.size)
  have hE : Holds W' W.heap.size 45 x.row := (hw.block _ (Holds.new W 45 x.row).lt).trans (Holds.new W _ _)
  have hm' := hm.keep bw
  exact ⟨Holds.cell ((bw.block _ hb.lt).trans hb) 0, hm'.box.cell 2, hm'.box.cell 3, hm'.box.cell 5, (cell_heap hE 0).trans rfl, (cell_heap hE 1).trans rfl, (cell_heap hE 2).trans rfl, (cell_heap hE 3).trans rfl, (cell_heap hE 7).trans rfl, (cell_heap hE 30).trans rfl, (cell_heap hE 31).trans rfl, Lib.hid hE, Lib.hid hm'.sess, Lib.hid hm'.taken, Lib.hid hm'.used, Lib.hid (hp.keep bw)⟩
theorem exec_look {P : Program} {w : World} {t : TypeId} {b n : Nat} {f : Lit → Option Value} {o : Oper} {a : Act} (m x : Operand) (mt : TypeId) (hop : o.op = Op.lookup mt m x false) {e : TypeId}
    (h : MapF w P t b n f) (K : Keyed P t) (ht : P.underlying mt = some (.map t e)) (z : Value) (hz : ∀ W, (zeroValue e).run P W = .ok z W) (hm : a.eval m = .map (some b)) (key : Value) (kl : Lit) (hx : a.eval x = key) (hk : keyOf P t key = some kl) {r : Value} (hr : (f kl).getD z = r) :
    (execOp a.eval o).run P w = .ok (.value r) w := by
  unfold execOp
  simp only [hop, hm, hx, Sem.run_bind, h.look K ht (hz _) hk, Result.andThen_ok, Sem.run_pure, hr]
theorem exec_look_ok {P : Program} {w : World} {t : TypeId} {b n : Nat} {f : Lit → Option Value} {o : Oper} {a : Act} (m x : Operand) (mt : TypeId) (hop : o.op = Op.lookup mt m x true) {e : TypeId}
    (h : MapF w P t b n f) (K : Keyed P t) (ht : P.underlying mt = some (.map t e)) (z : Value) (hz : ∀ W, (zeroValue e).run P W = .ok z W) (hm : a.eval m = .map (some b)) (key : Value) (kl : Lit) (hx : a.eval x = key) (hk : keyOf P t key = some kl) :
    (execOp a.eval o).run P w = .ok (.value (.tuple #[(f kl).getD z, .bool (f kl).isSome])) w := by
  unfold execOp
  simp only [hop, hm, hx, Sem.run_bind, h.look_ok K ht (hz _) hk, Result.andThen_ok, Sem.run_pure]
set_option maxHeartbeats 1000000 in
set_option maxRecDepth 100000 in
theorem isEx_any (x : EvV) (w : World) : Calls Tryd.prog 30 #[.agg x.row] w fun e w' => e = .returned (.bool (exchK x)) ∧ Below w.heap.size w w' := by
  have HS : Hid (x.row.size = 34) := x.row_size
  have g0 := x.row_ki
  have HT : Hid (exchK x = ((x.ki == 1) || (x.ki == 2))) := rfl
  obtain ⟨R, hR⟩ : ∃ R, x.row = R := ⟨_, rfl⟩
  rw [hR] at HS g0 ⊢
  clear hR
  have c0 := ((cell_of_row _ w.heap.size 0 R 45 (0, 0) (heap_alloc_new w (.cells R 45))).trans g0)
  generalize exchK x = z at *
  generalize x.ki = ki at *
  clear g0
  have BB : Hid (Below w.heap.size w (w.alloc (.cells R 45))) := Lib.hid ((Below.refl _ w).alloc (Nat.le_refl _) _)
  by_cases h1 : ki = 1
  · subst h1
    go_enter Tryd.func30, Tryd.ntmps30
    go_wp2_with fail
    go_ret
    exact ⟨by rw [HT.out]; first | rfl | (simp), BB.out⟩
  have q1 : (ki == 1) = false := by rw [beq_eq_false_iff_ne]; exact h1
  go_enter Tryd.func30, Tryd.ntmps30
  go_wp2_with fail
  go_ret
  exact ⟨by rw [HT.out, q1]; first | rfl | (simp), BB.out⟩
set_option maxHeartbeats 1000000 in
set_option maxRecDepth 100000 in
theorem isLogin_any (x : EvV) (w : World) : Calls Tryd.prog 34 #[.agg x.row] w fun e w' => e = .returned (.bool (loginK x)) ∧ Below w.heap.size w w' := by
  have HS : Hid (x.row.size = 34) := x.row_size
  have g0 := x.row_ki
  have HT : Hid (loginK x = ((x.ki == 3) || ((x.ki == 4) || (x.ki == 5)))) := rfl
  obtain ⟨R, hR⟩ : ∃ R, x.row = R := ⟨_, rfl⟩
  rw [hR] at HS g0 ⊢
  clear hR
  have c0 := ((cell_of_row _ w.heap.size 0 R 45 (0, 0) (heap_alloc_new w (.cells R 45))).trans g0)
  generalize loginK x = z at *
  generalize x.ki = ki at *
  clear g0
  have BB : Hid (Below w.heap.size w (w.alloc (.cells R 45))) := Lib.hid ((Below.refl _ w).alloc (Nat.le_refl _) _)
  by_cases h3 : ki = 3
  · subst h3
    go_enter Tryd.func34, Tryd.ntmps34
    go_wp2_with fail
    go_ret
    exact ⟨by rw [HT.out]; first | rfl | (simp), BB.out⟩
  have q3 : (ki == 3) = false := by rw [beq_eq_false_iff_ne]; exact h3
  by_cases h4 : ki = 4
  · subst h4
    go_enter Tryd.func34, Tryd.ntmps34
    go_wp2_with fail
    go_ret
    exact ⟨by rw [HT.out]; first | rfl | (simp), BB.out⟩
  have q4 : (ki == 4) = false := by rw [beq_eq_false_iff_ne]; exact h4
  go_enter Tryd.func34, Tryd.ntmps34
  go_wp2_with fail
  go_ret
  exact ⟨by rw [HT.out, q3, q4]; first | rfl | (simp), BB.out⟩
set_option maxHeartbeats 4000000 in
set_option maxRecDepth 100000 in
theorem rule0_any {w0 W : World} {v : Value} {S : List Int} {l : List EvV} {k : Nat} (hp : PastAt w0 W v S l k) {B : Nat} (hb : Holds W B 51 #[.pointer (some ⟨w0.heap.size + 4, 0, none⟩)]) {x : EvV} (hx : l[k]? = some x) (ho : ∀ u ∈ x.row.toList, CellOk u) :
    Calls Tryd.prog 27 #[.agg x.row, .pointer (some ⟨B, 0, none⟩)] W fun e w' => e = .returned (.bool (ruleB S l k x 0)) ∧ Below W.heap.size W w' := by
  obtain ⟨n2, n3, n5, f2, f3, f5, hf, h2, h3, h5⟩ := rule_facts hp hb ho
  have HK1 := Lib.hid (keyI_ok (EvV.ok_se ho))
  have HK3 := Lib.hid (keyI_ok (EvV.ok_wh ho))
  have HZs := Lib.hid zeroSess
  have HZi := Lib.hid zeroInt32
  have H2 := Lib.hid h2
  have H3 := Lib.hid h3
  have HRs : Hid (x.row.size = 34) := rfl
  obtain ⟨W1, hW⟩ : ∃ W1, Hid (W1 = W.alloc (.cells x.row 45)) := ⟨_, Lib.hid rfl⟩
  have BW : Hid (Below W.heap.size W W1) := by
    show Below _ _ _
    rw [hW.out]
    exact (Below.refl _ W).alloc (Nat.le_refl _) _
  rw [← hW.out] at hf
  have HF := Lib.hid hf
  have RV : ruleB S l k x 0 = ((x.ki == 7) || !(sessS S l x.se k).en) := rfl
  clear hf h2 h3 h5 hp hb ho hx
  obtain ⟨E, hE⟩ : ∃ E, Hid (E = W.heap.size) := ⟨_, Lib.hid rfl⟩
  rw [← hE.out] at HF
  generalize ruleB S l k x 0 = rv at *
  generalize sessS S l x.se k = sv at *
  obtain ⟨s1, s2, s3, s4, s5, s6⟩ := sv
  try dsimp only at H2 RV
  have RV := Lib.hid RV
  generalize x.ki = ki at *
  generalize x.se = se at *
  generalize x.nu = nu at *
  generalize x.wh = wh at *
  generalize x.sid = sid at *
  generalize x.dn.kh = kh at *
  generalize x.dn.ks = ks at *
  generalize x.row = R at *
  have HFs : Hid (∀ w', Below W1.heap.size W1 w' → (Below W1.heap.size W1 w' ∧ w'.cell? ⟨B, 0, none⟩ = some (.pointer (some ⟨w0.heap.size + 4, 0, none⟩)) ∧ w'.cell? ⟨w0.heap.size + 4, 2, none⟩ = some (.map (some w0.heap.size)) ∧ w'.cell? ⟨w0.heap.size + 4, 3, none⟩ = some (.map (some (w0.heap.size + 1))) ∧ w'.cell? ⟨w0.heap.size + 4, 5, none⟩ = some (.map (some (w0.heap.size + 3))) ∧ w'.cell? ⟨E, 0, none⟩ = some (.int .i64 ki) ∧ w'.cell? ⟨E, 1, none⟩ = some (.int .i64 se) ∧ w'.cell? ⟨E, 2, none⟩ = some (.int .i64 nu) ∧ w'.cell? ⟨E, 3, none⟩ = some (.int .i64 wh) ∧ w'.cell? ⟨E, 7, none⟩ = some (.int .i64 sid) ∧ w'.cell? ⟨E, 30, none⟩ = some (.int .i64 kh) ∧ w'.cell? ⟨E, 31, none⟩ = some (.int .i64 ks) ∧ Hid (MapF w' Tryd.prog 3 w0.heap.size n2 f2) ∧ Hid (MapF w' Tryd.prog 3 (w0.heap.size + 1) n3 f3) ∧ Hid (Holds w' E 45 R))) := fun w' h => by
    obtain ⟨a1, a2, a3, a4, a5, a6, a7, a8, a9, a10, a11, a12, a13, a14, a15, _⟩ := HF.out w' h
    exact ⟨h, a1, a2, a3, a4, a5, a6, a7, a8, a9, a10, a11, a13, a14, a12⟩
  clear HF
  by_cases h7 : ki = 7
  · have q : (ki == 7) = true := by rw [h7]; rfl
    have RV : Hid (rv = true) := by show rv = true; rw [RV.out, q]; rfl
    go_enter Tryd.func27, Tryd.ntmps27
    go_upto_region 1 with fail
    rw [← hW.out, ← hE.out]
    clear hW hE
    obtain ⟨Sp, hSp⟩ : ∃ Sp : World → Prop, Hid (∀ w', Sp w' ↔ (Below W1.heap.size W1 w' ∧ w'.cell? ⟨B, 0, none⟩ = some (.pointer (some ⟨w0.heap.size + 4, 0, none⟩)) ∧ w'.cell? ⟨w0.heap.size + 4, 2, none⟩ = some (.map (some w0.heap.size)) ∧ w'.cell? ⟨w0.heap.size + 4, 3, none⟩ = some (.map (some (w0.heap.size + 1))) ∧ w'.cell? ⟨w0.heap.size + 4, 5, none⟩ = some (.map (some (w0.heap.size + 3))) ∧ w'.cell? ⟨E, 0, none⟩ = some (.int .i64 ki) ∧ w'.cell? ⟨E, 1, none⟩ = some (.int .i64 se) ∧ w'.cell? ⟨E, 2, none⟩ = some (.int .i64 nu) ∧ w'.cell? ⟨E, 3, none⟩ = some (.int .i64 wh) ∧ w'.cell? ⟨E, 7, none⟩ = some (.int .i64 sid) ∧ w'.cell? ⟨E, 30, none⟩ = some (.int .i64 kh) ∧ w'.cell? ⟨E, 31, none⟩ = some (.int .i64 ks) ∧ Hid (MapF w' Tryd.prog 3 w0.heap.size n2 f2) ∧ Hid (MapF w' Tryd.prog 3 (w0.heap.size + 1) n3 f3) ∧ Hid (Holds w' E 45 R))) := ⟨_, Lib.hid fun _ => Iff.rfl⟩
    refine wp_region_held_gen Sp (by kernel_rfl) ((hSp.out _).2 (HFs.out _ (Below.refl _ W1).drew)) ?_
    have hHeld : Sp _ := (hSp.out (World.drew _)).2 (HFs.out _ (Below.refl _ W1).drew)
    intro O hO
    refine held_read hO (i := 0) rfl rfl (by kernel_rfl) (fun _ _ _ _ h => h) ?_ hHeld ?_ ?_
    rotate_left 1
    · (intro w hSw; have hSw := (hSp.out _).1 hSw; go_simp; (try with_reducible rfl))
    try simp only [Act.put, List.setIfInBounds_toArray, List.set_cons_zero, List.set_cons_succ]
    refine held_read hO (i := 1) rfl rfl (by kernel_rfl) (fun _ _ _ _ h => h) ?_ hHeld ?_ ?_
    rotate_left 1
    · (intro w hSw; have hSw := (hSp.out _).1 hSw; go_simp; (try with_reducible rfl))
    try simp only [Act.put, List.setIfInBounds_toArray, List.set_cons_zero, List.set_cons_succ]
    refine held_read hO (i := 2) rfl rfl (by kernel_rfl) (fun _ _ _ _ h => h) ?_ hHeld ?_ ?_
    rotate_left 1
    · (intro w hSw; have hSw := (hSp.out _).1 hSw; go_simp; (try with_reducible rfl))
    try simp only [Act.put, List.setIfInBounds_toArray, List.set_cons_zero, List.set_cons_succ]
    refine held_read hO (i := 3) rfl rfl (by kernel_rfl) (fun _ _ _ _ h => h) ?_ hHeld ?_ ?_
    rotate_left 1
    · (intro w hSw; have hSw := (hSp.out _).1 hSw; go_simp; (try with_reducible rfl))
    try simp only [Act.put, List.setIfInBounds_toArray, List.set_cons_zero, List.set_cons_succ]
    refine held_skip hO (i := 4) rfl (by rfl) (by kernel_rfl) (fun _ _ _ _ h => h) hHeld ?_
    try simp only [Act.put, List.setIfInBounds_toArray, List.set_cons_zero, List.set_cons_succ]
    refine held_skip hO (i := 5) rfl (by rfl) (by kernel_rfl) (fun _ _ _ _ h => h) hHeld ?_
    try simp only [Act.put, List.setIfInBounds_toArray, List.set_cons_zero, List.set_cons_succ]
    refine held_skip hO (i := 6) rfl (by rfl) (by kernel_rfl) (fun _ _ _ _ h => h) hHeld ?_
    try simp only [Act.put, List.setIfInBounds_toArray, List.set_cons_zero, List.set_cons_succ]
    refine held_skip hO (i := 7) rfl (by rfl) (by kernel_rfl) (fun _ _ _ _ h => h) hHeld ?_
    try simp only [Act.put, List.setIfInBounds_toArray, List.set_cons_zero, List.set_cons_succ]
    refine held_skip hO (i := 8) rfl (by rfl) (by kernel_rfl) (fun _ _ _ _ h => h) hHeld ?_
    try simp only [Act.put, List.setIfInBounds_toArray, List.set_cons_zero, List.set_cons_succ]
    refine held_skip hO (i := 9) rfl (by rfl) (by kernel_rfl) (fun _ _ _ _ h => h) hHeld ?_
    try simp only [Act.put, List.setIfInBounds_toArray, List.set_cons_zero, List.set_cons_succ]
    refine held_skip hO (i := 10) rfl (by rfl) (by kernel_rfl) (fun _ _ _ _ h => h) hHeld ?_
    try simp only [Act.put, List.setIfInBounds_toArray, List.set_cons_zero, List.set_cons_succ]
    refine held_skip hO (i := 11) rfl (by rfl) (by kernel_rfl) (fun _ _ _ _ h => h) hHeld ?_
    try simp only [Act.put, List.setIfInBounds_toArray, List.set_cons_zero, List.set_cons_succ]
    refine held_skip hO (i := 12) rfl (by rfl) (by kernel_rfl) (fun _ _ _ _ h => h) hHeld ?_
    try simp only [Act.put, List.setIfInBounds_toArray, List.set_cons_zero, List.set_cons_succ]
    refine held_read hO (i := 13) rfl rfl (by kernel_rfl) (fun _ _ _ _ h => h) ?_ hHeld ?_ ?_
    rotate_left 1
    · (intro w hSw; have hSw := (hSp.out _).1 hSw; go_simp; (try with_reducible rfl))
    try simp only [Act.put, List.setIfInBounds_toArray, List.set_cons_zero, List.set_cons_succ]
    refine held_read hO (i := 14) rfl rfl (by kernel_rfl) (fun _ _ _ _ h => h) ?_ hHeld ?_ ?_
    rotate_left 1
    · (intro w hSw; have hSw := (hSp.out _).1 hSw; go_simp; (try with_reducible rfl))
    try simp only [Act.put, List.setIfInBounds_toArray, List.set_cons_zero, List.set_cons_succ]
    refine held_done hO (by kernel_rfl) ?_
    clear hO O
    go_wp2_with fail
    go_ret
    exact ⟨by rw [RV.out]; rfl, BW.out.trans (((hSp.out _).1 hHeld).1.mono BW.out.size)⟩
  · have q : (ki == 7) = false := by rw [beq_eq_false_iff_ne]; exact h7
    have RV : Hid (rv = !s6) := by show rv = _; rw [RV.out, q]; rfl
    go_enter Tryd.func27, Tryd.ntmps27
    go_upto_region 1 with fail
    rw [← hW.out, ← hE.out]
    clear hW hE
    obtain ⟨Sp, hSp⟩ : ∃ Sp : World → Prop, Hid (∀ w', Sp w' ↔ (Below W1.heap.size W1 w' ∧ w'.cell? ⟨B, 0, none⟩ = some (.pointer (some ⟨w0.heap.size + 4, 0, none⟩)) ∧ w'.cell? ⟨w0.heap.size + 4, 2, none⟩ = some (.map (some w0.heap.size)) ∧ w'.cell? ⟨w0.heap.size + 4, 3, none⟩ = some (.map (some (w0.heap.size + 1))) ∧ w'.cell? ⟨w0.heap.size + 4, 5, none⟩ = some (.map (some (w0.heap.size + 3))) ∧ w'.cell? ⟨E, 0, none⟩ = some (.int .i64 ki) ∧ w'.cell? ⟨E, 1, none⟩ = some (.int .i64 se) ∧ w'.cell? ⟨E, 2, none⟩ = some (.int .i64 nu) ∧ w'.cell? ⟨E, 3, none⟩ = some (.int .i64 wh) ∧ w'.cell? ⟨E, 7, none⟩ = some (.int .i64 sid) ∧ w'.cell? ⟨E, 30, none⟩ = some (.int .i64 kh) ∧ w'.cell? ⟨E, 31, none⟩ = some (.int .i64 ks) ∧ Hid (MapF w' Tryd.prog 3 w0.heap.size n2 f2) ∧ Hid (MapF w' Tryd.prog 3 (w0.heap.size + 1) n3 f3) ∧ Hid (Holds w' E 45 R))) := ⟨_, Lib.hid fun _ => Iff.rfl⟩
    refine wp_region_held_gen Sp (by kernel_rfl) ((hSp.out _).2 (HFs.out _ (Below.refl _ W1).drew)) ?_
    have hHeld : Sp _ := (hSp.out (World.drew _)).2 (HFs.out _ (Below.refl _ W1).drew)
    intro O hO
    refine held_read hO (i := 0) rfl rfl (by kernel_rfl) (fun _ _ _ _ h => h) ?_ hHeld ?_ ?_
    rotate_left 1
    · (intro w hSw; have hSw := (hSp.out _).1 hSw; go_simp; (try with_reducible rfl))
    try simp only [Act.put, List.setIfInBounds_toArray, List.set_cons_zero, List.set_cons_succ]
    refine held_read hO (i := 1) rfl rfl (by kernel_rfl) (fun _ _ _ _ h => h) ?_ hHeld ?_ ?_
    rotate_left 1
    · (intro w hSw; have hSw := (hSp.out _).1 hSw; go_simp; (try with_reducible rfl))
    try simp only [Act.put, List.setIfInBounds_toArray, List.set_cons_zero, List.set_cons_succ]
    refine held_read hO (i := 2) rfl rfl (by kernel_rfl) (fun _ _ _ _ h => h) ?_ hHeld ?_ ?_
    rotate_left 1
    · (intro w hSw; have hSw := (hSp.out _).1 hSw; go_simp; (try with_reducible rfl))
    try simp only [Act.put, List.setIfInBounds_toArray, List.set_cons_zero, List.set_cons_succ]
    refine held_read hO (i := 3) rfl rfl (by kernel_rfl) (fun _ _ _ _ h => h) ?_ hHeld ?_ ?_
    rotate_left 1
    · (intro w hSw; have hSw := (hSp.out _).1 hSw; go_simp; (try with_reducible rfl))
    try simp only [Act.put, List.setIfInBounds_toArray, List.set_cons_zero, List.set_cons_succ]
    refine held_take hO (i := 4) rfl (by rfl) (by kernel_rfl) (fun _ _ _ _ h => h) ?_ hHeld ?_ ?_
    rotate_left 1
    · (intro w hSw; have hSw := (hSp.out _).1 hSw; go_simp; (try with_reducible rfl))
    try simp only [Act.put, List.setIfInBounds_toArray, List.set_cons_zero, List.set_cons_succ]
    refine held_take hO (i := 5) rfl (by rfl) (by kernel_rfl) (fun _ _ _ _ h => h) ?_ hHeld ?_ ?_
    rotate_left 1
    · (intro w hSw; have hSw := (hSp.out _).1 hSw; go_simp; (try with_reducible rfl))
    try simp only [Act.put, List.setIfInBounds_toArray, List.set_cons_zero, List.set_cons_succ]
    refine held_take hO (i := 6) rfl (by rfl) (by kernel_rfl) (fun _ _ _ _ h => h) ?_ hHeld ?_ ?_
    rotate_left 1
    · (intro w hSw; have hSw := (hSp.out _).1 hSw; go_simp; (try with_reducible rfl))
    try simp only [Act.put, List.setIfInBounds_toArray, List.set_cons_zero, List.set_cons_succ]
    refine held_take hO (i := 7) rfl (by rfl) (by kernel_rfl) (fun _ _ _ _ h => h) ?_ hHeld ?_ ?_
    rotate_left 1
    · (intro w hSw; have hSw := (hSp.out _).1 hSw; go_simp; (try with_reducible rfl))
    try simp only [Act.put, List.setIfInBounds_toArray, List.set_cons_zero, List.set_cons_succ]
    refine held_take hO (i := 8) rfl (by rfl) (by kernel_rfl) (fun _ _ _ _ h => h) ?_ hHeld ?_ ?_
    rotate_left 1
    · (intro w hSw; have hSw := (hSp.out _).1 hSw; go_simp; (try with_reducible rfl))
    try simp only [Act.put, List.setIfInBounds_toArray, List.set_cons_zero, List.set_cons_succ]
    refine held_take hO (i := 9) rfl (by rfl) (by kernel_rfl) (fun _ _ _ _ h => h) ?_ hHeld ?_ ?_
    rotate_left 1
    · (intro w hSw; have hSw := (hSp.out _).1 hSw; go_simp; (try with_reducible rfl))
    try simp only [Act.put, List.setIfInBounds_toArray, List.set_cons_zero, List.set_cons_succ]
    refine held_take hO (i := 10) rfl (by rfl) (by kernel_rfl) (fun _ _ _ _ h => h) (.agg #[.int .i64 s1, .int .i64 s2, .bool s3, .bool s4, .bool s5, .bool s6]) hHeld ?_ ?_
    · exact fun w hSw => exec_look _ _ 69 rfl ((hSp.out _).1 hSw).2.2.2.2.2.2.2.2.2.2.2.2.1.out lawInt31 Tryd.underlying69 zeroS.enc HZs.out rfl (.int .i64 se) (keyI se) rfl HK1.out H2.out
    try simp only [Act.put, List.setIfInBounds_toArray, List.set_cons_zero, List.set_cons_succ]
    refine held_take hO (i := 11) rfl (by rfl) (by kernel_rfl) (fun _ _ _ _ h => h) (.bool s6) hHeld ?_ ?_
    · exact fun w hSw => by kernel_rfl
    try simp only [Act.put, List.setIfInBounds_toArray, List.set_cons_zero, List.set_cons_succ]
    refine held_take hO (i := 12) rfl (by rfl) (by kernel_rfl) (fun _ _ _ _ h => h) ?_ hHeld ?_ ?_
    rotate_left 1
    · (intro w hSw; have hSw := (hSp.out _).1 hSw; go_simp; (try with_reducible rfl))
    try simp only [Act.put, List.setIfInBounds_toArray, List.set_cons_zero, List.set_cons_succ]
    refine held_read hO (i := 13) rfl rfl (by kernel_rfl) (fun _ _ _ _ h => h) ?_ hHeld ?_ ?_
    rotate_left 1
    · (intro w hSw; have hSw := (hSp.out _).1 hSw; go_simp; (try with_reducible rfl))
    try simp only [Act.put, List.setIfInBounds_toArray, List.set_cons_zero, List.set_cons_succ]
    refine held_read hO (i := 14) rfl rfl (by kernel_rfl) (fun _ _ _ _ h => h) ?_ hHeld ?_ ?_
    rotate_left 1
    · (intro w hSw; have hSw := (hSp.out _).1 hSw; go_simp; (try with_reducible rfl))
    try simp only [Act.put, List.setIfInBounds_toArray, List.set_cons_zero, List.set_cons_succ]
    refine held_done hO (by kernel_rfl) ?_
    clear hO O
    go_wp2_with fail
    go_ret
    exact ⟨by rw [RV.out]; rfl, BW.out.trans (((hSp.out _).1 hHeld).1.mono BW.out.size)⟩
set_option maxHeartbeats 4000000 in
set_option maxRecDepth 100000 in
theorem rule1_any {w0 W : World} {v : Value} {S : List Int} {l : List EvV} {k : Nat} (hp : PastAt w0 W v S l k) {B : Nat} (hb : Holds W B 51 #[.pointer (some ⟨w0.heap.size + 4, 0, none⟩)]) {x : EvV} (hx : l[k]? = some x) (ho : ∀ u ∈ x.row.toList, CellOk u) :
    Calls Tryd.prog 28 #[.agg x.row, .pointer (some ⟨B, 0, none⟩)] W fun e w' => e = .returned (.bool (ruleB S l k x 1)) ∧ Below W.heap.size W w' := by
  obtain ⟨n2, n3, n5, f2, f3, f5, hf, h2, h3, h5⟩ := rule_facts hp hb ho
  have HK1 := Lib.hid (keyI_ok (EvV.ok_se ho))
  have HK3 := Lib.hid (keyI_ok (EvV.ok_wh ho))
  have HZs := Lib.hid zeroSess
  have HZi := Lib.hid zeroInt32
  have H2 := Lib.hid h2
  have H3 := Lib.hid h3
  have HRs : Hid (x.row.size = 34) := rfl
  obtain ⟨W1, hW⟩ : ∃ W1, Hid (W1 = W.alloc (.cells x.row 45)) := ⟨_, Lib.hid rfl⟩
  have BW : Hid (Below W.heap.size W W1) := by
    show Below _ _ _
    rw [hW.out]
    exact (Below.refl _ W).alloc (Nat.le_refl _) _
  rw [← hW.out] at hf
  have HF := Lib.hid hf
  have RV : ruleB S l k x 1 = (!(x.ki == 7) || !(aheadB l x.wh k)) := rfl
  clear hf h2 h3 h5 hp hb ho hx
  obtain ⟨E, hE⟩ : ∃ E, Hid (E = W.heap.size) := ⟨_, Lib.hid rfl⟩
  rw [← hE.out] at HF
  generalize ruleB S l k x 1 = rv at *
  generalize aheadB l x.wh k = ah at *
  have RV := Lib.hid RV
  generalize x.ki = ki at *
  clear H2
  generalize x.se = se at *
  generalize x.nu = nu at *
  generalize x.wh = wh at *
  generalize x.sid = sid at *
  generalize x.dn.kh = kh at *
  generalize x.dn.ks = ks at *
  generalize x.row = R at *
  have HFs : Hid (∀ w', Below W1.heap.size W1 w' → (Below W1.heap.size W1 w' ∧ w'.cell? ⟨B, 0, none⟩ = some (.pointer (some ⟨w0.heap.size + 4, 0, none⟩)) ∧ w'.cell? ⟨w0.heap.size + 4, 2, none⟩ = some (.map (some w0.heap.size)) ∧ w'.cell? ⟨w0.heap.size + 4, 3, none⟩ = some (.map (some (w0.heap.size + 1))) ∧ w'.cell? ⟨w0.heap.size + 4, 5, none⟩ = some (.map (some (w0.heap.size + 3))) ∧ w'.cell? ⟨E, 0, none⟩ = some (.int .i64 ki) ∧ w'.cell? ⟨E, 1, none⟩ = some (.int .i64 se) ∧ w'.cell? ⟨E, 2, none⟩ = some (.int .i64 nu) ∧ w'.cell? ⟨E, 3, none⟩ = some (.int .i64 wh) ∧ w'.cell? ⟨E, 7, none⟩ = some (.int .i64 sid) ∧ w'.cell? ⟨E, 30, none⟩ = some (.int .i64 kh) ∧ w'.cell? ⟨E, 31, none⟩ = some (.int .i64 ks) ∧ Hid (MapF w' Tryd.prog 3 w0.heap.size n2 f2) ∧ Hid (MapF w' Tryd.prog 3 (w0.heap.size + 1) n3 f3) ∧ Hid (Holds w' E 45 R))) := fun w' h => by
    obtain ⟨a1, a2, a3, a4, a5, a6, a7, a8, a9, a10, a11, a12, a13, a14, a15, _⟩ := HF.out w' h
    exact ⟨h, a1, a2, a3, a4, a5, a6, a7, a8, a9, a10, a11, a13, a14, a12⟩
  clear HF
  obtain ⟨z3, hz3⟩ : ∃ z3, Hid (z3 = (f3 (keyI wh)).getD (.int .i64 0)) := ⟨_, Lib.hid rfl⟩
  by_cases h7 : ki = 7
  · have q : (ki == 7) = true := by rw [h7]; rfl
    have RV : Hid (rv = !ah) := by show rv = _; rw [RV.out, q]; rfl
    go_enter Tryd.func28, Tryd.ntmps28
    go_upto_region 1 with fail
    rw [← hW.out, ← hE.out]
    clear hW hE
    obtain ⟨Sp, hSp⟩ : ∃ Sp : World → Prop, Hid (∀ w', Sp w' ↔ (Below W1.heap.size W1 w' ∧ w'.cell? ⟨B, 0, none⟩ = some (.pointer (some ⟨w0.heap.size + 4, 0, none⟩)) ∧ w'.cell? ⟨w0.heap.size + 4, 2, none⟩ = some (.map (some w0.heap.size)) ∧ w'.cell? ⟨w0.heap.size + 4, 3, none⟩ = some (.map (some (w0.heap.size + 1))) ∧ w'.cell? ⟨w0.heap.size + 4, 5, none⟩ = some (.map (some (w0.heap.size + 3))) ∧ w'.cell? ⟨E, 0, none⟩ = some (.int .i64 ki) ∧ w'.cell? ⟨E, 1, none⟩ = some (.int .i64 se) ∧ w'.cell? ⟨E, 2, none⟩ = some (.int .i64 nu) ∧ w'.cell? ⟨E, 3, none⟩ = some (.int .i64 wh) ∧ w'.cell? ⟨E, 7, none⟩ = some (.int .i64 sid) ∧ w'.cell? ⟨E, 30, none⟩ = some (.int .i64 kh) ∧ w'.cell? ⟨E, 31, none⟩ = some (.int .i64 ks) ∧ Hid (MapF w' Tryd.prog 3 w0.heap.size n2 f2) ∧ Hid (MapF w' Tryd.prog 3 (w0.heap.size + 1) n3 f3) ∧ Hid (Holds w' E 45 R))) := ⟨_, Lib.hid fun _ => Iff.rfl⟩
    refine wp_region_held_gen Sp (by kernel_rfl) ((hSp.out _).2 (HFs.out _ (Below.refl _ W1).drew)) ?_
    have hHeld : Sp _ := (hSp.out (World.drew _)).2 (HFs.out _ (Below.refl _ W1).drew)
    intro O hO
    refine held_read hO (i := 0) rfl rfl (by kernel_rfl) (fun _ _ _ _ h => h) ?_ hHeld ?_ ?_
    rotate_left 1
    · (intro w hSw; have hSw := (hSp.out _).1 hSw; go_simp; (try with_reducible rfl))
    try simp only [Act.put, List.setIfInBounds_toArray, List.set_cons_zero, List.set_cons_succ]
    refine held_read hO (i := 1) rfl rfl (by kernel_rfl) (fun _ _ _ _ h => h) ?_ hHeld ?_ ?_
    rotate_left 1
    · (intro w hSw; have hSw := (hSp.out _).1 hSw; go_simp; (try with_reducible rfl))
    try simp only [Act.put, List.setIfInBounds_toArray, List.set_cons_zero, List.set_cons_succ]
    refine held_read hO (i := 2) rfl rfl (by kernel_rfl) (fun _ _ _ _ h => h) ?_ hHeld ?_ ?_
    rotate_left 1
    · (intro w hSw; have hSw := (hSp.out _).1 hSw; go_simp; (try with_reducible rfl))
    try simp only [Act.put, List.setIfInBounds_toArray, List.set_cons_zero, List.set_cons_succ]
    refine held_read hO (i := 3) rfl rfl (by kernel_rfl) (fun _ _ _ _ h => h) ?_ hHeld ?_ ?_
    rotate_left 1
    · (intro w hSw; have hSw := (hSp.out _).1 hSw; go_simp; (try with_reducible rfl))
    try simp only [Act.put, List.setIfInBounds_toArray, List.set_cons_zero, List.set_cons_succ]
    refine held_read hO (i := 4) rfl rfl (by kernel_rfl) (fun _ _ _ _ h => h) ?_ hHeld ?_ ?_
    rotate_left 1
    · (intro w hSw; have hSw := (hSp.out _).1 hSw; go_simp; (try with_reducible rfl))
    try simp only [Act.put, List.setIfInBounds_toArray, List.set_cons_zero, List.set_cons_succ]
    refine held_read hO (i := 5) rfl rfl (by kernel_rfl) (fun _ _ _ _ h => h) ?_ hHeld ?_ ?_
    rotate_left 1
    · (intro w hSw; have hSw := (hSp.out _).1 hSw; go_simp; (try with_reducible rfl))
    try simp only [Act.put, List.setIfInBounds_toArray, List.set_cons_zero, List.set_cons_succ]
    refine held_read hO (i := 6) rfl rfl (by kernel_rfl) (fun _ _ _ _ h => h) (.tuple #[(f3 (keyI wh)).getD (.int .i64 0), .bool (f3 (keyI wh)).isSome]) hHeld ?_ ?_
    · exact fun w hSw => exec_look_ok _ _ 70 rfl ((hSp.out _).1 hSw).2.2.2.2.2.2.2.2.2.2.2.2.2.1.out lawInt31 Tryd.underlying70 (.int .i64 0) HZi.out rfl (.int .i64 wh) (keyI wh) rfl HK3.out
    try simp only [Act.put, List.setIfInBounds_toArray, List.set_cons_zero, List.set_cons_succ]
    refine held_read hO (i := 7) rfl rfl (by kernel_rfl) (fun _ _ _ _ h => h) ?_ hHeld ?_ ?_
    rotate_left 1
    · (intro w hSw; have hSw := (hSp.out _).1 hSw; go_simp; (try with_reducible rfl))
    try simp only [Act.put, List.setIfInBounds_toArray, List.set_cons_zero, List.set_cons_succ]
    refine held_read hO (i := 8) rfl rfl (by kernel_rfl) (fun _ _ _ _ h => h) ?_ hHeld ?_ ?_
    rotate_left 1
    · (intro w hSw; have hSw := (hSp.out _).1 hSw; go_simp; (try with_reducible rfl))
    try simp only [Act.put, List.setIfInBounds_toArray, List.set_cons_zero, List.set_cons_succ]
    refine held_read hO (i := 9) rfl rfl (by kernel_rfl) (fun _ _ _ _ h => h) ?_ hHeld ?_ ?_
    rotate_left 1
    · (intro w hSw; have hSw := (hSp.out _).1 hSw; go_simp; (try with_reducible rfl))
    try simp only [Act.put, List.setIfInBounds_toArray, List.set_cons_zero, List.set_cons_succ]
    refine held_read hO (i := 10) rfl rfl (by kernel_rfl) (fun _ _ _ _ h => h) ?_ hHeld ?_ ?_
    rotate_left 1
    · (intro w hSw; have hSw := (hSp.out _).1 hSw; go_simp; (try with_reducible rfl))
    try simp only [Act.put, List.setIfInBounds_toArray, List.set_cons_zero, List.set_cons_succ]
    refine held_read hO (i := 11) rfl rfl (by kernel_rfl) (fun _ _ _ _ h => h) ?_ hHeld ?_ ?_
    rotate_left 1
    · (intro w hSw; have hSw := (hSp.out _).1 hSw; go_simp; (try with_reducible rfl))
    try simp only [Act.put, List.setIfInBounds_toArray, List.set_cons_zero, List.set_cons_succ]
    refine held_done hO (by kernel_rfl) ?_
    clear hO O
    rw [H3.out]
    generalize (f3 (keyI wh)).getD (.int .i64 0) = y3
    obtain ⟨a0, a1, a2, a3, a4, a5, _⟩ := (hSp.out _).1 hHeld
    have qn : (ki != 7) = false := by rw [bne, q]; rfl
    go_wp2_with fail
    go_ret
    exact ⟨by rw [RV.out]; rfl, BW.out.trans (a0.mono BW.out.size)⟩
  · have q : (ki == 7) = false := by rw [beq_eq_false_iff_ne]; exact h7
    have RV : Hid (rv = true) := by show rv = _; rw [RV.out, q]; rfl
    go_enter Tryd.func28, Tryd.ntmps28
    go_upto_region 1 with fail
    rw [← hW.out, ← hE.out]
    clear hW hE
    obtain ⟨Sp, hSp⟩ : ∃ Sp : World → Prop, Hid (∀ w', Sp w' ↔ (Below W1.heap.size W1 w' ∧ w'.cell? ⟨B, 0, none⟩ = some (.pointer (some ⟨w0.heap.size + 4, 0, none⟩)) ∧ w'.cell? ⟨w0.heap.size + 4, 2, none⟩ = some (.map (some w0.heap.size)) ∧ w'.cell? ⟨w0.heap.size + 4, 3, none⟩ = some (.map (some (w0.heap.size + 1))) ∧ w'.cell? ⟨w0.heap.size + 4, 5, none⟩ = some (.map (some (w0.heap.size + 3))) ∧ w'.cell? ⟨E, 0, none⟩ = some (.int .i64 ki) ∧ w'.cell? ⟨E, 1, none⟩ = some (.int .i64 se) ∧ w'.cell? ⟨E, 2, none⟩ = some (.int .i64 nu) ∧ w'.cell? ⟨E, 3, none⟩ = some (.int .i64 wh) ∧ w'.cell? ⟨E, 7, none⟩ = some (.int .i64 sid) ∧ w'.cell? ⟨E, 30, none⟩ = some (.int .i64 kh) ∧ w'.cell? ⟨E, 31, none⟩ = some (.int .i64 ks) ∧ Hid (MapF w' Tryd.prog 3 w0.heap.size n2 f2) ∧ Hid (MapF w' Tryd.prog 3 (w0.heap.size + 1) n3 f3) ∧ Hid (Holds w' E 45 R))) := ⟨_, Lib.hid fun _ => Iff.rfl⟩
    refine wp_region_held_gen Sp (by kernel_rfl) ((hSp.out _).2 (HFs.out _ (Below.refl _ W1).drew)) ?_
    have hHeld : Sp _ := (hSp.out (World.drew _)).2 (HFs.out _ (Below.refl _ W1).drew)
    intro O hO
    refine held_read hO (i := 0) rfl rfl (by kernel_rfl) (fun _ _ _ _ h => h) ?_ hHeld ?_ ?_
    rotate_left 1
    · (intro w hSw; have hSw := (hSp.out _).1 hSw; go_simp; (try with_reducible rfl))
    try simp only [Act.put, List.setIfInBounds_toArray, List.set_cons_zero, List.set_cons_succ]
    refine held_read hO (i := 1) rfl rfl (by kernel_rfl) (fun _ _ _ _ h => h) ?_ hHeld ?_ ?_
    rotate_left 1
    · (intro w hSw; have hSw := (hSp.out _).1 hSw; go_simp; (try with_reducible rfl))
    try simp only [Act.put, List.setIfInBounds_toArray, List.set_cons_zero, List.set_cons_succ]
    refine held_read hO (i := 2) rfl rfl (by kernel_rfl) (fun _ _ _ _ h => h) ?_ hHeld ?_ ?_
    rotate_left 1
    · (intro w hSw; have hSw := (hSp.out _).1 hSw; go_simp; (try with_reducible rfl))
    try simp only [Act.put, List.setIfInBounds_toArray, List.set_cons_zero, List.set_cons_succ]
    refine held_read hO (i := 3) rfl rfl (by kernel_rfl) (fun _ _ _ _ h => h) ?_ hHeld ?_ ?_
    rotate_left 1
    · (intro w hSw; have hSw := (hSp.out _).1 hSw; go_simp; (try with_reducible rfl))
    try simp only [Act.put, List.setIfInBounds_toArray, List.set_cons_zero, List.set_cons_succ]
    refine held_read hO (i := 4) rfl rfl (by kernel_rfl) (fun _ _ _ _ h => h) ?_ hHeld ?_ ?_
    rotate_left 1
    · (intro w hSw; have hSw := (hSp.out _).1 hSw; go_simp; (try with_reducible rfl))
    try simp only [Act.put, List.setIfInBounds_toArray, List.set_cons_zero, List.set_cons_succ]
    refine held_read hO (i := 5) rfl rfl (by kernel_rfl) (fun _ _ _ _ h => h) ?_ hHeld ?_ ?_
    rotate_left 1
    · (intro w hSw; have hSw := (hSp.out _).1 hSw; go_simp; (try with_reducible rfl))
    try simp only [Act.put, List.setIfInBounds_toArray, List.set_cons_zero, List.set_cons_succ]
    refine held_read hO (i := 6) rfl rfl (by kernel_rfl) (fun _ _ _ _ h => h) (.tuple #[(f3 (keyI wh)).getD (.int .i64 0), .bool (f3 (keyI wh)).isSome]) hHeld ?_ ?_
    · exact fun w hSw => exec_look_ok _ _ 70 rfl ((hSp.out _).1 hSw).2.2.2.2.2.2.2.2.2.2.2.2.2.1.out lawInt31 Tryd.underlying70 (.int .i64 0) HZi.out rfl (.int .i64 wh) (keyI wh) rfl HK3.out
    try simp only [Act.put, List.setIfInBounds_toArray, List.set_cons_zero, List.set_cons_succ]
    refine held_read hO (i := 7) rfl rfl (by kernel_rfl) (fun _ _ _ _ h => h) ?_ hHeld ?_ ?_
    rotate_left 1
    · (intro w hSw; have hSw := (hSp.out _).1 hSw; go_simp; (try with_reducible rfl))
    try simp only [Act.put, List.setIfInBounds_toArray, List.set_cons_zero, List.set_cons_succ]
    refine held_read hO (i := 8) rfl rfl (by kernel_rfl) (fun _ _ _ _ h => h) ?_ hHeld ?_ ?_
    rotate_left 1
    · (intro w hSw; have hSw := (hSp.out _).1 hSw; go_simp; (try with_reducible rfl))
    try simp only [Act.put, List.setIfInBounds_toArray, List.set_cons_zero, List.set_cons_succ]
    refine held_read hO (i := 9) rfl rfl (by kernel_rfl) (fun _ _ _ _ h => h) ?_ hHeld ?_ ?_
    rotate_left 1
    · (intro w hSw; have hSw := (hSp.out _).1 hSw; go_simp; (try with_reducible rfl))
    try simp only [Act.put, List.setIfInBounds_toArray, List.set_cons_zero, List.set_cons_succ]
    refine held_read hO (i := 10) rfl rfl (by kernel_rfl) (fun _ _ _ _ h => h) ?_ hHeld ?_ ?_
    rotate_left 1
    · (intro w hSw; have hSw := (hSp.out _).1 hSw; go_simp; (try with_reducible rfl))
    try simp only [Act.put, List.setIfInBounds_toArray, List.set_cons_zero, List.set_cons_succ]
    refine held_read hO (i := 11) rfl rfl (by kernel_rfl) (fun _ _ _ _ h => h) ?_ hHeld ?_ ?_
    rotate_left 1
    · (intro w hSw; have hSw := (hSp.out _).1 hSw; go_simp; (try with_reducible rfl))
    try simp only [Act.put, List.setIfInBounds_toArray, List.set_cons_zero, List.set_cons_succ]
    refine held_done hO (by kernel_rfl) ?_
    clear hO O
    rw [H3.out]
    generalize (f3 (keyI wh)).getD (.int .i64 0) = y3
    obtain ⟨a0, a1, a2, a3, a4, a5, _⟩ := (hSp.out _).1 hHeld
    have qn : (ki != 7) = true := by rw [bne, q]; rfl
    go_wp2_with fail
    go_ret
    exact ⟨by rw [RV.out]; rfl, BW.out.trans (a0.mono BW.out.size)⟩
end Go.Proofs.YtpkkeeblgbdfdaaDoor
