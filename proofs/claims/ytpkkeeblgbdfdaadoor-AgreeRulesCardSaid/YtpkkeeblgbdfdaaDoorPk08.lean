/- Part 8 of what the statement wants. -/
import Derived.Deep.RegionHeld3
import Derived.Deep.DeepCutAuto
import Derived.Deep.CutRange
import Derived.Test.YtpkkeeblgbdfdaaDoorPk07
namespace Go.Proofs.YtpkkeeblgbdfdaaDoor
open Go.RowKit Go.Maps Go.WideMaps

set_option maxRecDepth 100000 in
theorem sizeSess : (Tryd.prog.info? 68).map (·.size) = some 6 := by kernel_rfl
set_option maxHeartbeats 4000000 in
set_option maxRecDepth 100000 in
theorem after_any {w : World} {p b n k : Nat} {f : Lit → Option Value} {g : Int → SessV} {S : List Int} {v c3 c4 c5 : Value} (h : Holds w p 73 #[.int .i64 (k : Int), v, .map (some b), c3, c4, c5]) (hf : MapF w Tryd.prog 3 b n f) (hg : OfSess f g)
    (hi : IdsAt w v S) (hS : S.Pairwise (· < ·)) (hl : S.length ≤ 1000) (x : EvV) (hx : ∀ u ∈ x.row.toList, CellOk u) (hb : 0 ≤ (g x.se).ex ∧ (g x.se).ex ≤ 1000) :
    Calls Tryd.prog 42 #[.pointer (some ⟨p, 0, none⟩), .agg x.row] w fun e w' => e = .returned (.agg (afterV S k x (g x.se)).row) ∧ Below w.heap.size w w' := by
  obtain ⟨W, hW⟩ : ∃ W, Hid (W = (w.alloc (.cells x.row 45)).alloc (.cells zeroS.row 68)) := ⟨_, Lib.hid rfl⟩
  have BW : Hid (Below w.heap.size w W) := by
    show Below _ _ _
    rw [hW.out]
    exact ((Below.refl _ w).alloc (Nat.le_refl _) _).alloc (by simp) _
  have K1 : Hid (Holds W w.heap.size 45 x.row) := by
    show Holds _ _ _ _
    rw [hW.out]
    exact first2_row w _ 45 _ rfl
  have hp : Holds W p 73 #[.int .i64 (k : Int), v, .map (some b), c3, c4, c5] := (BW.out.block p h.lt).trans h
  have hkey := keyI_ok (EvV.ok_se hx)
  have hfW := hf.below BW.out
  have d1 : W.drew.cell? ⟨w.heap.size, 1, none⟩ = some (.int .i64 x.se) := (cell_heap K1.out 1).trans (EvV.row_se x)
  have d2 : W.drew.cell? ⟨p, 2, none⟩ = some (.map (some b)) := hp.cell 2
  have ba : Below W.drew.heap.size W.drew (W.drew.alloc (.cells zeroS.row 68)) := (Below.refl _ _).alloc (Nat.le_refl _) _
  have e1 : (W.drew.alloc (.cells #[.int .i64 0, .int .i64 0, .bool false, .bool false, .bool false, .bool false] 68)).cell? ⟨w.heap.size, 1, none⟩ = some (.int .i64 x.se) := (ba.cell (p := ⟨w.heap.size, 1, none⟩) K1.out.lt).trans d1
  have e2 : (W.drew.alloc (.cells #[.int .i64 0, .int .i64 0, .bool false, .bool false, .bool false, .bool false] 68)).cell? ⟨p, 2, none⟩ = some (.map (some b)) := (ba.cell (p := ⟨p, 2, none⟩) hp.lt).trans d2
  have hfd : MapF W.drew Tryd.prog 3 b n f := hfW
  have l1 := hfd.look lawInt31 Tryd.underlying69 (zeroSess _) hkey
  have l2 := (hfd.below ba).look lawInt31 Tryd.underlying69 (zeroSess _) hkey
  rw [hg x.se _ hkey] at l1 l2
  have hse : (g x.se).enc = .agg #[.int .i64 (g x.se).ex, .int .i64 (g x.se).id, .bool (g x.se).co, .bool (g x.se).ac, .bool (g x.se).le, .bool (g x.se).en] := rfl
  rw [hse] at l1 l2
  have m1 : (Instr.lookup 69 (.map (some b)) (.int .i64 x.se) false).run Tryd.prog W.drew = .ok (.agg #[.int .i64 (g x.se).ex, .int .i64 (g x.se).id, .bool (g x.se).co, .bool (g x.se).ac, .bool (g x.se).le, .bool (g x.se).en]) W.drew := l1
  have m2 : (Instr.lookup 69 (.map (some b)) (.int .i64 x.se) false).run Tryd.prog (W.drew.alloc (.cells #[.int .i64 0, .int .i64 0, .bool false, .bool false, .bool false, .bool false] 68)) = .ok (.agg #[.int .i64 (g x.se).ex, .int .i64 (g x.se).id, .bool (g x.se).co, .bool (g x.se).ac, .bool (g x.se).le, .bool (g x.se).en]) (W.drew.alloc (.cells #[.int .i64 0, .int .i64 0, .bool false, .bool false, .bool false, .bool false] 68)) := l2
  have e1b : (W.alloc (.cells #[.int .i64 0, .int .i64 0, .bool false, .bool false, .bool false, .bool false] 68)).cell? ⟨w.heap.size, 1, none⟩ = some (.int .i64 x.se) := e1
  have e2b : (W.alloc (.cells #[.int .i64 0, .int .i64 0, .bool false, .bool false, .bool false, .bool false] 68)).cell? ⟨p, 2, none⟩ = some (.map (some b)) := e2
  have e1c : (W.alloc (.cells #[.int .i64 0, .int .i64 0, .bool false, .bool false, .bool false, .bool false] 68)).drew.cell? ⟨w.heap.size, 1, none⟩ = some (.int .i64 x.se) := e1
  have e2c : (W.alloc (.cells #[.int .i64 0, .int .i64 0, .bool false, .bool false, .bool false, .bool false] 68)).drew.cell? ⟨p, 2, none⟩ = some (.map (some b)) := e2
  have m3 : (Instr.lookup 69 (.map (some b)) (.int .i64 x.se) false).run Tryd.prog (W.alloc (.cells #[.int .i64 0, .int .i64 0, .bool false, .bool false, .bool false, .bool false] 68)).drew = .ok (.agg #[.int .i64 (g x.se).ex, .int .i64 (g x.se).id, .bool (g x.se).co, .bool (g x.se).ac, .bool (g x.se).le, .bool (g x.se).en]) (W.alloc (.cells #[.int .i64 0, .int .i64 0, .bool false, .bool false, .bool false, .bool false] 68)).drew := l2
  have c0 : ∀ o, (W.alloc o).drew.cell? ⟨w.heap.size, 0, none⟩ = some (.int .i64 x.ki) := fun o => (((Below.refl _ W).alloc (Nat.le_refl _) o).cell (p := ⟨w.heap.size, 0, none⟩) K1.out.lt).trans ((cell_heap K1.out 0).trans (EvV.row_ki x))
  have c31 : ∀ o, (W.alloc o).drew.cell? ⟨w.heap.size, 31, none⟩ = some (.int .i64 x.dn.ks) := fun o => (((Below.refl _ W).alloc (Nat.le_refl _) o).cell (p := ⟨w.heap.size, 31, none⟩) K1.out.lt).trans ((cell_heap K1.out 31).trans rfl)
  have HSafe : Hid (∀ o, Calls Tryd.prog 49 #[.pointer (some ⟨p, 0, none⟩)] (W.alloc o).drew fun e w' => e = .returned (.bool (decide ((k : Int) ∈ S))) ∧ ∃ m, w' = (W.alloc o).drew.drewN m) := fun o => by
    have bo : Below W.heap.size W (W.alloc o) := (Below.refl _ W).alloc (Nat.le_refl _) o
    have hpo : Holds (W.alloc o).drew p 73 #[.int .i64 (k : Int), v, .map (some b), c3, c4, c5] := (bo.block p hp.lt).trans hp
    have bo2 : Below w.heap.size w (W.alloc o) := BW.out.trans (bo.mono BW.out.size)
    have hio : IdsAt (W.alloc o).drew v S := hi.keep bo2.size fun _ _ _ _ _ hlt => bo2.cell hlt
    exact isSafe_any hpo hio hS hl
  have K2 : Hid (Holds W (w.heap.size + 1) 68 zeroS.row) := by
    show Holds _ _ _ _
    rw [hW.out]
    exact last2_row w _ 68 _ rfl
  have HN : Hid (∀ o, (W.alloc o).drew.heap[w.heap.size + 1]? = some (.cells zeroS.row 68 (0, 0))) := fun o => (heap_alloc_old _ _ K2.out.lt).trans K2.out
  have HBl : Hid (∀ o R, Below w.heap.size w ((W.alloc o).drew.setRow (w.heap.size + 1) R)) := fun o R => below_setRow (w := (W.alloc o).drew) ((BW.out.trans (((Below.refl _ W).alloc (Nat.le_refl _) o).mono BW.out.size)) |> fun h => ⟨h.os, h.tape, h.output, h.size, h.block⟩) (Nat.le_succ _) R
  have HBm : Hid (∀ o R m, Below w.heap.size w (((W.alloc o).drew.drewN m).setRow (w.heap.size + 1) R)) := fun o R m => below_setRow (w := (W.alloc o).drew.drewN m) ((BW.out.trans (((Below.refl _ W).alloc (Nat.le_refl _) o).mono BW.out.size)) |> fun h => ⟨h.os, h.tape, h.output, h.size, h.block⟩) (Nat.le_succ _) R
  have HNX : Hid (∀ o m v1 v2, ((((W.alloc o).drew.drewN m).setCell ⟨W.heap.size, 2, none⟩ v1).setCell ⟨W.heap.size, 0, none⟩ v2).heap[w.heap.size + 1]? = some (.cells zeroS.row 68 (0, 0))) := fun o m v1 v2 => (heap_setCell_other _ ⟨W.heap.size, 0, none⟩ _ v2 (Nat.ne_of_lt K2.out.lt)).trans ((heap_setCell_other _ ⟨W.heap.size, 2, none⟩ _ v1 (Nat.ne_of_lt K2.out.lt)).trans (HN.out o))
  have HBX : Hid (∀ o m v1 v2 R, Below w.heap.size w (((((W.alloc o).drew.drewN m).setCell ⟨W.heap.size, 2, none⟩ v1).setCell ⟨W.heap.size, 0, none⟩ v2).setRow (w.heap.size + 1) R)) := fun o m v1 v2 R => below_setRow (((((BW.out.trans (((Below.refl _ W).alloc (Nat.le_refl _) o).mono BW.out.size)) |> fun h => (⟨h.os, h.tape, h.output, h.size, h.block⟩ : Below w.heap.size w ((W.alloc o).drew.drewN m)))).setCell (p := ⟨W.heap.size, 2, none⟩) BW.out.size v1).setCell (p := ⟨W.heap.size, 0, none⟩) BW.out.size v2) (Nat.le_succ _) R
  have HC0 := Lib.hid c0
  have HC31 := Lib.hid c31
  have HAf : Hid (∀ q, q = afterV S k x (g x.se) → q = afterV S k x (g x.se)) := fun _ e => e
  have HV : ((afterV S k x (g x.se)).row = (if x.ki = 1 ∨ x.ki = 2 then ⟨(g x.se).ex + 1, if (g x.se).ex = 0 then x.dn.ks else (g x.se).id, if (g x.se).ex = 0 then decide ((k : Int) ∈ S) else (g x.se).co, (g x.se).ac, (g x.se).le, (g x.se).en⟩
    else if x.ki = 4 then { g x.se with ac := true } else if x.ki = 5 then { g x.se with le := true } else if x.ki = 6 then { g x.se with en := true } else g x.se : SessV).row) := rfl
  clear l1 l2 hse h hp hi K1 hf hg hfW hfd hx hkey c0 c31 HAf
  obtain ⟨sv, hsv⟩ : ∃ sv, sv = g x.se := ⟨_, rfl⟩
  rw [← hsv] at hb m1 m2 m3 HV ⊢
  clear hsv
  obtain ⟨s1, s2, s3, s4, s5, s6⟩ := sv
  generalize decide ((k : Int) ∈ S) = ks at *
  generalize (afterV S k x ⟨s1, s2, s3, s4, s5, s6⟩).row = RV at *
  generalize x.dn.ks = sid at *
  generalize x.se = se at *
  generalize x.ki = ki at *
  generalize x.row = R at *
  simp only [] at hb m1 m2 m3
  go_enter Tryd.func42, Tryd.ntmps42
  go_upto_region 1 with fail
  change Code.wp _ _ _ _ ((w.alloc (.cells R 45)).alloc (.cells zeroS.row 68))
  rw [← hW.out]
  clear hW
  go_cut [5] (fun u wr => u = .pointer (some ⟨W.heap.size, 0, none⟩) ∧ wr = (W.alloc (.cells #[.int .i64 s1, .int .i64 s2, .bool s3, .bool s4, .bool s5, .bool s6] 68)).drew)
  case first =>
    go_region
    all_goals
      go_wp2_with fail
      go_meet
      case rel => exact ⟨rfl, rfl⟩
  case rest =>
    obtain ⟨rfl, rfl⟩ := hcut
    have f0 := HC0.out (.cells #[.int .i64 s1, .int .i64 s2, .bool s3, .bool s4, .bool s5, .bool s6] 68)
    by_cases k1 : ki = 1 ∨ ki = 2
    case pos =>
      rw [if_pos k1] at HV
      by_cases z : s1 = 0
      case neg =>
        have qz : (s1 == 0) = false := by rw [beq_eq_false_iff_ne]; exact z
        rw [if_neg z, if_neg z] at HV
        have HV := Lib.hid HV
        rcases k1 with k1 | k1 <;> subst k1
        · clear z
          go_wp2_with (first
            | (refine wpList_load_row rfl 68 _ rfl W.heap.size rfl 68 #[.int .i64 (s1 + 1), .int .i64 s2, .bool s3, .bool s4, .bool s5, .bool s6] (0, 0) _ (by exact heap_alloc_new W _) Tryd.underlying68 rfl (by exact sizeSess) ?_)
            | (refine wpList_store_row rfl 68 _ _ rfl (w.heap.size + 1) #[.int .i64 (s1 + 1), .int .i64 s2, .bool s3, .bool s4, .bool s5, .bool s6] rfl rfl 68 zeroS.row (HN.out _) (by exact sizeSess) rfl (by simp [Value.oneCell']) ?_))
          refine bodyPost_ret (results_cell_row rfl _ _ (w.heap.size + 1) 68 #[.int .i64 (s1 + 1), .int .i64 s2, .bool s3, .bool s4, .bool s5, .bool s6] (0, 0) _ rfl (setRow_heap _ _ _ _ _ _ (HN.out _)) Tryd.underlying68 rfl (by exact sizeSess)) rfl ⟨by first | rfl | (rw [HV.out]; rfl), HBl.out _ _⟩
        · clear z
          go_wp2_with (first
            | (refine wpList_load_row rfl 68 _ rfl W.heap.size rfl 68 #[.int .i64 (s1 + 1), .int .i64 s2, .bool s3, .bool s4, .bool s5, .bool s6] (0, 0) _ (by exact heap_alloc_new W _) Tryd.underlying68 rfl (by exact sizeSess) ?_)
            | (refine wpList_store_row rfl 68 _ _ rfl (w.heap.size + 1) #[.int .i64 (s1 + 1), .int .i64 s2, .bool s3, .bool s4, .bool s5, .bool s6] rfl rfl 68 zeroS.row (HN.out _) (by exact sizeSess) rfl (by simp [Value.oneCell']) ?_))
          refine bodyPost_ret (results_cell_row rfl _ _ (w.heap.size + 1) 68 #[.int .i64 (s1 + 1), .int .i64 s2, .bool s3, .bool s4, .bool s5, .bool s6] (0, 0) _ rfl (setRow_heap _ _ _ _ _ _ (HN.out _)) Tryd.underlying68 rfl (by exact sizeSess)) rfl ⟨by first | rfl | (rw [HV.out]; rfl), HBl.out _ _⟩
      case pos =>
        subst z
        rw [if_pos rfl, if_pos rfl] at HV
        have HV := Lib.hid HV
        have f31 := HC31.out (.cells #[.int .i64 0, .int .i64 s2, .bool s3, .bool s4, .bool s5, .bool s6] 68)
        have HW2 : Hid (∀ w2 m, w2 = (W.alloc (.cells #[.int .i64 0, .int .i64 sid, .bool s3, .bool s4, .bool s5, .bool s6] 68)).drew.drewN m → Holds w2 W.heap.size 68 #[.int .i64 0, .int .i64 sid, .bool s3, .bool s4, .bool s5, .bool s6] ∧ Hid (Holds ((w2.setCell ⟨W.heap.size, 2, none⟩ (.bool ks)).setCell ⟨W.heap.size, 0, none⟩ (.int .i64 1)) W.heap.size 68 #[.int .i64 1, .int .i64 sid, .bool ks, .bool s4, .bool s5, .bool s6]) ∧ Hid (((w2.setCell ⟨W.heap.size, 2, none⟩ (.bool ks)).setCell ⟨W.heap.size, 0, none⟩ (.int .i64 1)).heap[w.heap.size + 1]? = some (.cells zeroS.row 68 (0, 0))) ∧ Hid (∀ R, Below w.heap.size w (((w2.setCell ⟨W.heap.size, 2, none⟩ (.bool ks)).setCell ⟨W.heap.size, 0, none⟩ (.int .i64 1)).setRow (w.heap.size + 1) R))) := by
          intro w2 m e2
          have hh : Holds w2 W.heap.size 68 #[.int .i64 0, .int .i64 sid, .bool s3, .bool s4, .bool s5, .bool s6] := by
            rw [e2]
            exact heap_alloc_new W _
          subst e2
          exact ⟨hh, (hh.set 2 _).set 0 _, HNX.out _ m _ _, fun R => HBX.out _ m _ _ R⟩
        rcases k1 with k1 | k1 <;> subst k1
        · skip
          go_wp2_with (first
            | (go_at_call 49; (with_reducible refine (HSafe.out _).mono ?_); rintro e w2 ⟨rfl, m1, hw2⟩; obtain ⟨H2, H3, H4, H5⟩ := HW2.out _ _ hw2; clear hw2; have q0 := H2.cell 0; have q1 := H2.cell 1; have q2 := H2.cell 2; have q3 := H2.cell 3; have q4 := H2.cell 4; have q5 := H2.cell 5; have z2 := H2.frozen 2; have z0 := (H2.set 2 (.bool ks)).frozen 0; have q0' := (H2.set 2 (.bool ks)).cell 0; have H2 := Lib.hid H2)
            | (refine wpList_load_row rfl 68 _ rfl W.heap.size rfl 68 #[.int .i64 1, .int .i64 sid, .bool ks, .bool s4, .bool s5, .bool s6] (0, 0) _ H3.out Tryd.underlying68 rfl (by exact sizeSess) ?_)
            | (refine wpList_store_row rfl 68 _ _ rfl (w.heap.size + 1) #[.int .i64 1, .int .i64 sid, .bool ks, .bool s4, .bool s5, .bool s6] rfl rfl 68 zeroS.row H4.out (by exact sizeSess) rfl (by simp [Value.oneCell']) ?_))
          refine bodyPost_ret (results_cell_row rfl _ _ (w.heap.size + 1) 68 #[.int .i64 1, .int .i64 sid, .bool ks, .bool s4, .bool s5, .bool s6] (0, 0) _ rfl (setRow_heap _ _ _ _ _ _ H4.out) Tryd.underlying68 rfl (by exact sizeSess)) rfl ⟨by first | rfl | (rw [HV.out]; rfl), H5.out _⟩
        · skip
          go_wp2_with (first
            | (go_at_call 49; (with_reducible refine (HSafe.out _).mono ?_); rintro e w2 ⟨rfl, m1, hw2⟩; obtain ⟨H2, H3, H4, H5⟩ := HW2.out _ _ hw2; clear hw2; have q0 := H2.cell 0; have q1 := H2.cell 1; have q2 := H2.cell 2; have q3 := H2.cell 3; have q4 := H2.cell 4; have q5 := H2.cell 5; have z2 := H2.frozen 2; have z0 := (H2.set 2 (.bool ks)).frozen 0; have q0' := (H2.set 2 (.bool ks)).cell 0; have H2 := Lib.hid H2)
            | (refine wpList_load_row rfl 68 _ rfl W.heap.size rfl 68 #[.int .i64 1, .int .i64 sid, .bool ks, .bool s4, .bool s5, .bool s6] (0, 0) _ H3.out Tryd.underlying68 rfl (by exact sizeSess) ?_)
            | (refine wpList_store_row rfl 68 _ _ rfl (w.heap.size + 1) #[.int .i64 1, .int .i64 sid, .bool ks, .bool s4, .bool s5, .bool s6] rfl rfl 68 zeroS.row H4.out (by exact sizeSess) rfl (by simp [Value.oneCell']) ?_))
          refine bodyPost_ret (results_cell_row rfl _ _ (w.heap.size + 1) 68 #[.int .i64 1, .int .i64 sid, .bool ks, .bool s4, .bool s5, .bool s6] (0, 0) _ rfl (setRow_heap _ _ _ _ _ _ H4.out) Tryd.underlying68 rfl (by exact sizeSess)) rfl ⟨by first | rfl | (rw [HV.out]; rfl), H5.out _⟩
    case neg =>
      rw [if_neg k1] at HV
      have q1 : (ki == 1) = false := by rw [beq_eq_false_iff_ne]; exact fun e => k1 (.inl e)
      have q2 : (ki == 2) = false := by rw [beq_eq_false_iff_ne]; exact fun e => k1 (.inr e)
      clear k1
      by_cases k4 : ki = 4
      · subst k4
        rw [if_pos rfl] at HV
        have HV := Lib.hid HV
        go_wp2_with (first
          | (refine wpList_load_row rfl 68 _ rfl W.heap.size rfl 68 #[.int .i64 s1, .int .i64 s2, .bool s3, .bool true, .bool s5, .bool s6] (0, 0) _ (by exact heap_alloc_new W _) Tryd.underlying68 rfl (by exact sizeSess) ?_)
          | (refine wpList_store_row rfl 68 _ _ rfl (w.heap.size + 1) #[.int .i64 s1, .int .i64 s2, .bool s3, .bool true, .bool s5, .bool s6] rfl rfl 68 zeroS.row (HN.out _) (by exact sizeSess) rfl (by simp [Value.oneCell']) ?_))
        refine bodyPost_ret (results_cell_row rfl _ _ (w.heap.size + 1) 68 #[.int .i64 s1, .int .i64 s2, .bool s3, .bool true, .bool s5, .bool s6] (0, 0) _ rfl (setRow_heap _ _ _ _ _ _ (HN.out _)) Tryd.underlying68 rfl (by exact sizeSess)) rfl ⟨by first | rfl | (rw [HV.out]; rfl), HBl.out _ _⟩
      have q4 : (ki == 4) = false := by rw [beq_eq_false_iff_ne]; exact k4
      rw [if_neg k4] at HV
      by_cases k5 : ki = 5
      · subst k5
        rw [if_pos rfl] at HV
        have HV := Lib.hid HV
        go_wp2_with (first
          | (refine wpList_load_row rfl 68 _ rfl W.heap.size rfl 68 #[.int .i64 s1, .int .i64 s2, .bool s3, .bool s4, .bool true, .bool s6] (0, 0) _ (by exact heap_alloc_new W _) Tryd.underlying68 rfl (by exact sizeSess) ?_)
          | (refine wpList_store_row rfl 68 _ _ rfl (w.heap.size + 1) #[.int .i64 s1, .int .i64 s2, .bool s3, .bool s4, .bool true, .bool s6] rfl rfl 68 zeroS.row (HN.out _) (by exact sizeSess) rfl (by simp [Value.oneCell']) ?_))
        refine bodyPost_ret (results_cell_row rfl _ _ (w.heap.size + 1) 68 #[.int .i64 s1, .int .i64 s2, .bool s3, .bool s4, .bool true, .bool s6] (0, 0) _ rfl (setRow_heap _ _ _ _ _ _ (HN.out _)) Tryd.underlying68 rfl (by exact sizeSess)) rfl ⟨by first | rfl | (rw [HV.out]; rfl), HBl.out _ _⟩
      have q5 : (ki == 5) = false := by rw [beq_eq_false_iff_ne]; exact k5
      rw [if_neg k5] at HV
      by_cases k6 : ki = 6
      · subst k6
        rw [if_pos rfl] at HV
        have HV := Lib.hid HV
        go_wp2_with (first
          | (refine wpList_load_row rfl 68 _ rfl W.heap.size rfl 68 #[.int .i64 s1, .int .i64 s2, .bool s3, .bool s4, .bool s5, .bool true] (0, 0) _ (by exact heap_alloc_new W _) Tryd.underlying68 rfl (by exact sizeSess) ?_)
          | (refine wpList_store_row rfl 68 _ _ rfl (w.heap.size + 1) #[.int .i64 s1, .int .i64 s2, .bool s3, .bool s4, .bool s5, .bool true] rfl rfl 68 zeroS.row (HN.out _) (by exact sizeSess) rfl (by simp [Value.oneCell']) ?_))
        refine bodyPost_ret (results_cell_row rfl _ _ (w.heap.size + 1) 68 #[.int .i64 s1, .int .i64 s2, .bool s3, .bool s4, .bool s5, .bool true] (0, 0) _ rfl (setRow_heap _ _ _ _ _ _ (HN.out _)) Tryd.underlying68 rfl (by exact sizeSess)) rfl ⟨by first | rfl | (rw [HV.out]; rfl), HBl.out _ _⟩
      have q6 : (ki == 6) = false := by rw [beq_eq_false_iff_ne]; exact k6
      rw [if_neg k6] at HV
      have HV := Lib.hid HV
      clear k4 k5 k6
      go_wp2_with (first
        | (refine wpList_load_row rfl 68 _ rfl W.heap.size rfl 68 #[.int .i64 s1, .int .i64 s2, .bool s3, .bool s4, .bool s5, .bool s6] (0, 0) _ (by exact heap_alloc_new W _) Tryd.underlying68 rfl (by exact sizeSess) ?_)
        | (refine wpList_store_row rfl 68 _ _ rfl (w.heap.size + 1) #[.int .i64 s1, .int .i64 s2, .bool s3, .bool s4, .bool s5, .bool s6] rfl rfl 68 zeroS.row (HN.out _) (by exact sizeSess) rfl (by simp [Value.oneCell']) ?_))
      refine bodyPost_ret (results_cell_row rfl _ _ (w.heap.size + 1) 68 #[.int .i64 s1, .int .i64 s2, .bool s3, .bool s4, .bool s5, .bool s6] (0, 0) _ rfl (setRow_heap _ _ _ _ _ _ (HN.out _)) Tryd.underlying68 rfl (by exact sizeSess)) rfl ⟨by first | rfl | (rw [HV.out]; rfl), HBl.out _ _⟩
end Go.Proofs.YtpkkeeblgbdfdaaDoor
