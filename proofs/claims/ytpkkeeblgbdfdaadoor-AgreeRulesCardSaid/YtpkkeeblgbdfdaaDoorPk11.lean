/- Part 11 of what the statement wants. -/
import Derived.Deep.RegionWith
import Derived.Test.YtpkkeeblgbdfdaaDoorPk09
import Derived.Test.YtpkkeeblgbdfdaaDoorPk10
namespace Go.Proofs.YtpkkeeblgbdfdaaDoor
open Go.RowKit Go.Maps Go.WideMaps

theorem holds_load32 {w : World} {b : Nat} {t : TypeId} {R : Array Value} (h : Holds w b t R) : ∀ j u, R[j]? = some u → w.cell? ((⟨b, 0, none⟩ : Addr).add j) = some u := fun j u hj => by
  rw [Addr.add_lit, Nat.zero_add]
  exact (cell_heap h j).trans hj
theorem int_ok32 {k : Nat} (h : k ≤ 1000) : (Lit.int .i64 (k : Int)).wf = true := by
  simp only [Lit.wf, IntKind.min, IntKind.max, Bool.and_eq_true]
  constructor <;> simp [IntKind.signed, IntKind.bits] <;> omega
/-- The event's box, and all that is not the past's, as it was. -/
def EvK (w0 w W : World) (E : Nat) (R : Array Value) : Prop := Holds W E 45 R ∧ (∀ b, w0.heap.size + 5 ≤ b → b < w.heap.size → W.heap[b]? = w.heap[b]?) ∧ w.heap.size ≤ W.heap.size
theorem EvK.keep {w0 w W W' : World} {E : Nat} {R : Array Value} (h : EvK w0 w W E R) (hb : Below W.heap.size W W') : EvK w0 w W' E R :=
  ⟨(hb.block _ h.1.lt).trans h.1, fun b h1 h2 => (hb.block b (Nat.lt_of_lt_of_le h2 h.2.2)).trans (h.2.1 b h1 h2), Nat.le_trans h.2.2 hb.size⟩
theorem EvK.grown {w0 w W W' : World} {E b : Nat} {R : Array Value} (h : EvK w0 w W E R) (hg : W.grownBy W' (some b)) (hE : w0.heap.size + 4 < E) (hb : b ≤ w0.heap.size + 4) : EvK w0 w W' E R :=
  ⟨holds_grown h.1 hg (by omega), fun j h1 h2 => (hg.block j (Nat.lt_of_lt_of_le h2 h.2.2) (by simp; omega)).trans (h.2.1 j h1 h2), Nat.le_trans h.2.2 hg.size⟩
set_option maxHeartbeats 8000000 in
set_option maxRecDepth 100000 in
theorem add_any {w0 w : World} {v : Value} {S : List Int} {l : List EvV} {k : Nat} (h : PastAt w0 w v S l k) (hi : IdsAt w0 v S) (hS : S.Pairwise (· < ·)) (hl : S.length ≤ 1000) {x : EvV} (hx : l[k]? = some x) (hk : k ≤ 1000) (ho : ∀ u ∈ x.row.toList, CellOk u) :
    Calls Tryd.prog 20 #[.pointer (some ⟨w0.heap.size + 4, 0, none⟩), .agg x.row] w fun e w' => e = .returned (.tuple #[]) ∧ PastAt w0 w' v S l (k + 1) ∧ (∀ b, w0.heap.size + 5 ≤ b → b < w.heap.size → w'.heap[b]? = w.heap[b]?) ∧ w.heap.size ≤ w'.heap.size := by
  obtain ⟨n2, n3, n4, n5, f2, f3, f4, f5, hm, q2, q3, q4, q5, o2, o3, o4, o5⟩ := h
  obtain ⟨W, hW⟩ : ∃ W, Hid (W = w.alloc (.cells x.row 45)) := ⟨_, Lib.hid rfl⟩
  have HMid : Hid (MidAt w0 W v k n2 n3 n4 n5 f2 f3 f4 f5) := by
    show MidAt _ _ _ _ _ _ _ _ _ _ _ _
    rw [hW.out]
    exact hm.keep ((Below.refl _ w).alloc (Nat.le_refl _) _)
  have HE : Hid (EvK w0 w W w.heap.size x.row) := by
    show EvK _ _ _ _ _
    rw [hW.out]
    exact ⟨Holds.new w _ _, fun b _ hb => heap_alloc_old _ _ hb, by simp⟩
  have HSrc : Hid (∀ W', MidAt w0 W' v k n2 n3 n4 n5 f2 f3 f4 f5 → Calls Tryd.prog 38 #[.pointer (some ⟨w0.heap.size + 4, 0, none⟩), .agg x.row] W' fun e w' => e = .returned (.tuple #[.int .i64 (((srcK l k).getD 0 : Nat) : Int), .bool (srcK l k).isSome]) ∧ Below W'.heap.size W' w') := fun W' h' => by
    have h1 := source_any h'.box h'.first o4 x ho
    have e : srcK l k = sourceO (fun m => fstM l m k) x := by unfold srcK; rw [hx]
    rw [e]
    exact h1
  have HAsk : Hid (∀ W', MidAt w0 W' v k n2 n3 n4 n5 f2 f3 f4 f5 → Calls Tryd.prog 39 #[.pointer (some ⟨w0.heap.size + 4, 0, none⟩), .agg x.row] W' fun e w' => e = .returned (.bool (askK S l k)) ∧ Below W'.heap.size W' w') := fun W' h' => by
    have h1 := asked_any h'.box h'.sess o2 (hi.keep h'.below.size fun _ _ _ _ _ hlt => h'.below.cell hlt) hS hl x ho
    have e : askK S l k = askedV S (fun z => sessS S l z k) k x := by unfold askK; rw [hx]
    rw [e]
    exact h1
  have HAft : Hid (∀ W' n3 n4 n5 f3 f4 f5, MidAt w0 W' v k n2 n3 n4 n5 f2 f3 f4 f5 → Calls Tryd.prog 42 #[.pointer (some ⟨w0.heap.size + 4, 0, none⟩), .agg x.row] W' fun e w' => e = .returned (.agg (afterV S k x (sessS S l x.se k)).row) ∧ Below W'.heap.size W' w') := fun W' n3 n4 n5 f3 f4 f5 h' =>
    after_any h'.box h'.sess o2 (hi.keep h'.below.size fun _ _ _ _ _ hlt => h'.below.cell hlt) hS hl x ho (by have := sess_ex S l x.se k; constructor <;> omega)
  have HMk : Hid (∀ W', Calls Tryd.prog 41 #[.int .i64 x.ki, .agg x.row] W' fun e w' => e = .returned (.agg (markE x.ki x).row.toArray) ∧ Below W'.heap.size W' w') := fun W' => marked_any x x.ki W'
  have HU : Hid (∀ i : Nat, srcK l k = some i → keyOf Tryd.prog 3 (.int .i64 (i : Int)) = some (keyI (i : Int)) ∧ (askK S l k = true → OfKeys (putF f5 (keyI (i : Int)) (.int .i64 (k : Int))) (usdK S l (k + 1)))) := fun i hs => ⟨keyI_ok (int_ok32 (by have := srcK_lt hs; omega)), fun ha => used_yes o5 ha hs _⟩
  have HU0 : Hid ((askK S l k = false ∨ srcK l k = none) → OfKeys f5 (usdK S l (k + 1))) := fun ha => used_no o5 ha
  have hki : (Lit.int .i64 x.ki).wf = true := ho (.int .i64 x.ki) (by simp [EvV.row])
  obtain ⟨km, hkm⟩ := keyOf_mark (markE x.ki x) (markE_ok hki ho)
  have hlit := lawMark.key hkm
  have HF : Hid (((f4 km).isSome = true → OfMarks Tryd.prog f4 (fun m => fstM l m (k + 1))) ∧ ((f4 km).isSome = false → OfMarks Tryd.prog (putF f4 km (.int .i64 (k : Int))) (fun m => fstM l m (k + 1)))) := by
    have e := o4 _ _ hkm
    refine ⟨fun hh => first_old hx o4 ?_, fun hh => first_new hx o4 ?_ hlit hkm⟩
    · rw [e, (intO_get _).2] at hh
      exact hh
    · rw [e, (intO_get _).2] at hh
      exact hh
  have HT : Hid (x.ki = 7 → OfKeys (putF f3 (keyI x.wh) (.int .i64 (k : Int))) (fun z => aheadB l z ((k + 1 : Nat) : Int)) ∧ OfSess f2 (fun z => sessS S l z (k + 1))) := fun h7 => ⟨taken_yes hx o3 h7 _, sess_no hx o2 h7⟩
  have HT0 : Hid (x.ki ≠ 7 → OfKeys f3 (fun z => aheadB l z ((k + 1 : Nat) : Int)) ∧ OfSess (putF f2 (keyI x.se) (afterV S k x (sessS S l x.se k)).enc) (fun z => sessS S l z (k + 1))) := fun h7 => ⟨taken_no hx o3 h7, sess_yes hx o2 h7⟩
  have HKw : Hid (keyOf Tryd.prog 3 (.int .i64 x.wh) = some (keyI x.wh) ∧ keyOf Tryd.prog 3 (.int .i64 x.se) = some (keyI x.se)) := ⟨keyI_ok (EvV.ok_wh ho), keyI_ok (EvV.ok_se ho)⟩
  have HKm := Lib.hid hkm
  have HR : Hid (x.row.size = 34 ∧ x.row[0]? = some (.int .i64 x.ki) ∧ x.row[1]? = some (.int .i64 x.se) ∧ x.row[3]? = some (.int .i64 x.wh)) := ⟨rfl, EvV.row_ki x, EvV.row_se x, EvV.row_wh x⟩
  have HMs : Hid ((markE x.ki x).row.toArray.size = 32 ∧ (markE x.ki x).row.toArray.all (·.oneCell') = true) := ⟨rfl, MarkV.one _⟩
  have HQ : Hid (n2 ≤ k ∧ n3 ≤ k ∧ n4 ≤ k ∧ n5 ≤ k) := ⟨q2, q3, q4, q5⟩
  have hbl := hm.box.lt
  clear hm o2 o3 o4 o5 hi hS hl ho hki hkm hlit q2 q3 q4 q5
  have hA : (afterV S k x (sessS S l x.se k)).enc = .agg (afterV S k x (sessS S l x.se k)).row := rfl
  rw [hA] at HT0
  have HAo : Hid ((afterV S k x (sessS S l x.se k)).row.size = 6) := rfl
  clear hA hx
  generalize (afterV S k x (sessS S l x.se k)).row = AV at *
  generalize (markE x.ki x).row.toArray = M at *
  generalize x.ki = ki at *
  generalize x.wh = wh at *
  generalize x.se = se at *
  generalize x.row = R at *
  obtain ⟨E, hE⟩ : ∃ E, Hid (E = w.heap.size) := ⟨_, Lib.hid rfl⟩
  have hEg : Hid (w0.heap.size + 4 < E) := by
    show _ < _
    rw [hE.out]
    exact hbl
  go_enter Tryd.func20, Tryd.ntmps20
  go_upto_region 1 with fail
  rw [← hW.out]
  rw [← hE.out] at HE ⊢
  clear hW hE
  go_upto_region 2 with (first
    | (refine wpList_load_row rfl 45 _ rfl E rfl 45 R (0, 0) _ (by exact HE.out.1) Tryd.underlying45 rfl (by rw [HR.out.1]; exact sizeEvent) ?_)
    | (go_at_call 38; (with_reducible refine (HSrc.out _ HMid.out).mono ?_); rintro e w1 ⟨rfl, b1⟩; have HMid1 := Lib.hid (HMid.out.keep b1); have HE1 : Hid (EvK w0 w w1 E R) := Lib.hid (HE.out.keep b1); clear b1))
  clear HMid HE HSrc
  generalize hs : srcK l k = so at *
  have HSo := Lib.hid hs
  clear hs
  generalize hb : askK S l k = b1 at *
  have HBo := Lib.hid hb
  clear hb
  go_cut [20] (fun u wr => u = .bool (so.isSome && b1) ∧ Hid (MidAt w0 wr v k n2 n3 n4 n5 f2 f3 f4 f5) ∧ Hid (EvK w0 w wr E R))
  case first =>
    cases so with
    | none =>
      go_wp2_with fail
      go_meet
      case rel => exact ⟨rfl, HMid1, HE1⟩
    | some i =>
      go_wp2_with (first
        | (refine wpList_load_row_on rfl 45 _ rfl E rfl 45 R (0, 0) _ (by exact HE1.out.1) Tryd.underlying45 rfl (by rw [HR.out.1]; exact sizeEvent) ?_)
        | (go_at_call 39; (with_reducible refine (HAsk.out _ HMid1.out).mono ?_); rintro e w2 ⟨rfl, b2⟩; have HMid2 := Lib.hid (HMid1.out.keep b2); have HE2 : Hid (EvK w0 w w2 E R) := Lib.hid (HE1.out.keep b2); clear b2))
      go_meet
      case rel => exact ⟨rfl, HMid2, HE2⟩
  case rest =>
    obtain ⟨rfl, HM2, HE2⟩ := hcut
    clear HAsk
    generalize hq : (so.isSome && b1) = q
    have HZ0 : Hid (q = false → OfKeys f5 (usdK S l (k + 1))) := fun e => HU0.out (by
      rw [e] at hq
      cases so with
      | none => exact .inr rfl
      | some i => exact .inl (by simpa using hq))
    have HZ1 : Hid (q = true → ∃ i : Nat, so = some i ∧ keyOf Tryd.prog 3 (.int .i64 (i : Int)) = some (keyI (i : Int)) ∧ OfKeys (putF f5 (keyI (i : Int)) (.int .i64 (k : Int))) (usdK S l (k + 1))) := fun e => by
      rw [e] at hq
      cases so with
      | none => simp at hq
      | some i => exact ⟨i, rfl, (HU.out i rfl).1, (HU.out i rfl).2 (by simpa using hq)⟩
    clear hq HU HU0
    go_upto_if 20 with fail
    go_cut [] (fun wr => ∃ n5' f5', n5' ≤ k + 1 ∧ Hid (OfKeys f5' (usdK S l (k + 1))) ∧ Hid (MidAt w0 wr v k n2 n3 n4 n5' f2 f3 f4 f5') ∧ Hid (EvK w0 w wr E R))
    case first =>
      cases q with
      | false =>
        have HZ := Lib.hid (HZ0.out rfl)
        go_wp2_with fail
        go_meet
        case rel => exact ⟨n5, f5, by have := HQ.out; omega, HZ, HM2, HE2⟩
      | true =>
        obtain ⟨i, rfl, hkey, hz⟩ := HZ1.out rfl
        have HZ := Lib.hid hz
        obtain ⟨w3, hrun, hm3, hg3⟩ := (HM2.out.used.drewN 1).put lawInt31 Tryd.underlying70 (by have := HQ.out; unfold maxLen; omega) hkey (val := .int .i64 (k : Int))
        have HM3 : Hid (MidAt w0 w3 v k n2 n3 n4 (n5 + 1) f2 f3 f4 (putF f5 (keyI (i : Int)) (.int .i64 (k : Int)))) := Lib.hid ((HM2.out.keep (Below.refl _ _).drew).put5 hm3 hg3)
        have HE3 : Hid (EvK w0 w w3 E R) := Lib.hid (EvK.grown (W := wc.drewN 1) HE2.out hg3 hEg.out (by omega))
        have c0 : wc.cell? ⟨w0.heap.size + 4, 0, none⟩ = some (.int .i64 (k : Int)) := HM2.out.box.cell 0
        have c5 : wc.cell? ⟨w0.heap.size + 4, 5, none⟩ = some (.map (some (w0.heap.size + 3))) := HM2.out.box.cell 5
        have hrun : (Instr.mapUpdate 70 (.map (some (w0.heap.size + 3))) (.int .i64 (i : Int)) (.int .i64 (k : Int))).run Tryd.prog wc.drew = .ok () w3 := hrun
        clear hm3 hg3 hkey hz
        go_upto_region 3 with fail
        go_region
        all_goals
          go_wp2_with fail
          go_meet
          case rel => exact ⟨n5 + 1, _, by have := HQ.out; omega, HZ, HM3, HE3⟩
    case rest =>
      --TWO
      obtain ⟨n5', f5', q5', HO5, HM3, HE3⟩ := hcut
      clear HM2 HE2 HZ0 HZ1 HMid1 HE1 HBo HSo
      have d0 : wc.cell? ⟨E, 0, none⟩ = some (.int .i64 ki) := (cell_heap HE3.out.1 0).trans HR.out.2.1
      go_upto_region 5 with (first
        | (refine wpList_load_row rfl 45 _ rfl E rfl 45 R (0, 0) _ (by exact HE3.out.1) Tryd.underlying45 rfl (by rw [HR.out.1]; exact sizeEvent) ?_)
        | (go_at_call 41; (with_reducible refine (HMk.out _).mono ?_); rintro e w4 ⟨rfl, b4⟩; have HM4 := Lib.hid (HM3.out.keep b4); have HE4 : Hid (EvK w0 w w4 E R) := Lib.hid (HE3.out.keep b4); clear b4)
        | (refine wpList_store_new rfl 82 _ _ rfl w4.heap.size _ M 82 rfl rfl rfl (by rw [HMs.out.1]; exact sizeMark) (by rw [HMs.out.1]; rfl) HMs.out.2 ?_))
      obtain ⟨B, hB⟩ : ∃ B, Hid (B = w4.heap.size) := ⟨_, Lib.hid rfl⟩
      have hBg : Hid (w0.heap.size + 4 < B) := by
        show _ < _
        rw [hB.out]
        exact HM4.out.box.lt
      have ba : Below w4.heap.size w4 (w4.alloc (.cells M 82)) := (Below.refl _ w4).alloc (Nat.le_refl _) _
      have HM5 : Hid (MidAt w0 (w4.alloc (.cells M 82)) v k n2 n3 n4 n5' f2 f3 f4 f5') := Lib.hid (HM4.out.keep ba)
      have HE5 : Hid (EvK w0 w (w4.alloc (.cells M 82)) E R) := Lib.hid (HE4.out.keep ba)
      have HB5 : Hid (Holds (w4.alloc (.cells M 82)) B 82 M) := by
        show Holds _ B _ _
        rw [hB.out]
        exact Holds.new w4 _ _
      rw [← hB.out]
      clear HM4 HE4 hB ba HM3 HE3 d0 HMk
      generalize w4.alloc (.cells M 82) = W5 at *
      have HL5 := Lib.hid (holds_load32 HB5.out)
      have c4 : W5.cell? ⟨w0.heap.size + 4, 4, none⟩ = some (.map (some (w0.heap.size + 2))) := HM5.out.box.cell 4
      have HF4 := Lib.hid HM5.out.first
      have HZi := Lib.hid zeroInt32
      refine wp_region_quiet_gen (by kernel_rfl) (by kernel_rfl) ?_
      intro O hO
      refine wpQuiet_plain rfl (fun K hK => ?_)
      go_simp
      refine hK _ ?_
      clear hK K
      refine wpQuiet_plain rfl (fun K hK => ?_)
      go_simp
      refine hK _ ?_
      clear hK K
      refine wpQuiet_plain rfl (fun K hK => ?_)
      go_simp
      refine hK _ ?_
      clear hK K
      refine wpQuiet_plain rfl (fun K hK => ?_)
      go_simp
      refine hK _ ?_
      clear hK K
      refine wpQuiet_load (by rw [hO]; rfl) 82 _ rfl ⟨B, 0, none⟩ rfl M _ HL5.out Tryd.underlying82 rfl (by rw [HMs.out.1]; exact sizeMark) ?_
      refine wpQuiet_look_ok (by rw [hO]; rfl) _ _ 71 rfl HF4.out lawMark Tryd.underlying71 (.int .i64 0) HZi.out rfl (.agg M) km rfl HKm.out ?_
      refine wpQuiet_plain rfl (fun K hK => ?_)
      go_simp
      refine hK _ ?_
      clear hK K
      refine wpQuiet_plain rfl (fun K hK => ?_)
      go_simp
      refine hK _ ?_
      clear hK K
      refine wpQuiet_plain rfl (fun K hK => ?_)
      go_simp
      refine hK _ ?_
      clear hK K
      refine wpQuiet_plain rfl (fun K hK => ?_)
      go_simp
      refine hK _ ?_
      clear hK K
      refine wpQuiet_plain rfl (fun K hK => ?_)
      go_simp
      refine hK _ ?_
      clear hK K
      refine wpQuiet_nil ?_
      intro _ hw'
      obtain ⟨nq, hw''⟩ := hw'
      subst hw''
      clear hO O
      have HM6 : Hid (MidAt w0 (W5.drewN nq) v k n2 n3 n4 n5' f2 f3 f4 f5') := Lib.hid (HM5.out.keep ⟨rfl, rfl, rfl, Nat.le_refl _, fun _ _ => rfl⟩)
      have HE6 : Hid (EvK w0 w (W5.drewN nq) E R) := HE5
      have HB6 : Hid (Holds (W5.drewN nq) B 82 M) := HB5
      clear HM5 HE5 HB5 HL5 c4 HF4
      generalize W5.drewN nq = W6 at *
      generalize hz0 : (f4 km).getD (.int .i64 0) = z0
      generalize hz1 : (f4 km).isSome = z1 at *
      clear hz0
      go_upto_if 44 with fail
      go_cut [] (fun wr => ∃ n4' f4', n4' ≤ k + 1 ∧ Hid (OfMarks Tryd.prog f4' (fun m => fstM l m (k + 1))) ∧ Hid (MidAt w0 wr v k n2 n3 n4' n5' f2 f3 f4' f5') ∧ Hid (EvK w0 w wr E R))
      case first =>
        cases z1 with
        | true =>
          have HZ := Lib.hid (HF.out.1 rfl)
          go_wp2_with fail
          go_meet
          case rel => exact ⟨n4, f4, by have := HQ.out; omega, HZ, HM6, HE6⟩
        | false =>
          have HZ := Lib.hid (HF.out.2 rfl)
          have c0 : W6.cell? ⟨w0.heap.size + 4, 0, none⟩ = some (.int .i64 (k : Int)) := HM6.out.box.cell 0
          have c4 : W6.cell? ⟨w0.heap.size + 4, 4, none⟩ = some (.map (some (w0.heap.size + 2))) := HM6.out.box.cell 4
          have hL := Lib.hid (holds_load32 HB6.out)
          go_upto_region 7 with fail
          obtain ⟨Sp, hSp⟩ : ∃ Sp : World → Prop, Hid (∀ w', Sp w' ↔ (w'.cell? ⟨w0.heap.size + 4, 0, none⟩ = some (.int .i64 (k : Int)) ∧ w'.cell? ⟨w0.heap.size + 4, 4, none⟩ = some (.map (some (w0.heap.size + 2))) ∧ Hid (∀ j u, M[j]? = some u → w'.cell? ((⟨B, 0, none⟩ : Addr).add j) = some u))) := ⟨_, Lib.hid fun _ => Iff.rfl⟩
          refine wp_region_held_gen Sp (by kernel_rfl) ((hSp.out _).2 ⟨c0, c4, hL⟩) ?_
          have hHeld : Sp _ := (hSp.out (World.drew _)).2 ⟨c0, c4, hL⟩
          intro O hO
          refine held_read hO (i := 0) rfl rfl (by kernel_rfl) (fun _ _ _ _ h => h) ?_ hHeld ?_ ?_
          rotate_left 1
          · (intro w hSw; have hSw := (hSp.out _).1 hSw; go_simp; (try with_reducible rfl))
          try simp only [Act.put, List.setIfInBounds_toArray, List.set_cons_zero, List.set_cons_succ]
          refine held_read hO (i := 1) rfl rfl (by kernel_rfl) (fun _ _ _ _ h => h) ?_ hHeld ?_ ?_
          rotate_left 1
          · (intro w hSw; have hSw := (hSp.out _).1 hSw; go_simp; (try with_reducible rfl))
          try simp only [Act.put, List.setIfInBounds_toArray, List.set_cons_zero, List.set_cons_succ]
          refine held_read hO (i := 2) rfl rfl (by kernel_rfl) (fun _ _ _ _ h => h) ?_ hHeld ?_ ?_
          rotate_left 1
          · (intro w hSw; have hSw := (hSp.out _).1 hSw; go_simp; (try with_reducible rfl))
          try simp only [Act.put, List.setIfInBounds_toArray, List.set_cons_zero, List.set_cons_succ]
          refine held_read hO (i := 3) rfl rfl (by kernel_rfl) (fun _ _ _ _ h => h) ?_ hHeld ?_ ?_
          rotate_left 1
          · (intro w hSw; have hSw := (hSp.out _).1 hSw; go_simp; (try with_reducible rfl))
          try simp only [Act.put, List.setIfInBounds_toArray, List.set_cons_zero, List.set_cons_succ]
          refine held_read hO (i := 4) rfl rfl (by kernel_rfl) (fun _ _ _ _ h => h) (.agg M) hHeld ?_ ?_
          · exact fun w hSw => exec_load_cells 82 _ rfl ⟨B, 0, none⟩ rfl M _ ((hSp.out _).1 hSw).2.2.out Tryd.underlying82 rfl (by rw [HMs.out.1]; exact sizeMark)
          try simp only [Act.put, List.setIfInBounds_toArray, List.set_cons_zero, List.set_cons_succ]
          refine held_read hO (i := 5) rfl rfl (by kernel_rfl) (fun _ _ _ _ h => h) ?_ hHeld ?_ ?_
          rotate_left 1
          · (intro w hSw; have hSw := (hSp.out _).1 hSw; go_simp; (try with_reducible rfl))
          try simp only [Act.put, List.setIfInBounds_toArray, List.set_cons_zero, List.set_cons_succ]
          refine held_read hO (i := 6) rfl rfl (by kernel_rfl) (fun _ _ _ _ h => h) ?_ hHeld ?_ ?_
          rotate_left 1
          · (intro w hSw; have hSw := (hSp.out _).1 hSw; go_simp; (try with_reducible rfl))
          try simp only [Act.put, List.setIfInBounds_toArray, List.set_cons_zero, List.set_cons_succ]
          refine held_read hO (i := 7) rfl rfl (by kernel_rfl) (fun _ _ _ _ h => h) ?_ hHeld ?_ ?_
          rotate_left 1
          · (intro w hSw; have hSw := (hSp.out _).1 hSw; go_simp; (try with_reducible rfl))
          try simp only [Act.put, List.setIfInBounds_toArray, List.set_cons_zero, List.set_cons_succ]
          refine held_read hO (i := 8) rfl rfl (by kernel_rfl) (fun _ _ _ _ h => h) ?_ hHeld ?_ ?_
          rotate_left 1
          · (intro w hSw; have hSw := (hSp.out _).1 hSw; go_simp; (try with_reducible rfl))
          try simp only [Act.put, List.setIfInBounds_toArray, List.set_cons_zero, List.set_cons_succ]
          refine held_step hO (i := 9) rfl rfl (by kernel_rfl) (fun K hK => ?_)
          refine wp_put _ _ _ 71 rfl (HM6.out.first.drewN 1) lawMark Tryd.underlying71 (by have := HQ.out; unfold maxLen; omega) rfl (.agg M) (.int .i64 (k : Int)) km rfl rfl HKm.out ?_
          intro w7 hm7 hg7
          have HM7 : Hid (MidAt w0 w7 v k n2 n3 (n4 + 1) n5' f2 f3 (putF f4 km (.int .i64 (k : Int))) f5') := Lib.hid ((HM6.out.keep (Below.refl _ _).drew).put4 hm7 hg7)
          have HE7 : Hid (EvK w0 w w7 E R) := Lib.hid (EvK.grown (W := W6.drewN 1) HE6.out hg7 hEg.out (by omega))
          have HB7 : Hid (Holds w7 B 82 M) := Lib.hid (holds_grown (p := B) (w := W6.drewN 1) HB6.out hg7 (by have := hBg.out; omega))
          clear hm7 hg7 hHeld
          have hHeld : Sp _ := (hSp.out _).2 ⟨HM7.out.box.cell 0, HM7.out.box.cell 4, Lib.hid (holds_load32 HB7.out)⟩
          refine hK.out _ _ hHeld ?_
          clear hK K
          try simp only [Act.put, List.setIfInBounds_toArray, List.set_cons_zero, List.set_cons_succ]
          refine held_done hO (by kernel_rfl) ?_
          clear hO O
          go_wp2_with fail
          go_meet
          case rel => exact ⟨n4 + 1, _, by have := HQ.out; omega, HZ, HM7, HE7⟩
      case rest =>
        obtain ⟨n4', f4', q4', HO4, HM7, HE7⟩ := hcut
        clear HM6 HE6 HB6 HF HKm HMs hBg HZi
        have d0 : wc.cell? ⟨E, 0, none⟩ = some (.int .i64 ki) := (cell_heap HE7.out.1 0).trans HR.out.2.1
        go_upto_if 56 with fail
        go_cut [] (fun wr => ∃ n2' n3' f2' f3', n2' ≤ k + 1 ∧ n3' ≤ k + 1 ∧ Hid (OfSess f2' (fun z => sessS S l z (k + 1))) ∧ Hid (OfKeys f3' (fun z => aheadB l z ((k + 1 : Nat) : Int))) ∧ Hid (MidAt w0 wr v k n2' n3' n4' n5' f2' f3' f4' f5') ∧ Hid (EvK w0 w wr E R))
        case first =>
          by_cases h7 : ki = 7
          · obtain ⟨hz3, hz2⟩ := HT.out h7
            have HZ2 := Lib.hid hz2
            have HZ3 := Lib.hid hz3
            have e7 : (ki == 7) = true := by rw [h7]; rfl
            obtain ⟨w9, hrun, hm9, hg9⟩ := (HM7.out.taken.drewN 1).put lawInt31 Tryd.underlying70 (by have := HQ.out; unfold maxLen; omega) HKw.out.1 (val := .int .i64 (k : Int))
            have HM9 := Lib.hid ((HM7.out.keep (Below.refl _ _).drew).put3 hm9 hg9)
            have HE9 : Hid (EvK w0 w w9 E R) := Lib.hid (EvK.grown (W := wc.drewN 1) HE7.out hg9 hEg.out (by omega))
            have c0 : wc.cell? ⟨w0.heap.size + 4, 0, none⟩ = some (.int .i64 (k : Int)) := HM7.out.box.cell 0
            have c3 : wc.cell? ⟨w0.heap.size + 4, 3, none⟩ = some (.map (some (w0.heap.size + 1))) := HM7.out.box.cell 3
            have d3 : wc.cell? ⟨E, 3, none⟩ = some (.int .i64 wh) := (cell_heap HE7.out.1 3).trans HR.out.2.2.2
            have hrun : (Instr.mapUpdate 70 (.map (some (w0.heap.size + 1))) (.int .i64 wh) (.int .i64 (k : Int))).run Tryd.prog wc.drew = .ok () w9 := hrun
            clear hm9 hg9 hz2 hz3 HT HT0 h7
            go_upto_region 9 with fail
            go_region
            all_goals
              go_wp2_with fail
              go_meet
              case rel => exact ⟨n2, n3 + 1, _, _, by have := HQ.out; omega, by have := HQ.out; omega, HZ2, HZ3, HM9, HE9⟩
          · obtain ⟨hz3, hz2⟩ := HT0.out h7
            have HZ2 := Lib.hid hz2
            have HZ3 := Lib.hid hz3
            have e7 : (ki == 7) = false := by rw [beq_eq_false_iff_ne]; exact h7
            have c2 : wc.cell? ⟨w0.heap.size + 4, 2, none⟩ = some (.map (some w0.heap.size)) := HM7.out.box.cell 2
            have d1 : wc.cell? ⟨E, 1, none⟩ = some (.int .i64 se) := (cell_heap HE7.out.1 1).trans HR.out.2.2.1
            have hL := Lib.hid (holds_load32 HE7.out.1)
            have HD1 : Hid (∀ W', Holds W' E 45 R → W'.cell? ⟨E, 1, none⟩ = some (.int .i64 se)) := fun W' h => (cell_heap h 1).trans HR.out.2.2.1
            clear hz2 hz3 HT HT0 h7
            go_upto_region 10 with fail
            obtain ⟨Sp, hSp⟩ : ∃ Sp : World → Prop, Hid (∀ w', Sp w' ↔ (w'.cell? ⟨w0.heap.size + 4, 2, none⟩ = some (.map (some w0.heap.size)) ∧ w'.cell? ⟨E, 1, none⟩ = some (.int .i64 se) ∧ Hid (∀ j u, R[j]? = some u → w'.cell? ((⟨E, 0, none⟩ : Addr).add j) = some u))) := ⟨_, Lib.hid fun _ => Iff.rfl⟩
            refine wp_region_held_gen Sp (by kernel_rfl) ((hSp.out _).2 ⟨c2, d1, hL⟩) ?_
            have hHeld : Sp _ := (hSp.out (World.drew _)).2 ⟨c2, d1, hL⟩
            intro O hO
            refine held_read hO (i := 0) rfl rfl (by kernel_rfl) (fun _ _ _ _ h => h) ?_ hHeld ?_ ?_
            rotate_left 1
            · (intro w hSw; have hSw := (hSp.out _).1 hSw; go_simp; (try with_reducible rfl))
            try simp only [Act.put, List.setIfInBounds_toArray, List.set_cons_zero, List.set_cons_succ]
            refine held_read hO (i := 1) rfl rfl (by kernel_rfl) (fun _ _ _ _ h => h) ?_ hHeld ?_ ?_
            rotate_left 1
            · (intro w hSw; have hSw := (hSp.out _).1 hSw; go_simp; (try with_reducible rfl))
            try simp only [Act.put, List.setIfInBounds_toArray, List.set_cons_zero, List.set_cons_succ]
            refine held_read hO (i := 2) rfl rfl (by kernel_rfl) (fun _ _ _ _ h => h) ?_ hHeld ?_ ?_
            rotate_left 1
            · (intro w hSw; have hSw := (hSp.out _).1 hSw; go_simp; (try with_reducible rfl))
            try simp only [Act.put, List.setIfInBounds_toArray, List.set_cons_zero, List.set_cons_succ]
            refine held_read hO (i := 3) rfl rfl (by kernel_rfl) (fun _ _ _ _ h => h) ?_ hHeld ?_ ?_
            rotate_left 1
            · (intro w hSw; have hSw := (hSp.out _).1 hSw; go_simp; (try with_reducible rfl))
            try simp only [Act.put, List.setIfInBounds_toArray, List.set_cons_zero, List.set_cons_succ]
            refine held_read hO (i := 4) rfl rfl (by kernel_rfl) (fun _ _ _ _ h => h) ?_ hHeld ?_ ?_
            rotate_left 1
            · (intro w hSw; have hSw := (hSp.out _).1 hSw; go_simp; (try with_reducible rfl))
            try simp only [Act.put, List.setIfInBounds_toArray, List.set_cons_zero, List.set_cons_succ]
            refine held_read hO (i := 5) rfl rfl (by kernel_rfl) (fun _ _ _ _ h => h) ?_ hHeld ?_ ?_
            rotate_left 1
            · (intro w hSw; have hSw := (hSp.out _).1 hSw; go_simp; (try with_reducible rfl))
            try simp only [Act.put, List.setIfInBounds_toArray, List.set_cons_zero, List.set_cons_succ]
            refine held_read hO (i := 6) rfl rfl (by kernel_rfl) (fun _ _ _ _ h => h) ?_ hHeld ?_ ?_
            rotate_left 1
            · (intro w hSw; have hSw := (hSp.out _).1 hSw; go_simp; (try with_reducible rfl))
            try simp only [Act.put, List.setIfInBounds_toArray, List.set_cons_zero, List.set_cons_succ]
            refine held_read hO (i := 7) rfl rfl (by kernel_rfl) (fun _ _ _ _ h => h) (.agg R) hHeld ?_ ?_
            · exact fun w hSw => exec_load_cells 45 _ rfl ⟨E, 0, none⟩ rfl R _ ((hSp.out _).1 hSw).2.2.out Tryd.underlying45 rfl (by rw [HR.out.1]; exact sizeEvent)
            try simp only [Act.put, List.setIfInBounds_toArray, List.set_cons_zero, List.set_cons_succ]
            refine held_step hO (i := 8) rfl rfl (by kernel_rfl) (fun K hK => ?_)
            go_simp
            go_at_call 42
            with_reducible refine (HAft.out _ _ _ _ _ _ _ (HM7.out.keep (Below.refl _ _).drew)).mono ?_
            rintro e w9 ⟨rfl, b9⟩
            have HM9 := Lib.hid ((HM7.out.keep (Below.refl _ _).drew).keep b9)
            have HE9 : Hid (EvK w0 w w9 E R) := Lib.hid (EvK.keep (W := wc.drew) HE7.out b9)
            clear b9
            go_wp2_with fail
            clear hHeld
            have hHeld : Sp _ := (hSp.out _).2 ⟨HM9.out.box.cell 2, HD1.out _ HE9.out.1, Lib.hid (holds_load32 HE9.out.1)⟩
            refine hK.out _ _ hHeld ?_
            clear hK K
            try simp only [Act.put, List.setIfInBounds_toArray, List.set_cons_zero, List.set_cons_succ]
            refine held_step hO (i := 9) rfl rfl (by kernel_rfl) (fun K hK => ?_)
            refine wp_put _ _ _ 69 rfl HM9.out.sess lawInt31 Tryd.underlying69 (by have := HQ.out; unfold maxLen; omega) rfl (.int .i64 se) (.agg AV) (keyI se) rfl rfl HKw.out.2 ?_
            intro w10 hm10 hg10
            have HM10 := Lib.hid (HM9.out.put2 hm10 hg10)
            have HE10 : Hid (EvK w0 w w10 E R) := Lib.hid (EvK.grown HE9.out hg10 hEg.out (by omega))
            clear hm10 hg10 hHeld
            have hHeld : Sp _ := (hSp.out _).2 ⟨HM10.out.box.cell 2, HD1.out _ HE10.out.1, Lib.hid (holds_load32 HE10.out.1)⟩
            refine hK.out _ _ hHeld ?_
            clear hK K
            try simp only [Act.put, List.setIfInBounds_toArray, List.set_cons_zero, List.set_cons_succ]
            refine held_done hO (by kernel_rfl) ?_
            clear hO O
            go_wp2_with fail
            go_meet
            case rel => exact ⟨n2 + 1, n3, _, _, by have := HQ.out; omega, by have := HQ.out; omega, HZ2, HZ3, HM10, HE10⟩
        case rest =>
          obtain ⟨n2', n3', f2', f3', q2', q3', HO2, HO3, HM8, HE8⟩ := hcut
          have c0 : wc.cell? ⟨w0.heap.size + 4, 0, none⟩ = some (.int .i64 (k : Int)) := HM8.out.box.cell 0
          have z0 := HM8.out.box.frozen 0
          have HMz := Lib.hid HM8.out.count
          have HEz := Lib.hid (HE8.out.grown (grown_set wc (w0.heap.size + 4) 0 (.int .i64 ((k + 1 : Nat) : Int))) hEg.out (Nat.le_refl _))
          clear HM7 HE7 d0 HT HT0 HR HAft
          go_wp2_with fail
          go_end0
          exact ⟨rfl, ⟨n2', n3', n4', n5', f2', f3', f4', f5', HMz.out, q2', q3', q4', q5', HO2.out, HO3.out, HO4.out, HO5.out⟩, HEz.out.2⟩
end Go.Proofs.YtpkkeeblgbdfdaaDoor
