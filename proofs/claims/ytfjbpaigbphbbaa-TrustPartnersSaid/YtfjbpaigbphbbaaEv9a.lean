/- Layer 31: trust.First; the document's First and Partners. -/
import Derived.Test.YtfjbpaigbphbbaaEv8
import Derived.Test.YtfjbpaigbphbbaaEv2
namespace Go.Proofs.Ytfjbpaigbphbbaa
open Go.RowKit

def doneO : Option EvV → DoV
  | some x => x.dn
  | none => (zeroE 0 0).dn
theorem row_dn (x : EvV) : ∀ j u, x.dn.row.toArray[j]? = some u → x.row[8 + j]? = some u := fun j u hj => by
  have e : x.row = (([.int .i64 x.ki, .int .i64 x.se, .int .i64 x.nu, .int .i64 x.wh, .string x.us, .string x.sv, .string x.al, .int .i64 x.sid] : List Value) ++ x.dn.row).toArray := rfl
  rw [e]
  simp only [List.getElem?_toArray] at hj ⊢
  rw [List.getElem?_append_right (by simp)]
  simpa using hj
theorem rowO_dn (o : Option EvV) : ∀ j u, (doneO o).row.toArray[j]? = some u → (rowO o)[8 + j]? = some u := by
  cases o with
  | none => exact row_dn (zeroE 0 0)
  | some x => exact row_dn x
theorem DoV.one (d : DoV) : d.row.toArray.all (·.oneCell') = true := by simp [DoV.row, Value.oneCell']
set_option maxRecDepth 100000 in
theorem sizeDone : (Try.prog.info? 36).map (·.size) = some 26 := by kernel_rfl
set_option maxHeartbeats 2000000 in
set_option maxRecDepth 100000 in
theorem first_any {w : World} {v : Value} {l : List EvV} (h : EventsAt w v l) (hl : l.length ≤ maxLen) (s : Int) :
    Calls Try.prog 19 #[v, .int .i64 s] w fun e w' => e = .returned (.tuple #[.agg (doneO (firstE l s)).row.toArray, .bool (firstE l s).isSome]) ∧ Below w.heap.size w w' := by
  obtain ⟨W, hW⟩ : ∃ W, Hid (W = w.alloc (.cells (zeroE 0 0).dn.row.toArray 36)) := ⟨_, Lib.hid rfl⟩
  have BW : Hid (Below w.heap.size w W) := by
    show Below _ _ _
    rw [hW.out]
    exact (Below.refl _ w).alloc (Nat.le_refl _) _
  have K2 : Hid (Holds W w.heap.size 36 (zeroE 0 0).dn.row.toArray) := by
    show Holds _ _ _ _
    rw [hW.out]
    exact Holds.new w _ _
  have HI := Lib.hid (firstEx_any (h.below BW.out) hl s)
  have HE : Hid (∀ W', Below W.heap.size W W' → Holds W' w.heap.size 36 (zeroE 0 0).dn.row.toArray) := fun W' hb => (hb.block _ K2.out.lt).trans K2.out
  have HR : Hid ((rowO (firstE l s)).size = 34 ∧ (rowO (firstE l s)).all (·.oneCell') = true ∧ ∀ j u, (doneO (firstE l s)).row.toArray[j]? = some u → (rowO (firstE l s))[8 + j]? = some u) := ⟨rowO_size _, rowO_one _, rowO_dn _⟩
  have HD : Hid ((doneO (firstE l s)).row.toArray.size = 26 ∧ (doneO (firstE l s)).row.toArray.all (·.oneCell') = true) := ⟨rfl, DoV.one _⟩
  have hlw : Hid (w.heap.size < W.heap.size) := K2.out.lt
  generalize (doneO (firstE l s)).row.toArray = D at *
  generalize rowO (firstE l s) = R at *
  generalize (firstE l s).isSome = q at *
  have HL : Hid (∀ w1, Below W.heap.size W w1 → (∀ j u, D[j]? = some u → (w1.alloc (.cells R 38)).cell? ((⟨w1.heap.size, 8, none⟩ : Addr).add j) = some u) ∧ Holds (w1.alloc (.cells R 38)) w.heap.size 36 (zeroE 0 0).dn.row.toArray ∧ ((w1.alloc (.cells R 38)).setRow w.heap.size D).heap[w.heap.size]? = some (.cells D 36 (0, 0)) ∧ Below w.heap.size w ((w1.alloc (.cells R 38)).setRow w.heap.size D)) := fun w1 hb => by
    have hk := HE.out w1 hb
    have ba : Below w1.heap.size w1 (w1.alloc (.cells R 38)) := (Below.refl _ _).alloc (Nat.le_refl _) _
    have hk2 : Holds (w1.alloc (.cells R 38)) w.heap.size 36 (zeroE 0 0).dn.row.toArray := (ba.block _ hk.lt).trans hk
    refine ⟨fun j u hj => ?_, hk2, setRow_heap _ _ _ D _ _ hk2, below_setRow ((BW.out.trans (hb.mono BW.out.size)).trans (ba.mono (Nat.le_trans BW.out.size hb.size))) (Nat.le_refl _) D⟩
    rw [Addr.add_lit]
    exact (cell_heap (heap_alloc_new w1 _) (8 + j)).trans (HR.out.2.2 j u hj)
  obtain ⟨ao, cap, rfl, _⟩ := h
  clear K2 HE
  go_enter Try.func19, Try.ntmps19
  go_upto_region 1 with fail
  change Code.wp _ _ _ _ (w.alloc (.cells (zeroE 0 0).dn.row.toArray 36))
  rw [← hW.out]
  clear hW
  go_wp2_with (first
    | (go_at_call 27; (with_reducible refine HI.out.mono ?_); rintro e w1 ⟨rfl, b1⟩; have B1 := Lib.hid b1; clear b1)
    | (refine wpList_store_new rfl 38 _ _ rfl w1.heap.size _ R 38 rfl rfl rfl (by rw [HR.out.1]; exact sizeEvent) (by rw [HR.out.1]; rfl) HR.out.2.1 ?_)
    | (refine wpList_load_cells rfl 36 _ rfl ⟨w1.heap.size, 8, none⟩ rfl D _ (HL.out w1 B1.out).1 Try.underlying36 rfl (by rw [HD.out.1]; exact sizeDone) ?_)
    | (refine wpList_store_row rfl 36 _ _ rfl w.heap.size D rfl rfl 36 _ (HL.out w1 B1.out).2.1 (by rw [HD.out.1]; exact sizeDone) (by rw [HD.out.1]; rfl) HD.out.2 ?_))
  refine bodyPost_ret (results_row_tmp31 rfl _ _ w.heap.size 36 D (0, 0) _ rfl (HL.out w1 B1.out).2.2.1 Try.underlying36 rfl (by rw [HD.out.1]; exact sizeDone)) rfl ⟨rfl, (HL.out w1 B1.out).2.2.2⟩
set_option maxHeartbeats 2000000 in
set_option maxRecDepth 100000 in
theorem rfirst_any {w : World} {v : Value} {l : List EvV} (h : EventsAt w v l) (hl : l.length ≤ maxLen) (s : Int) :
    Calls Try.prog 20 #[v, .int .i64 s] w fun e w' => e = .returned (.int .i64 (idxP (firstP s) l)) ∧ w' = w := by
  obtain ⟨ao, cap, rfl, hc⟩ := h
  unfold maxLen at hl
  have HC := Lib.hid hc
  have HY : Hid (∀ k (hk : k < l.length), firstP s l[k] = true → (∀ x ∈ l.take k, firstP s x = false) → idxP (firstP s) l = k) := fun k hk h1 h2 => idxP_hit hk h1 h2
  have HN : Hid ((∀ x ∈ l, firstP s x = false) → idxP (firstP s) l = -1) := idxP_miss
  clear hc
  generalize idxP (firstP s) l = z at *
  go_enter Try.func20, Try.ntmps20
  go_wp2_with fail
  go_loopw [5] (fun i wr => ∃ k : Nat, k ≤ l.length ∧ i = .int .i64 k ∧ Hid (∀ x ∈ l.take k, firstP s x = false) ∧ wr = w) (fun i _ => l.length - (intOf i).toNat)
  case atStart => exact ⟨0, Nat.zero_le _, rfl, Lib.hid (by simp), rfl⟩
  case round =>
    obtain ⟨k, hk, rfl, HT, hwr⟩ := hrel
    have hw := hwr.symm
    subst hw
    by_cases hlt : k < l.length
    · obtain ⟨b, off, rfl, hb, hcell⟩ := HC.out (by intro h; simp [h] at hlt)
      have c0 : w.cell? ⟨b, off + k * 34, none⟩ = some (.int .i64 (l[k]).ki) := hcell k _ (List.getElem?_eq_getElem hlt) 0 _ (EvV.row_ki _)
      have c1 := hcell k _ (List.getElem?_eq_getElem hlt) 1 _ (EvV.row_se _)
      have c2 := hcell k _ (List.getElem?_eq_getElem hlt) 2 _ (EvV.row_nu _)
      have H1 : Hid (firstP s l[k] = true → z = k) := fun e => HY.out k hlt e HT.out
      have H0 : Hid (firstP s l[k] = false → ∀ y ∈ l.take (k + 1), firstP s y = false) := fun e => evTake hlt HT.out e
      have HP : Hid (firstP s l[k] = (((l[k]).ki == 1 || (l[k]).ki == 2) && (l[k]).nu == 0 && (l[k]).se == s)) := rfl
      clear hcell HC HY HN HT
      generalize firstP s l[k] = q at *
      generalize (l[k]).ki = ki at *
      generalize (l[k]).se = se at *
      generalize (l[k]).nu = nu at *
      by_cases hse : se = s
      case neg =>
        have q1 : (se == s) = false := by rw [beq_eq_false_iff_ne]; exact hse
        have HF := Lib.hid (H0.out (by rw [HP.out, q1, Bool.and_false]))
        clear H1 H0 HP hse
        go_wp2_with fail
        go_roundw
        case rel => exact ⟨k + 1, by omega, by go_num, HF, trivial⟩
        case measure => simp [intOf]; omega
      have q1 : (se == s) = true := by rw [hse]; exact beq_self_eq_true _
      by_cases hnu : nu = 0
      case neg =>
        have q2 : (nu == 0) = false := by rw [beq_eq_false_iff_ne]; exact hnu
        have HF := Lib.hid (H0.out (by rw [HP.out, q2, Bool.and_false, Bool.false_and]))
        by_cases h1 : ki = 1
        · subst h1
          clear H1 H0 HP hnu hse
          go_wp2_with fail
          go_roundw
          case rel => exact ⟨k + 1, by omega, by go_num, HF, trivial⟩
          case measure => simp [intOf]; omega
        · have q3 : (ki == 1) = false := by rw [beq_eq_false_iff_ne]; exact h1
          by_cases h2 : ki = 2
          · subst h2
            clear H1 H0 HP hnu hse
            go_wp2_with fail
            go_roundw
            case rel => exact ⟨k + 1, by omega, by go_num, HF, trivial⟩
            case measure => simp [intOf]; omega
          · have q4 : (ki == 2) = false := by rw [beq_eq_false_iff_ne]; exact h2
            clear H1 H0 HP hnu hse h1 h2
            go_wp2_with fail
            go_roundw
            case rel => exact ⟨k + 1, by omega, by go_num, HF, trivial⟩
            case measure => simp [intOf]; omega
      subst hnu
      by_cases h1 : ki = 1
      · subst h1
        have HF := Lib.hid (H1.out (by rw [HP.out, q1]; rfl))
        clear H1 H0 HP hse
        go_wp2_with fail
        go_ret
        exact ⟨by rw [HF.out]; rfl, rfl⟩
      · have q3 : (ki == 1) = false := by rw [beq_eq_false_iff_ne]; exact h1
        by_cases h2 : ki = 2
        · subst h2
          have HF := Lib.hid (H1.out (by rw [HP.out, q1]; rfl))
          clear H1 H0 HP hse
          go_wp2_with fail
          go_ret
          exact ⟨by rw [HF.out]; rfl, rfl⟩
        · have q4 : (ki == 2) = false := by rw [beq_eq_false_iff_ne]; exact h2
          have HF := Lib.hid (H0.out (by rw [HP.out, q3, q4]; rfl))
          clear H1 H0 HP hse h1 h2
          go_wp2_with fail
          go_roundw
          case rel => exact ⟨k + 1, by omega, by go_num, HF, trivial⟩
          case measure => simp [intOf]; omega
    · have hkl : k = l.length := by omega
      subst hkl
      have HF := Lib.hid (HN.out (by have := HT.out; rwa [List.take_length] at this))
      clear hlt HC HT HN HY
      go_wp2_with fail
      go_ret
      exact ⟨by rw [HF.out]; rfl, rfl⟩
end Go.Proofs.Ytfjbpaigbphbbaa
