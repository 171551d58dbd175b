/- Layer 31: trust.Partners. -/
import Derived.Test.YtfjbpaigbphbbaaEv9b
import Derived.Test.YtfjbpaigbphbbaaEv5
import Derived.Test.YtfjbpaigbphbbaaShelf
import Derived.Sort.OwnSortedInts
namespace Go.Proofs.Ytfjbpaigbphbbaa
open Go.RowKit Go.Maps Go.WideMaps

theorem wpList_eql_on {P : Program} {ops : Array Oper} {rest : List Oper} {o : Oper} {a : Act} {w : World} {Q : Exit → Act → World → Prop} (hw : Region.wanted o (yielded ops a.tmps) = true) (t r : TypeId) (x y : Operand) (ho : o.op = .binOp .eql t x y r)
    (xs ys : Array Value) (hx : a.eval x = .agg xs) (hy : a.eval y = .agg ys) (hm : P.eqGuardType P.depth t = false) (b : Bool) (he : ∀ W, (Op.equalIn 10000 t (.agg xs) (.agg ys)).run P W = .ok b W)
    (h : wpList P ops Q rest (a.put o.dst (.bool b)) w) : wpList P ops Q (o :: rest) a w := by
  simp only [wpList, hw]
  refine Or.inl ?_
  unfold Oper.wp execOp
  simp only [ho, hx, hy, Sem.run_bind, run_eqGuard_agg _ _ _ _ _ _ _ hm, Result.andThen_ok, run_eql_struct, he, Sem.run_pure]
  exact h
/-- What the partners' list and the set of sessions hold after some events. -/
structure PInv (l : List EvV) (x : EvV) (k : Nat) (Y T : List Int) : Prop where
  y : ∀ s, s ∈ Y ↔ ∃ e, firstE (l.take k) s = some e ∧ e.ki ≠ x.ki ∧ e.dn = x.dn
  t : ∀ s, s ∈ T ↔ (firstE (l.take k) s).isSome = true
  nd : Y.Nodup
theorem firstE_succ {l : List EvV} {k : Nat} (hk : k < l.length) (s : Int) : firstE (l.take (k + 1)) s = (firstE (l.take k) s).or (if firstP s l[k] = true then some l[k] else none) := by
  unfold firstE
  rw [List.take_succ_eq_append_getElem hk, List.find?_append]
  congr 1
  by_cases h : firstP s l[k] = true
  · rw [if_pos h, List.find?_cons_of_pos h]
  · rw [if_neg h, List.find?_cons_of_neg h]
    rfl
theorem PInv.start (l : List EvV) (x : EvV) : PInv l x 0 [] [] := ⟨fun s => by simp [firstE], fun s => by simp [firstE], List.nodup_nil⟩
theorem PInv.skip {l : List EvV} {x : EvV} {k : Nat} {Y T : List Int} (h : PInv l x k Y T) (hk : k < l.length) (hs : (l[k]).se ∈ T ∨ beginsP l[k] = false) : PInv l x (k + 1) Y T := by
  have e : ∀ s, firstE (l.take (k + 1)) s = firstE (l.take k) s := fun s => by
    rw [firstE_succ hk]
    by_cases hf : firstP s l[k] = true
    · simp only [firstP, Bool.and_eq_true, beq_iff_eq] at hf
      rcases hs with hs | hs
      · rw [hf.2] at hs
        obtain ⟨z, hz⟩ := Option.isSome_iff_exists.1 ((h.t s).1 hs)
        rw [hz]
        rfl
      · rw [hs] at hf
        cases hf.1
    · rw [if_neg hf, Option.or_none]
  exact ⟨fun s => by rw [e]; exact h.y s, fun s => by rw [e]; exact h.t s, h.nd⟩
theorem PInv.new {l : List EvV} {x : EvV} {k : Nat} {Y T : List Int} (h : PInv l x k Y T) (hk : k < l.length) (hs : (l[k]).se ∉ T) (hb : beginsP l[k] = true) :
    (firstE (l.take (k + 1)) (l[k]).se = some l[k] ∧ firstE (l.take k) (l[k]).se = none) ∧ ∀ s, s ≠ (l[k]).se → firstE (l.take (k + 1)) s = firstE (l.take k) s := by
  have h0 : firstE (l.take k) (l[k]).se = none := by
    cases hq : firstE (l.take k) (l[k]).se with
    | none => rfl
    | some z => exact absurd ((h.t _).2 (by rw [hq]; rfl)) hs
  refine ⟨⟨?_, h0⟩, fun s hne => ?_⟩
  · rw [firstE_succ hk, h0, if_pos (by simp [firstP, hb])]
    rfl
  · rw [firstE_succ hk, if_neg (by simp only [firstP, Bool.and_eq_true, beq_iff_eq]; exact fun e => hne e.2.symm), Option.or_none]
theorem PInv.tt {l : List EvV} {x : EvV} {k : Nat} {Y T : List Int} (h : PInv l x k Y T) (hk : k < l.length) (hs : (l[k]).se ∉ T) (hb : beginsP l[k] = true) : ∀ s, s ∈ T ++ [(l[k]).se] ↔ (firstE (l.take (k + 1)) s).isSome = true := fun s => by
  obtain ⟨⟨h1, h0⟩, h2⟩ := h.new hk hs hb
  rw [List.mem_append, List.mem_singleton]
  by_cases e : s = (l[k]).se
  · subst e
    rw [h1]
    simp
  · rw [h2 s e, ← h.t s]
    simp [e]
theorem PInv.no {l : List EvV} {x : EvV} {k : Nat} {Y T : List Int} (h : PInv l x k Y T) (hk : k < l.length) (hs : (l[k]).se ∉ T) (hb : beginsP l[k] = true) (hc : ¬((l[k]).ki ≠ x.ki ∧ (l[k]).dn = x.dn)) : PInv l x (k + 1) Y (T ++ [(l[k]).se]) := by
  obtain ⟨⟨h1, h0⟩, h2⟩ := h.new hk hs hb
  refine ⟨fun s => ?_, h.tt hk hs hb, h.nd⟩
  by_cases e : s = (l[k]).se
  · subst e
    rw [h.y, h1, h0]
    exact ⟨fun ⟨_, q, _⟩ => (by cases q), fun ⟨z, q, q2⟩ => absurd (by cases q; exact q2) hc⟩
  · rw [h2 s e]
    exact h.y s
theorem PInv.yes {l : List EvV} {x : EvV} {k : Nat} {Y T : List Int} (h : PInv l x k Y T) (hk : k < l.length) (hs : (l[k]).se ∉ T) (hb : beginsP l[k] = true) (hc : (l[k]).ki ≠ x.ki ∧ (l[k]).dn = x.dn) : PInv l x (k + 1) (Y ++ [(l[k]).se]) (T ++ [(l[k]).se]) := by
  obtain ⟨⟨h1, h0⟩, h2⟩ := h.new hk hs hb
  have hny : (l[k]).se ∉ Y := fun e => by
    obtain ⟨z, q, _⟩ := (h.y _).1 e
    rw [h0] at q
    cases q
  refine ⟨fun s => ?_, h.tt hk hs hb, ?_⟩
  · rw [List.mem_append, List.mem_singleton]
    by_cases e : s = (l[k]).se
    · subst e
      rw [h1]
      exact ⟨fun _ => ⟨_, rfl, hc⟩, fun _ => .inr rfl⟩
    · rw [h2 s e, ← h.y s]
      simp [e]
  · rw [List.nodup_append]
    exact ⟨h.nd, by simp, fun a ha b hb2 => by simp at hb2; subst hb2; exact fun e => hny (e ▸ ha)⟩
def leI (x y : Int) : Bool := decide (x ≤ y)
theorem sortI_spec {Y : List Int} (hn : Y.Nodup) : (Y.mergeSort leI).Pairwise (· < ·) ∧ (∀ s, s ∈ Y.mergeSort leI ↔ s ∈ Y) ∧ (Y.mergeSort leI).length = Y.length := by
  refine ⟨?_, fun s => List.mem_mergeSort, List.length_mergeSort _⟩
  have h1 : (Y.mergeSort leI).Pairwise (fun a b => leI a b = true) := List.pairwise_mergeSort (fun a b c h1 h2 => by simp only [leI, decide_eq_true_eq] at *; omega) (fun a b => by simp only [leI, Bool.or_eq_true, decide_eq_true_eq]; omega) Y
  have h2 : (Y.mergeSort leI).Nodup := (List.mergeSort_perm Y leI).nodup_iff.2 hn
  have h3 := h1.and h2
  exact h3.imp fun ⟨a, b⟩ => by simp only [leI, decide_eq_true_eq] at a; omega
theorem part_is {x y : EvV} (hx : x.ki = 1 ∨ x.ki = 2) (hy : y.ki = 1 ∨ y.ki = 2) : pairB x y = true ↔ y.ki ≠ x.ki ∧ y.dn = x.dn := by
  unfold pairB
  rw [Bool.and_eq_true, beq_iff_eq, decide_eq_true_eq]
  exact ⟨fun ⟨h1, h2⟩ => ⟨by omega, h2.symm⟩, fun ⟨h1, h2⟩ => ⟨by omega, h2.symm⟩⟩
theorem firstE_ki {l : List EvV} {s : Int} {x : EvV} (h : firstE l s = some x) : x.ki = 1 ∨ x.ki = 2 := first_ki (List.find?_some h)
theorem PInv.whole {l : List EvV} {x : EvV} {a : Int} {Y T : List Int} (h : PInv l x l.length Y T) (hx : firstE l a = some x) (s : Int) : s ∈ Y ↔ partnersB l a s = true := by
  rw [h.y, List.take_length]
  unfold partnersB
  rw [hx]
  cases hq : firstE l s with
  | none => exact ⟨fun ⟨_, q, _⟩ => (by cases q), fun q => (by cases q)⟩
  | some z =>
    show _ ↔ pairB x z = true
    rw [part_is (firstE_ki hx) (firstE_ki hq)]
    exact ⟨fun ⟨_, q, q2⟩ => (by cases q; exact q2), fun q => ⟨z, rfl, q⟩⟩
/-- What trust.Partners returns. -/
def PartsAre (l : List EvV) (a : Int) (S : List Int) : Prop := S.Pairwise (· < ·) ∧ (∀ s, s ∈ S ↔ partnersB l a s = true) ∧ S.length ≤ l.length
set_option maxHeartbeats 8000000 in
set_option maxRecDepth 100000 in
theorem partners_any {w : World} {v : Value} {l : List EvV} (h : EventsAt w v l) (hl : l.length ≤ 1000) (ho : ∀ x ∈ l, ∀ u ∈ x.row.toList, CellOk u) (a : Int) :
    Calls Try.prog 17 #[v, .int .i64 a] w fun e w' => ∃ v' S, e = .returned v' ∧ IdsAt w' v' S ∧ PartsAre l a S ∧ Below w.heap.size w w' := by
  have HI := Lib.hid (firstEx_any h (by unfold maxLen; omega) a)
  obtain ⟨ao, cap, rfl, hc⟩ := h
  have hmm := makeSetI
  obtain ⟨i0, hi, hz0, hz1, hz2⟩ := info_parts infoInt31
  cases hF : firstE l a with
  | none =>
    rw [hF] at HI
    have HR : Hid ((rowO none).size = 34 ∧ (rowO none).all (·.oneCell') = true) := ⟨rowO_size none, rowO_one none⟩
    have HP : Hid (PartsAre l a []) := ⟨List.Pairwise.nil, fun s => by unfold partnersB; rw [hF]; exact ⟨fun q => (by cases q), fun q => (by cases q)⟩, Nat.zero_le _⟩
    generalize rowO none = R at *
    clear hc ho hF
    go_enter Try.func17, Try.ntmps17
    go_wp2_with (first
      | (go_at_call 27; (with_reducible refine HI.out.mono ?_); rintro e w1 ⟨rfl, b1⟩; have B1 := Lib.hid b1; clear b1)
      | (refine wpList_store_new rfl 38 _ _ rfl w1.heap.size _ R 38 rfl rfl rfl (by rw [HR.out.1]; exact sizeEvent) (by rw [HR.out.1]; rfl) HR.out.2 ?_))
    go_ret
    exact ⟨_, [], rfl, IdsAt.nil _, HP.out, B1.out.alloc B1.out.size _⟩
  | some own =>
    rw [hF] at HI
    have HF := Lib.hid hF
    have HR0 : Hid (rowO (some own) = own.row ∧ (some own).isSome = true) := ⟨rfl, rfl⟩
    have HOs : Hid (own.row.size = 34 ∧ own.row.all (·.oneCell') = true) := ⟨rfl, EvV.row_one _⟩
    rw [HR0.out.1, HR0.out.2] at HI
    have HC := Lib.hid hc
    have HO := Lib.hid ho
    have HPz := Lib.hid (PInv.start l own)
    obtain ⟨D0, hD0⟩ : ∃ D0, Hid (D0 = own.dn.row.toArray) := ⟨_, Lib.hid rfl⟩
    have HKD0 : Hid (∀ j u, D0[j]? = some u → own.row[8 + j]? = some u) := Lib.hid (by rw [hD0.out]; exact row_dn own)
    have HD0s : Hid (D0.size = 26) := Lib.hid (by rw [hD0.out]; rfl)
    clear hc ho hF HR0
    go_enter Try.func17, Try.ntmps17
    go_upto_region 2 with (first
      | (go_at_call 27; (with_reducible refine HI.out.mono ?_); rintro e w1 ⟨rfl, b1⟩; have B1 := Lib.hid b1; clear b1)
      | (refine wpList_store_new rfl 38 _ _ rfl w1.heap.size _ own.row 38 rfl rfl rfl (by rw [HOs.out.1]; exact sizeEvent) (by rw [HOs.out.1]; rfl) HOs.out.2 ?_))
    obtain ⟨E5, hE5⟩ : ∃ E5, Hid (E5 = w1.heap.size) := ⟨_, Lib.hid rfl⟩
    have K5 := Lib.hid (Holds.new w1 38 own.row)
    have B5 := Lib.hid (B1.out.alloc B1.out.size (.cells own.row 38))
    rw [← hE5.out] at K5 ⊢
    have HLE : Hid (w.heap.size ≤ E5 ∧ E5 < (w1.alloc (.cells own.row 38)).heap.size) := Lib.hid ⟨by rw [hE5.out]; exact B1.out.size, K5.out.lt⟩
    generalize w1.alloc (.cells own.row 38) = W5 at *
    clear hE5 B1 HI
    obtain ⟨M, hM⟩ : ∃ M, Hid (M = W5.heap.size) := ⟨_, Lib.hid rfl⟩
    go_wp2_with fail
    rw [← hM.out]
    have HM0 : Hid ((W5.alloc (.map #[] 0)).ownsMap Try.prog 3 (unitElem (H := Unit)) M ([] : List Int).length (setI [])) := Lib.hid (by rw [hM.out, setI_nil]; exact World.ownsMap_made _ _ _ _)
    have HO0 : Hid (Holds (W5.alloc (.map #[] 0)) E5 38 own.row) := Lib.hid ((heap_alloc_old _ _ K5.out.lt).trans K5.out)
    have HB0 := Lib.hid (B5.out.alloc B5.out.size (.map #[] 0))
    have HMw : Hid (w.heap.size ≤ M ∧ E5 < M ∧ M < (W5.alloc (.map #[] 0)).heap.size) := Lib.hid ⟨by have := HLE.out; have := hM.out; omega, by have := HLE.out; have := hM.out; omega, by have := hM.out; rw [World.size_alloc]; omega⟩
    have HME : Hid (E5 < M) := HMw.out.2.1
    generalize W5.alloc (.map #[] 0) = W6 at *
    clear K5 B5 hM HLE
    go_loopw [7, 24] (fun v i wr => ∃ (k n : Nat) (Y T : List Int), k ≤ l.length ∧ i = .int .i64 k ∧ Hid (wr.ownsMap Try.prog 3 (unitElem (H := Unit)) M T.length (setI T)) ∧ Hid (wr.ownsRow (M + 1) 3 1 v n (intCells Y)) ∧ Hid (n = Y.length ∧ n ≤ k ∧ T.length ≤ k) ∧ Hid (n = 0 → v = .slice none 0 0) ∧ Hid (PInv l own k Y T) ∧ Hid (Holds wr E5 38 own.row) ∧ Hid (Below w.heap.size w wr) ∧ M < wr.heap.size) (fun _ i _ => l.length - (intOf i).toNat)
    case atStart => exact ⟨0, 0, [], [], Nat.zero_le _, rfl, HM0, Lib.hid ⟨rfl, .inl ⟨rfl, rfl⟩⟩, Lib.hid ⟨rfl, Nat.le_refl _, Nat.le_refl _⟩, Lib.hid fun _ => rfl, HPz, HO0, HB0, HMw.out.2.2⟩
    case round =>
      obtain ⟨k, n, Y, T, hk, rfl, HM, HR, HN, HV, HP, HOw, HB, hlt0⟩ := hrel
      clear HM0 HO0 HB0 HPz
      by_cases hlt : k < l.length
      · obtain ⟨b, off, rfl, hb, hcell⟩ := HC.out (by intro h; simp [h] at hlt)
        have HL : Hid (∀ j u, (l[k]).row[j]? = some u → wr.cell? ((⟨b, off + k * 34, none⟩ : Addr).add j) = some u) := fun j u hj => by
          rw [Addr.add_lit]
          exact (HB.out.cell (p := ⟨b, off + k * 34 + j, none⟩) hb).trans (hcell k _ (List.getElem?_eq_getElem hlt) j u hj)
        have HS : Hid ((l[k]).row.size = 34 ∧ (l[k]).row.all (·.oneCell') = true) := ⟨rfl, EvV.row_one _⟩
        have HBg := Lib.hid (begins_any l[k])
        have HK0 : Hid ((l[k]).row[0]? = some (.int .i64 (l[k]).ki)) := EvV.row_ki _
        have HK1 : Hid ((l[k]).row[1]? = some (.int .i64 (l[k]).se)) := EvV.row_se _
        have HKD : Hid (∀ j u, (l[k]).dn.row.toArray[j]? = some u → (l[k]).row[8 + j]? = some u) := row_dn _
        have HDs : Hid ((l[k]).dn.row.toArray.size = 26) := rfl
        have heq := doneEq31 (l[k]).dn own.dn
        rw [← hD0.out] at heq
        have HEq := Lib.hid heq
        clear heq
        have hkey := keyI_ok (EvV.ok_se (HO.out _ (List.getElem_mem hlt)))
        have HX := Lib.hid (setI_snoc T (l[k]).se)
        have hhas := has_setI T (l[k]).se
        have HSk : Hid ((decide ((l[k]).se ∈ T) = true ∨ beginsP l[k] = false) → PInv l own (k + 1) Y T) := fun e => HP.out.skip hlt (e.imp (fun q => of_decide_eq_true q) id)
        have HNo : Hid (decide ((l[k]).se ∈ T) = false → beginsP l[k] = true → ¬((l[k]).ki ≠ own.ki ∧ decide ((l[k]).dn = own.dn) = true) → PInv l own (k + 1) Y (T ++ [(l[k]).se])) := fun e1 e2 e3 => HP.out.no hlt (of_decide_eq_false e1) e2 (fun q => e3 ⟨q.1, decide_eq_true q.2⟩)
        have HYes : Hid (decide ((l[k]).se ∈ T) = false → beginsP l[k] = true → (l[k]).ki ≠ own.ki → decide ((l[k]).dn = own.dn) = true → PInv l own (k + 1) (Y ++ [(l[k]).se]) (T ++ [(l[k]).se])) := fun e1 e2 e3 e4 => HP.out.yes hlt (of_decide_eq_false e1) e2 ⟨e3, of_decide_eq_true e4⟩
        have HTL : Hid (T.length ≤ k ∧ k ≤ 1000) := ⟨HN.out.2.2, by omega⟩
        have hk1000 : k ≤ 1000 := by omega
        clear hcell HC HO hb HP
        generalize decide ((l[k]).se ∈ T) = q at *
        generalize beginsP l[k] = bg at *
        generalize decide ((l[k]).dn = own.dn) = de at *
        generalize (l[k]).dn.row.toArray = D at *
        generalize (l[k]).row = R at *
        generalize (l[k]).se = se at *
        generalize (l[k]).ki = ki at *
        go_upto_region 9 with (first
          | (refine wpList_load_cells rfl 38 _ rfl ⟨b, off + k * 34, none⟩ rfl R _ HL.out Try.underlying38 rfl (by rw [HS.out.1]; exact sizeEvent) ?_)
          | (refine wpList_store_new rfl 38 _ _ rfl wr.heap.size _ R 38 rfl rfl rfl (by rw [HS.out.1]; exact sizeEvent) (by rw [HS.out.1]; rfl) HS.out.2 ?_))
        obtain ⟨E, hE⟩ : ∃ E, Hid (E = wr.heap.size) := ⟨_, Lib.hid rfl⟩
        have HM1 := Lib.hid (HM.out.alloc (.cells R 38))
        have HR1 := Lib.hid (HR.out.alloc (.cells R 38))
        have HB1 := Lib.hid (HB.out.alloc HB.out.size (.cells R 38))
        have HE0 : Hid (Holds (wr.alloc (.cells R 38)) E 38 R) := by
          show Holds _ E _ _
          rw [hE.out]; exact Holds.new wr 38 R
        have HO0 : Hid (Holds (wr.alloc (.cells R 38)) E5 38 own.row) := Lib.hid ((heap_alloc_old _ _ HOw.out.lt).trans HOw.out)
        have c1 : (wr.alloc (.cells R 38)).cell? ⟨E, 1, none⟩ = some (.int .i64 se) := (cell_heap HE0.out 1).trans HK1.out
        have hsz : M < (wr.alloc (.cells R 38)).heap.size := by simp; omega
        have hE2 : Hid (M < E) := by show M < E; rw [hE.out]; exact hlt0
        rw [← hE.out]
        clear HL hE HM HR HB hlt0 HOw
        generalize wr.alloc (.cells R 38) = W at *
        have hm1 := HM1.out
        have HB2 : Hid (Below W.heap.size W (W.alloc (.cells #[] 49))) := Lib.hid ((Below.refl _ _).alloc (Nat.le_refl _) _)
        have HE3 : Hid ((W.alloc (.cells #[] 49)).heap[E]? = some (.cells R 38 (0, 0))) := Lib.hid ((heap_alloc_old _ _ HE0.out.lt).trans HE0.out)
        have HMw2 : Hid (w.heap.size ≤ M ∧ w.heap.size ≤ W.heap.size) := Lib.hid ⟨HMw.out.1, HB1.out.size⟩
        cases q with
        | true =>
          have HPk := Lib.hid (HSk.out (.inl rfl))
          clear HSk HNo HYes HX
          go_wp2_with (first
            | (at_lookup; refine wpList_lookup_own_unit _ rfl _ _ 48 rfl 3 49 lawInt31 Try.underlying48 (zeroUnit31 _) M T.length _ rfl hm1 _ _ rfl hkey ?_; rw [hhas]))
          go_roundw
          case rel => exact ⟨k + 1, n, Y, T, by omega, by go_num, Lib.hid (ownsMap_below HM1.out HB2.out), Lib.hid (ownsRow_below HR1.out HB2.out), Lib.hid ⟨HN.out.1, by have := HN.out; omega, by have := HN.out; omega⟩, HV, HPk, Lib.hid ((HB2.out.block _ HO0.out.lt).trans HO0.out), Lib.hid (HB1.out.trans (HB2.out.mono HMw2.out.2)), Nat.lt_of_lt_of_le hsz HB2.out.size⟩
          case measure => simp [intOf]; omega
        | false =>
          cases bg with
          | false =>
            have HPk := Lib.hid (HSk.out (.inr rfl))
            clear HSk HNo HYes HX
            go_wp2_with (first
              | (at_lookup; refine wpList_lookup_own_unit _ rfl _ _ 48 rfl 3 49 lawInt31 Try.underlying48 (zeroUnit31 _) M T.length _ rfl hm1 _ _ rfl hkey ?_; rw [hhas])
              | (refine wpList_load_row_on rfl 38 _ rfl E rfl 38 R (0, 0) _ (by exact HE3.out) Try.underlying38 rfl (by rw [HS.out.1]; exact sizeEvent) ?_)
              | (go_at_call 28; (with_reducible refine (HBg.out _).mono ?_); rintro e w2 ⟨rfl, b2⟩; have B2 := Lib.hid b2; clear b2; have BZ : Hid (Below W.heap.size W w2) := Lib.hid (HB2.out.trans (B2.out.mono HB2.out.size)); have hm2 := ownsMap_below HM1.out BZ.out; have HE4 : Hid (Holds w2 E 38 R) := Lib.hid ((BZ.out.block _ HE0.out.lt).trans HE0.out); have HO4 : Hid (Holds w2 E5 38 own.row) := Lib.hid ((BZ.out.block _ HO0.out.lt).trans HO0.out); have d3 : w2.cell? ⟨E, 1, none⟩ = some (.int .i64 se) := (cell_heap HE4.out 1).trans HK1.out))
            go_roundw
            case rel => exact ⟨k + 1, n, Y, T, by omega, by go_num, Lib.hid (ownsMap_below HM1.out BZ.out), Lib.hid (ownsRow_below HR1.out BZ.out), Lib.hid ⟨HN.out.1, by have := HN.out; omega, by have := HN.out; omega⟩, HV, HPk, HO4, Lib.hid (HB1.out.trans (BZ.out.mono HMw2.out.2)), Nat.lt_of_lt_of_le hsz BZ.out.size⟩
            case measure => simp [intOf]; omega
          | true =>
            by_cases hki : ki = own.ki
            · have HPk := Lib.hid (HNo.out rfl rfl (fun e => e.1 hki))
              have qk : (ki == own.ki) = true := by rw [hki]; exact beq_self_eq_true _
              have qn : (ki != own.ki) = false := by rw [hki]; exact bne_self_eq_false _
              clear HSk HNo HYes hki
              go_wp2_with (first
                | (at_lookup; refine wpList_lookup_own_unit _ rfl _ _ 48 rfl 3 49 lawInt31 Try.underlying48 (zeroUnit31 _) M T.length _ rfl hm1 _ _ rfl hkey ?_; rw [hhas])
                | (refine wpList_load_row_on rfl 38 _ rfl E rfl 38 R (0, 0) _ (by exact HE3.out) Try.underlying38 rfl (by rw [HS.out.1]; exact sizeEvent) ?_)
                | (go_at_call 28; (with_reducible refine (HBg.out _).mono ?_); rintro e w2 ⟨rfl, b2⟩; have B2 := Lib.hid b2; clear b2; have BZ : Hid (Below W.heap.size W w2) := Lib.hid (HB2.out.trans (B2.out.mono HB2.out.size)); have hm2 := ownsMap_below HM1.out BZ.out; have HE4 : Hid (Holds w2 E 38 R) := Lib.hid ((BZ.out.block _ HE0.out.lt).trans HE0.out); have HO4 : Hid (Holds w2 E5 38 own.row) := Lib.hid ((BZ.out.block _ HO0.out.lt).trans HO0.out); have d3 : w2.cell? ⟨E, 1, none⟩ = some (.int .i64 se) := (cell_heap HE4.out 1).trans HK1.out)
                | (at_mapUpdate; refine wpList_mapUpdate_own _ rfl _ _ _ 48 rfl 3 49 lawInt31 Try.underlying48 (unitElem (H := Unit)) M T.length _ rfl hm2 (by have := HTL.out.1; unfold maxLen; omega) _ _ _ rfl rfl hkey _ [] unitElem_mk ?_; intro w3 hown1 hgrow1; have HM3 := Lib.hid hown1; have HG := Lib.hid hgrow1; clear hown1 hgrow1; have HE5 : Hid (Holds w3 E 38 R) := Lib.hid ((HG.out.block E HE4.out.lt (fun e => by simp at e; have := hE2.out; omega)).trans HE4.out); have HO5 : Hid (Holds w3 E5 38 own.row) := Lib.hid ((HG.out.block E5 HO4.out.lt (fun e => by simp at e; have := HME.out; omega)).trans HO4.out); have e0 : w3.cell? ⟨E, 0, none⟩ = some (.int .i64 ki) := (cell_heap HE5.out 0).trans HK0.out; have e1 : w3.cell? ⟨E, 1, none⟩ = some (.int .i64 se) := (cell_heap HE5.out 1).trans HK1.out; have f0 : w3.cell? ⟨E5, 0, none⟩ = some (.int .i64 own.ki) := (cell_heap HO5.out 0).trans (EvV.row_ki own); have HLa : Hid (∀ j u, D[j]? = some u → w3.cell? ((⟨E, 8, none⟩ : Addr).add j) = some u) := Lib.hid (fun j u hj => by rw [Addr.add_lit]; exact (cell_heap HE5.out (8 + j)).trans (HKD.out j u hj)); have HLb : Hid (∀ j u, D0[j]? = some u → w3.cell? ((⟨E5, 8, none⟩ : Addr).add j) = some u) := Lib.hid (fun j u hj => by rw [Addr.add_lit]; exact (cell_heap HO5.out (8 + j)).trans (HKD0.out j u hj))))
              have hs1 := HG.out.size
              have hs2 := BZ.out.size
              go_roundw
              case rel => exact ⟨k + 1, n, Y, T ++ [se], by omega, by go_num, Lib.hid (by rw [HX.out, List.length_append]; exact HM3.out), Lib.hid ((ownsRow_below HR1.out BZ.out).kept HG.out (rowM31 HR1.out)), Lib.hid ⟨HN.out.1, by have := HN.out; omega, by have := HN.out; rw [List.length_append]; simp; omega⟩, HV, HPk, HO5, Lib.hid ((HB1.out.trans (BZ.out.mono HMw2.out.2)).grown HG.out (Nat.le_trans HMw2.out.2 BZ.out.size) (fun j hj => by cases hj; exact HMw2.out.1)), by omega⟩
              case measure => simp [intOf]; omega
            · have qk : (ki == own.ki) = false := by rw [beq_eq_false_iff_ne]; exact hki
              have qn : (ki != own.ki) = true := by rw [bne_iff_ne]; exact hki
              cases de with
              | false =>
                have HPk := Lib.hid (HNo.out rfl rfl (fun e => by cases e.2))
                clear HSk HNo HYes hki
                go_wp2_with (first
                  | (at_lookup; refine wpList_lookup_own_unit _ rfl _ _ 48 rfl 3 49 lawInt31 Try.underlying48 (zeroUnit31 _) M T.length _ rfl hm1 _ _ rfl hkey ?_; rw [hhas])
                  | (refine wpList_load_row_on rfl 38 _ rfl E rfl 38 R (0, 0) _ (by exact HE3.out) Try.underlying38 rfl (by rw [HS.out.1]; exact sizeEvent) ?_)
                  | (go_at_call 28; (with_reducible refine (HBg.out _).mono ?_); rintro e w2 ⟨rfl, b2⟩; have B2 := Lib.hid b2; clear b2; have BZ : Hid (Below W.heap.size W w2) := Lib.hid (HB2.out.trans (B2.out.mono HB2.out.size)); have hm2 := ownsMap_below HM1.out BZ.out; have HE4 : Hid (Holds w2 E 38 R) := Lib.hid ((BZ.out.block _ HE0.out.lt).trans HE0.out); have HO4 : Hid (Holds w2 E5 38 own.row) := Lib.hid ((BZ.out.block _ HO0.out.lt).trans HO0.out); have d3 : w2.cell? ⟨E, 1, none⟩ = some (.int .i64 se) := (cell_heap HE4.out 1).trans HK1.out)
                  | (at_mapUpdate; refine wpList_mapUpdate_own _ rfl _ _ _ 48 rfl 3 49 lawInt31 Try.underlying48 (unitElem (H := Unit)) M T.length _ rfl hm2 (by have := HTL.out.1; unfold maxLen; omega) _ _ _ rfl rfl hkey _ [] unitElem_mk ?_; intro w3 hown1 hgrow1; have HM3 := Lib.hid hown1; have HG := Lib.hid hgrow1; clear hown1 hgrow1; have HE5 : Hid (Holds w3 E 38 R) := Lib.hid ((HG.out.block E HE4.out.lt (fun e => by simp at e; have := hE2.out; omega)).trans HE4.out); have HO5 : Hid (Holds w3 E5 38 own.row) := Lib.hid ((HG.out.block E5 HO4.out.lt (fun e => by simp at e; have := HME.out; omega)).trans HO4.out); have e0 : w3.cell? ⟨E, 0, none⟩ = some (.int .i64 ki) := (cell_heap HE5.out 0).trans HK0.out; have e1 : w3.cell? ⟨E, 1, none⟩ = some (.int .i64 se) := (cell_heap HE5.out 1).trans HK1.out; have f0 : w3.cell? ⟨E5, 0, none⟩ = some (.int .i64 own.ki) := (cell_heap HO5.out 0).trans (EvV.row_ki own); have HLa : Hid (∀ j u, D[j]? = some u → w3.cell? ((⟨E, 8, none⟩ : Addr).add j) = some u) := Lib.hid (fun j u hj => by rw [Addr.add_lit]; exact (cell_heap HE5.out (8 + j)).trans (HKD.out j u hj)); have HLb : Hid (∀ j u, D0[j]? = some u → w3.cell? ((⟨E5, 8, none⟩ : Addr).add j) = some u) := Lib.hid (fun j u hj => by rw [Addr.add_lit]; exact (cell_heap HO5.out (8 + j)).trans (HKD0.out j u hj)))
                  | (refine wpList_load_cells_on (by kernel_rfl) 36 _ rfl ⟨E, 8, none⟩ rfl D _ HLa.out Try.underlying36 rfl (by rw [HDs.out]; exact sizeDone) ?_)
                  | (refine wpList_load_cells_on (by kernel_rfl) 36 _ rfl ⟨E5, 8, none⟩ rfl D0 _ HLb.out Try.underlying36 rfl (by rw [HD0s.out]; exact sizeDone) ?_)
                  | (refine wpList_eql_on (by kernel_rfl) 36 _ _ _ rfl D D0 rfl rfl guardDone _ HEq.out ?_))
                have hs1 := HG.out.size
                have hs2 := BZ.out.size
                go_roundw
                case rel => exact ⟨k + 1, n, Y, T ++ [se], by omega, by go_num, Lib.hid (by rw [HX.out, List.length_append]; exact HM3.out), Lib.hid ((ownsRow_below HR1.out BZ.out).kept HG.out (rowM31 HR1.out)), Lib.hid ⟨HN.out.1, by have := HN.out; omega, by have := HN.out; rw [List.length_append]; simp; omega⟩, HV, HPk, HO5, Lib.hid ((HB1.out.trans (BZ.out.mono HMw2.out.2)).grown HG.out (Nat.le_trans HMw2.out.2 BZ.out.size) (fun j hj => by cases hj; exact HMw2.out.1)), by omega⟩
                case measure => simp [intOf]; omega
              | true =>
                have HPk := Lib.hid (HYes.out rfl rfl hki rfl)
                have HMs : Hid (M + 1 ≤ W.heap.size) := hsz
                clear HSk HNo HYes hki
                go_upto_region 13 with (first
                  | (at_lookup; refine wpList_lookup_own_unit _ rfl _ _ 48 rfl 3 49 lawInt31 Try.underlying48 (zeroUnit31 _) M T.length _ rfl hm1 _ _ rfl hkey ?_; rw [hhas])
                  | (refine wpList_load_row_on rfl 38 _ rfl E rfl 38 R (0, 0) _ (by exact HE3.out) Try.underlying38 rfl (by rw [HS.out.1]; exact sizeEvent) ?_)
                  | (go_at_call 28; (with_reducible refine (HBg.out _).mono ?_); rintro e w2 ⟨rfl, b2⟩; have B2 := Lib.hid b2; clear b2; have BZ : Hid (Below W.heap.size W w2) := Lib.hid (HB2.out.trans (B2.out.mono HB2.out.size)); have hm2 := ownsMap_below HM1.out BZ.out; have HE4 : Hid (Holds w2 E 38 R) := Lib.hid ((BZ.out.block _ HE0.out.lt).trans HE0.out); have HO4 : Hid (Holds w2 E5 38 own.row) := Lib.hid ((BZ.out.block _ HO0.out.lt).trans HO0.out); have d3 : w2.cell? ⟨E, 1, none⟩ = some (.int .i64 se) := (cell_heap HE4.out 1).trans HK1.out)
                  | (at_mapUpdate; refine wpList_mapUpdate_own _ rfl _ _ _ 48 rfl 3 49 lawInt31 Try.underlying48 (unitElem (H := Unit)) M T.length _ rfl hm2 (by have := HTL.out.1; unfold maxLen; omega) _ _ _ rfl rfl hkey _ [] unitElem_mk ?_; intro w3 hown1 hgrow1; have HM3 := Lib.hid hown1; have HG := Lib.hid hgrow1; clear hown1 hgrow1; have HE5 : Hid (Holds w3 E 38 R) := Lib.hid ((HG.out.block E HE4.out.lt (fun e => by simp at e; have := hE2.out; omega)).trans HE4.out); have HO5 : Hid (Holds w3 E5 38 own.row) := Lib.hid ((HG.out.block E5 HO4.out.lt (fun e => by simp at e; have := HME.out; omega)).trans HO4.out); have e0 : w3.cell? ⟨E, 0, none⟩ = some (.int .i64 ki) := (cell_heap HE5.out 0).trans HK0.out; have e1 : w3.cell? ⟨E, 1, none⟩ = some (.int .i64 se) := (cell_heap HE5.out 1).trans HK1.out; have f0 : w3.cell? ⟨E5, 0, none⟩ = some (.int .i64 own.ki) := (cell_heap HO5.out 0).trans (EvV.row_ki own); have HLa : Hid (∀ j u, D[j]? = some u → w3.cell? ((⟨E, 8, none⟩ : Addr).add j) = some u) := Lib.hid (fun j u hj => by rw [Addr.add_lit]; exact (cell_heap HE5.out (8 + j)).trans (HKD.out j u hj)); have HLb : Hid (∀ j u, D0[j]? = some u → w3.cell? ((⟨E5, 8, none⟩ : Addr).add j) = some u) := Lib.hid (fun j u hj => by rw [Addr.add_lit]; exact (cell_heap HO5.out (8 + j)).trans (HKD0.out j u hj)))
                  | (refine wpList_load_cells_on (by kernel_rfl) 36 _ rfl ⟨E, 8, none⟩ rfl D _ HLa.out Try.underlying36 rfl (by rw [HDs.out]; exact sizeDone) ?_)
                  | (refine wpList_load_cells_on (by kernel_rfl) 36 _ rfl ⟨E5, 8, none⟩ rfl D0 _ HLb.out Try.underlying36 rfl (by rw [HD0s.out]; exact sizeDone) ?_)
                  | (refine wpList_eql_on (by kernel_rfl) 36 _ _ _ rfl D D0 rfl rfl guardDone _ HEq.out ?_))
                have HR3 := Lib.hid ((ownsRow_below HR1.out BZ.out).kept HG.out (rowM31 HR1.out))
                have hs1 := HG.out.size
                have hs2 := BZ.out.size
                have HMs3 : Hid (M + 1 ≤ w3.heap.size) := by show M + 1 ≤ w3.heap.size; omega
                have hrow3 := HR3.out.alloc (.cells #[.int .i64 se] 3)
                clear HMs
                have HMs := HMs3
                go_wp2_with (first
                  | (at_builtin; refine wpList_append_own _ rfl _ _ 24 rfl (M + 1) 3 i0 (.int .i64 0) 1 8 Try.underlying24 hi hz0 hz1 hz2 rfl (by decide) _ n _ rfl hrow3 ⟨w3.heap.size, 0, none⟩ 1 1 [.int .i64 se] rfl rfl (int_news31 (Holds.new w3 _ _)) (int_one31 _) (by have := HN.out; unfold maxLen; omega) (by have := HN.out; omega) (by have := HMs.out; rw [World.size_alloc]; omega) ?_; intro v' w4 hrow4 hgrow4 hiff; have HR4 := Lib.hid hrow4; have HG4 := Lib.hid hgrow4; clear hrow4 hgrow4 hiff))
                have HB3 := Lib.hid ((HB1.out.trans (BZ.out.mono HMw2.out.2)).grown HG.out (Nat.le_trans HMw2.out.2 BZ.out.size) (fun j hj => by cases hj; exact HMw2.out.1))
                have HB4 := Lib.hid ((HB3.out.alloc HB3.out.size (.cells #[.int .i64 se] 3)).grown HG4.out (by have := HB3.out.size; rw [World.size_alloc]; omega) (fun j hj => by have := (HR3.out.lt j hj).1; have := HMw2.out.1; omega))
                have hs4 := HG4.out.size
                rw [World.size_alloc] at hs4
                go_roundw
                case rel => exact ⟨k + 1, n + 1, Y ++ [se], T ++ [se], by omega, by go_num, Lib.hid (by rw [HX.out, List.length_append]; exact (HM3.out.alloc _).kept HG4.out (fun e => by have := (HR3.out.lt _ e.symm).1; omega)), Lib.hid (by rw [intCells_snoc]; exact HR4.out), Lib.hid ⟨by rw [List.length_append, HN.out.1]; rfl, by have := HN.out; omega, by have := HN.out; rw [List.length_append]; simp; omega⟩, Lib.hid (fun e => absurd e (by omega)), HPk, Lib.hid ((HG4.out.block E5 (by rw [World.size_alloc]; have := HO5.out.lt; omega) (fun e => by have h9 := HR3.out.lt E5 (by first | exact e | exact e.symm); have := HME.out; omega)).trans ((heap_alloc_old _ _ HO5.out.lt).trans HO5.out)), HB4, by omega⟩
                case measure => simp [intOf]; omega
      · have hkl : k = l.length := by omega
        subst hkl
        have HW := Lib.hid (fun s => HP.out.whole HF.out s)
        have HNd := Lib.hid HP.out.nd
        clear hlt HC HO HM HP HOw hi hz0 hz1 hz2 hmm
        by_cases hn : n = 0
        · subst hn
          obtain rfl := HV.out rfl
          have HPa : Hid (PartsAre l a []) := by
            have hY : Y = [] := List.length_eq_zero_iff.1 HN.out.1.symm
            have := HW.out
            rw [hY] at this
            exact ⟨List.Pairwise.nil, this, Nat.zero_le _⟩
          have HSt := Lib.hid (fun (p : Option Addr) (c : Nat) (W : World) => Try.slices_Sort_int_none p c W)
          clear HV HW HNd HR
          go_wp2_with (first
            | (go_at_call 29; (with_reducible refine (HSt.out _ _ _).mono ?_); rintro e w9 ⟨rfl, hw⟩; have hw := hw.symm; subst hw))
          go_ret
          exact ⟨_, [], rfl, IdsAt.nil _, HPa.out, HB.out⟩
        · obtain ⟨hlen, hcase⟩ := HR.out
          rcases hcase with ⟨_, h0⟩ | ⟨g, cap5, cur, rfl, hg, hh, hnc, hcap, hcs, htake⟩
          · exact absurd h0 hn
          have hYn : Y.length = n := HN.out.1.symm
          have HSp := Lib.hid (sortI_spec HNd.out)
          have HCur : Hid (∀ j, j < Y.length → wr.cell? ⟨g, j, none⟩ = some (.int .i64 Y[j]!) ∧ wr.frozen? ⟨g, j, none⟩ = false) := fun j hj => by
            constructor
            · rw [cell_of_row wr g j cur _ _ hh]
              have e : (cur.toList.take (n * 1))[j]? = (intCells Y)[j]? := by rw [htake]
              rw [List.getElem?_take_of_lt (by omega)] at e
              rw [← Array.getElem?_toList, e]
              simp [intCells, List.getElem?_eq_getElem hj, getElem!_pos Y j hj]
            · simp [World.frozen?, hh]
          have HSt : Hid (Calls Try.prog 29 #[.slice (some ⟨g, 0, none⟩) n cap5] wr fun e w' => e = .returned (.tuple #[]) ∧ w'.ownsRow (M + 1) 3 1 (.slice (some ⟨g, 0, none⟩) n cap5) n (intCells (Y.mergeSort leI)) ∧ Below w.heap.size w w') := by
            have h1 := Try.slices_Sort_int g 0 cap5 Y wr (fun j hj => by
              have := HCur.out j (by simpa using hj)
              simpa using this) (Array.getElem?_eq_some_iff.1 hh).1 (by have := HN.out; omega)
            rw [hYn] at h1
            refine h1.mono fun e w' ⟨h2, m, os, h3⟩ => ⟨h2, ?_, ?_⟩
            · subst h3
              have := ownsRow_sortedI (w := wr) (base := M + 1) (n := m) (os := os) (ss := Y) (ts := Y.mergeSort leI) HSp.out.2.2 hg hh (by omega) hcap hcs
              rw [hYn] at this
              exact this
            · subst h3
              exact HB.out.grown (grownBy_sortedI (g := g) (n := m) (os := os) (Y.mergeSort leI).toArray) HB.out.size (fun j hj => by cases hj; have := HMw.out; omega)
          have HPa : Hid (PartsAre l a (Y.mergeSort leI)) := ⟨HSp.out.1, fun s => by rw [HSp.out.2.1 s]; exact HW.out s, by rw [HSp.out.2.2]; have := HN.out; omega⟩
          have HNS : Hid (n = (Y.mergeSort leI).length) := by show n = _; rw [HSp.out.2.2]; exact HN.out.1
          clear HV HW HNd HR hlen hh htake hcs HCur HSp
          generalize Y.mergeSort leI = S at *
          go_wp2_with (first
            | (go_at_call 29; (with_reducible refine HSt.out.mono ?_); rintro e w9 ⟨rfl, hrow9, b9⟩; have HR9 := Lib.hid hrow9; have B9 := Lib.hid b9; clear hrow9 b9))
          go_ret
          exact ⟨_, S, rfl, IntsAt.ofRow (by rw [← HNS.out]; exact HR9.out) (fun e => absurd (by rw [HNS.out, e]; rfl) hn), HPa.out, B9.out⟩
end Go.Proofs.Ytfjbpaigbphbbaa
