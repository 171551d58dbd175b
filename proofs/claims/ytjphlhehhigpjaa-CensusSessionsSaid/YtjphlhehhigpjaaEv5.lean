/- Layer 31: the safe events of a history, by a set of the keys that were taken. -/
import Derived.Test.YtjphlhehhigpjaaEv2p
import Derived.Test.YtjphlhehhigpjaaEvCl
import Derived.Test.YtjphlhehhigpjaaRowN2
import Derived.Maps.OwnSet
import Derived.KernelRfl
import Derived.Laws.AppendOwn
import Derived.Deep.Cut
namespace Go.Proofs.Ytjphlhehhigpjaa
open Go.RowKit Go.Maps Go.WideMaps

def keyI (z : Int) : Lit := .int .i64 z
theorem keyI_lit (z : Int) : WideAt.IsKeyLit (keyI z) := trivial
theorem keyI_inj {a b : Int} (h : keyI a = keyI b) : a = b := by
  simpa [keyI] using h
theorem keyI_same (a b : Int) : (keyI a).sameKey (keyI b) = decide (a = b) := by
  by_cases h : a = b
  · subst h
    rw [WideAt.sameKey_self (keyI_lit a)]
    simp
  · rw [sameKey_ne (fun e => h (keyI_inj e))]
    simp [h]
def setI (l : List Int) : DataW Unit := setOf (.agg []) (l.map keyI)
theorem setI_nil : setI [] = .map [] := by simp [setI, setOf]
theorem setI_snoc (l : List Int) (s : Int) : setI (l ++ [s]) = (setI l).put (keyI s) (.agg []) := by
  unfold setI
  rw [List.map_append, List.map_singleton, setOf_snoc]
theorem has_setI (l : List Int) (s : Int) : Maps.has (setI l) (keyI s) = decide (s ∈ l) := by
  unfold setI
  rw [has_setOf _ _ _ (fun y hy => by obtain ⟨x, _, rfl⟩ := List.mem_map.1 hy; exact keyI_lit x), List.any_map]
  induction l with
  | nil => simp
  | cons a r ih =>
    rw [List.any_cons, ih]
    simp only [Function.comp, keyI_same]
    by_cases h : a = s
    · simp [h]
    · have h' : ¬ s = a := fun e => h e.symm
      simp [h, h']
theorem lawInt31 : Keyed Try.prog 3 := int_keyed Try.underlying3
theorem keyI_ok {z : Int} (h : (Lit.int .i64 z).wf = true) : keyOf Try.prog 3 (.int .i64 z) = some (keyI z) := keyOf_int_mk Try.underlying3 h
theorem zeroUnit31 (w : World) : (zeroValue 68).run Try.prog w = .ok (.agg #[]) w := by kernel_rfl
theorem makeSetI (w : World) : (Instr.makeMap 67 none).run Try.prog w = .ok (.map (some w.heap.size)) (w.alloc (.map #[] 0)) := by
  simp [Instr.makeMap]
theorem infoInt31 : (Try.prog.info? 3).map (fun i => (i.zero, i.size, i.bytes)) = some (some (.int .i64 0), 1, 8) := by kernel_rfl
theorem EvV.ok_se {x : EvV} (h : ∀ u ∈ x.row.toList, CellOk u) : (Lit.int .i64 x.se).wf = true := h (.int .i64 x.se) (by simp [EvV.row])
theorem EvV.ok_wh {x : EvV} (h : ∀ u ∈ x.row.toList, CellOk u) : (Lit.int .i64 x.wh).wf = true := h (.int .i64 x.wh) (by simp [EvV.row])
def intCells (l : List Int) : List Value := l.map (.int .i64 ·)
theorem IntsAt.ofRow {w : World} {base : Nat} {v : Value} {l : List Int} (h : w.ownsRow base 3 1 v l.length (intCells l)) (hn : l = [] → v = .slice none 0 0) : IdsAt w v l := by
  by_cases hl : l = []
  · subst hl
    rw [hn rfl]
    exact IdsAt.nil w
  · have hown := h
    obtain ⟨_, hcase⟩ := h
    rcases hcase with ⟨_, h0⟩ | ⟨g, cap', cur, rfl, hg, hh, hn, hcap, hsz, htake⟩
    · exact absurd (List.length_eq_zero_iff.1 h0) hl
    · refine ⟨some ⟨g, 0, none⟩, cap', rfl, fun _ => ⟨g, 0, rfl, (Array.getElem?_eq_some_iff.1 hh).1, fun k x hk => ?_⟩⟩
      have hk' := (List.getElem?_eq_some_iff.1 hk).1
      rw [Nat.zero_add, hown.cellAt k (by omega)]
      simp [intCells, hk]
theorem intCells_snoc (l : List Int) (x : Int) : intCells (l ++ [x]) = intCells l ++ [.int .i64 x] := by simp [intCells]
theorem int_one31 (x : Int) : ∀ u ∈ [Value.int .i64 x], u.oneCell' = true := by simp [Value.oneCell']
theorem int_news31 {W : World} {g : Nat} {t : TypeId} {k : Int} (h : Holds W g t #[.int .i64 k]) : ∀ (j : Nat) (u : Value), ([.int .i64 k] : List Value)[j]? = some u → W.cell? ((⟨g, 0, none⟩ : Addr).add j) = some u := fun j u hj => by
  match j, hj with
  | 0, hj => simp at hj; subst hj; exact h.cell 0
  | j + 1, hj => simp at hj

theorem ownsMap_below {H : Type} {P : Program} {k : TypeId} {R : Value → Option (DataW H × List MemPlace)} {w w' : World} {b n : Nat} {D : DataW H} (h : w.ownsMap P k R b n D) (hb : Below w.heap.size w w') : w'.ownsMap P k R b n D := by
  have hlt := h.lt
  obtain ⟨es, c, h1, h2⟩ := h
  exact ⟨es, c, (hb.block b hlt).trans h1, h2⟩
theorem ownsRow_below {w w' : World} {base : Nat} {e : TypeId} {size : Nat} {v : Value} {n : Nat} {xs : List Value} (h : w.ownsRow base e size v n xs) (hb : Below w.heap.size w w') : w'.ownsRow base e size v n xs := by
  obtain ⟨h1, h2⟩ := h
  refine ⟨h1, ?_⟩
  rcases h2 with h2 | ⟨g, cap, cur, h3, h4, h5, h6⟩
  · exact .inl h2
  · exact .inr ⟨g, cap, cur, h3, h4, (hb.block g (Array.getElem?_eq_some_iff.1 h5).1).trans h5, h6⟩
theorem rowM31 {w : World} {b : Nat} {e : TypeId} {size : Nat} {v : Value} {n : Nat} {xs : List Value} (h : w.ownsRow (b + 1) e size v n xs) : v.ownBlock = none ∨ v.ownBlock ≠ some b := .inr fun e => by
  have := (h.lt b e).1
  omega
/-- Whose keys were taken ahead of a place. -/
def takers (l : List EvV) (k : Nat) : List Int := ((l.take k).filter (fun e => e.ki == 7)).map (·.wh)
theorem mem_takers (l : List EvV) (k : Nat) (z : Int) : decide (z ∈ takers l k) = aheadB l z k := by
  unfold takers aheadB
  rw [Int.toNat_natCast]
  rcases hq : (l.take k).any (takenP z) with _ | _
  · rw [decide_eq_false]
    intro h
    obtain ⟨e, he, rfl⟩ := List.mem_map.1 h
    obtain ⟨h1, h2⟩ := List.mem_filter.1 he
    have := List.any_eq_false.1 hq e h1
    simp only [beq_iff_eq] at h2
    simp [takenP, h2] at this
  · rw [decide_eq_true]
    obtain ⟨e, h1, h2⟩ := List.any_eq_true.1 hq
    simp only [takenP, Bool.and_eq_true, beq_iff_eq] at h2
    exact List.mem_map.2 ⟨e, List.mem_filter.2 ⟨h1, by simp [h2.1]⟩, h2.2⟩
theorem takers_yes {l : List EvV} {k : Nat} (hk : k < l.length) (h : (l[k]).ki = 7) : takers l (k + 1) = takers l k ++ [(l[k]).wh] := by
  unfold takers
  rw [List.take_succ_eq_append_getElem hk, List.filter_append, List.map_append]
  simp [h]
theorem takers_no {l : List EvV} {k : Nat} (hk : k < l.length) (h : (l[k]).ki ≠ 7) : takers l (k + 1) = takers l k := by
  unfold takers
  rw [List.take_succ_eq_append_getElem hk, List.filter_append, List.map_append]
  simp [h]
theorem takers_len (l : List EvV) (k : Nat) : (takers l k).length ≤ k := by
  unfold takers
  rw [List.length_map]
  exact Nat.le_trans (List.length_filter_le _ _) (by rw [List.length_take]; omega)
/-- The places of safe events. -/
def safesN (l : List EvV) (k : Nat) : List Nat := (List.range k).filter (safeB l)
def safesL (l : List EvV) (k : Nat) : List Int := (safesN l k).map Int.ofNat
theorem safes_yes {l : List EvV} {k : Nat} (h : safeB l k = true) : safesL l (k + 1) = safesL l k ++ [(k : Int)] := by
  unfold safesL safesN
  rw [List.range_succ, List.filter_append, List.map_append]
  simp [h]
theorem safes_no {l : List EvV} {k : Nat} (h : safeB l k = false) : safesL l (k + 1) = safesL l k := by
  unfold safesL safesN
  rw [List.range_succ, List.filter_append, List.map_append]
  simp [h]
theorem safes_len (l : List EvV) (k : Nat) : (safesL l k).length ≤ k := by
  unfold safesL safesN
  rw [List.length_map]
  exact Nat.le_trans (List.length_filter_le _ _) (by simp)
theorem safeB_claim {l : List EvV} {k : Nat} (hk : k < l.length) : safeB l k = (claimsP l[k] && !decide ((l[k]).wh ∈ takers l k)) := by
  rw [mem_takers]
  unfold safeB
  rw [List.getElem?_eq_getElem hk]
theorem claims_seven {x : EvV} (h : x.ki = 7) : claimsP x = false := by
  unfold claimsP
  rw [h]
  rfl

set_option maxHeartbeats 4000000 in
set_option maxRecDepth 100000 in
theorem safes_any {w : World} {v : Value} {l : List EvV} (h : EventsAt w v l) (hl : l.length ≤ 1000) (ho : ∀ x ∈ l, ∀ u ∈ x.row.toList, CellOk u) :
    Calls Try.prog 21 #[v] w fun e w' => ∃ v', e = .returned v' ∧ IdsAt w' v' (safesL l l.length) ∧ Below w.heap.size w w' := by
  obtain ⟨ao, cap, rfl, hc⟩ := h
  have hmm := makeSetI
  obtain ⟨i0, hi, hz0, hz1, hz2⟩ := info_parts infoInt31
  have HC := Lib.hid hc
  have HO := Lib.hid ho
  clear hc ho
  go_enter Try.func21, Try.ntmps21
  go_wp2_with fail
  go_loopw [3, 12] (fun v i wr => ∃ k n : Nat, k ≤ l.length ∧ i = .int .i64 k ∧ Hid (wr.ownsMap Try.prog 3 (unitElem (H := Unit)) w.heap.size (takers l k).length (setI (takers l k))) ∧ Hid (wr.ownsRow (w.heap.size + 1) 3 1 v n (intCells (safesL l k))) ∧ Hid (n = (safesL l k).length) ∧ Hid (n = 0 → v = .slice none 0 0) ∧ Hid (Below w.heap.size w wr) ∧ w.heap.size < wr.heap.size) (fun _ i _ => l.length - (intOf i).toNat)
  case atStart => exact ⟨0, 0, Nat.zero_le _, rfl, Lib.hid (by show World.ownsMap _ _ _ _ _ 0 (setI []); rw [setI_nil]; exact World.ownsMap_made _ _ _ _), Lib.hid ⟨rfl, .inl ⟨rfl, rfl⟩⟩, Lib.hid rfl, Lib.hid fun _ => rfl, Lib.hid ((Below.refl _ _).alloc (Nat.le_refl _) _), by simp⟩
  case round =>
    obtain ⟨k, n, hk, rfl, HM, HR, HN, HV, HB, hlt0⟩ := hrel
    by_cases hlt : k < l.length
    · obtain ⟨b, off, rfl, hb, hcell⟩ := HC.out (by intro h; simp [h] at hlt)
      have HL : Hid (∀ j u, (l[k]).row[j]? = some u → wr.cell? ((⟨b, off + k * 34, none⟩ : Addr).add j) = some u) := fun j u hj => by
        rw [Addr.add_lit]
        exact (HB.out.cell (p := ⟨b, off + k * 34 + j, none⟩) hb).trans (hcell k _ (List.getElem?_eq_getElem hlt) j u hj)
      have HS : Hid ((l[k]).row.size = 34 ∧ (l[k]).row.all (·.oneCell') = true) := ⟨rfl, EvV.row_one _⟩
      have HCl := Lib.hid (claims_any l[k])
      have HK0 : Hid ((l[k]).row[0]? = some (.int .i64 (l[k]).ki) ∧ (l[k]).row[3]? = some (.int .i64 (l[k]).wh)) := ⟨EvV.row_ki _, EvV.row_wh _⟩
      have hkey := keyI_ok (EvV.ok_wh (HO.out _ (List.getElem_mem hlt)))
      have HSB := Lib.hid (safeB_claim hlt)
      have HT1 : Hid ((l[k]).ki = 7 → takers l (k + 1) = takers l k ++ [(l[k]).wh]) := fun e => takers_yes hlt e
      have HT0 : Hid ((l[k]).ki ≠ 7 → takers l (k + 1) = takers l k) := fun e => takers_no hlt e
      have HC7 : Hid ((l[k]).ki = 7 → claimsP l[k] = false) := fun e => claims_seven e
      have HY1 : Hid (safeB l k = true → safesL l (k + 1) = safesL l k ++ [(k : Int)]) := fun e => safes_yes e
      have HY0 : Hid (safeB l k = false → safesL l (k + 1) = safesL l k) := fun e => safes_no e
      have HX : Hid (∀ x, (setI (takers l k ++ [x])) = (setI (takers l k)).put (keyI x) (.agg [])) := fun x => setI_snoc _ _
      have HH : Hid (∀ x, Maps.has (setI (takers l k)) (keyI x) = decide (x ∈ takers l k)) := fun x => has_setI _ _
      have HTL : Hid ((takers l k).length ≤ k ∧ (safesL l k).length ≤ k) := ⟨takers_len l k, safes_len l k⟩
      have hwf := HO.out _ (List.getElem_mem hlt)
      clear hcell HC HO hb hwf
      generalize hY : safesL l (k + 1) = Y1 at *
      have HYE := Lib.hid hY
      clear hY
      generalize safesL l k = Y0 at *
      generalize hT : takers l (k + 1) = T1 at *
      have HTE := Lib.hid hT
      clear hT
      generalize takers l k = T0 at *
      generalize safeB l k = sb at *
      generalize claimsP l[k] = c at *
      generalize (l[k]).ki = ki at *
      generalize (l[k]).wh = wh at *
      generalize (l[k]).row = R at *
      go_upto_region 6 with (first
        | (refine wpList_load_cells rfl 46 _ rfl ⟨b, off + k * 34, none⟩ rfl R _ HL.out Try.underlying46 rfl (by rw [HS.out.1]; exact sizeEvent) ?_)
        | (refine wpList_store_new rfl 46 _ _ rfl wr.heap.size _ R 46 rfl rfl rfl (by rw [HS.out.1]; exact sizeEvent) (by rw [HS.out.1]; rfl) HS.out.2 ?_))
      obtain ⟨E, hE⟩ : ∃ E, Hid (E = wr.heap.size) := ⟨_, Lib.hid rfl⟩
      have HM1 := Lib.hid (HM.out.alloc (.cells R 46))
      have HR1 := Lib.hid (HR.out.alloc (.cells R 46))
      have HB1 := Lib.hid (HB.out.alloc HB.out.size (.cells R 46))
      have HE0 : Hid (Holds (wr.alloc (.cells R 46)) E 46 R) := by
        show Holds _ E _ _
        rw [hE.out]; exact Holds.new wr 46 R
      have HK3 := Lib.hid HK0.out.2
      have c0 : (wr.alloc (.cells R 46)).cell? ⟨E, 0, none⟩ = some (.int .i64 ki) := (cell_heap HE0.out 0).trans HK0.out.1
      have c3 : (wr.alloc (.cells R 46)).cell? ⟨E, 3, none⟩ = some (.int .i64 wh) := (cell_heap HE0.out 3).trans HK0.out.2
      have hsz : w.heap.size < (wr.alloc (.cells R 46)).heap.size := by simp; omega
      have hE2 : Hid (w.heap.size < E) := by show w.heap.size < E; rw [hE.out]; exact hlt0
      rw [← hE.out]
      clear HL HK0 hE HM HR HB hlt0
      generalize wr.alloc (.cells R 46) = W at *
      by_cases h7 : ki = 7
      · have HT := Lib.hid (HT1.out h7)
        have hcf := HC7.out h7
        subst hcf
        have HS0 := Lib.hid (HY0.out (by rw [HSB.out]; rfl))
        subst h7
        clear HC7 HT1 HT0 HY1 HY0 HSB
        have hm1 := HM1.out
        go_wp2_with (first
          | (at_mapUpdate; refine wpList_mapUpdate_own _ rfl _ _ _ 67 rfl 3 68 lawInt31 Try.underlying67 (unitElem (H := Unit)) w.heap.size T0.length _ rfl hm1 (by have := HTL.out; unfold maxLen; omega) _ _ _ rfl rfl hkey _ [] unitElem_mk ?_; intro w1 hown1 hgrow1; have HM2 := Lib.hid hown1; have HG := Lib.hid hgrow1; have hm2 := HM2.out; have HE1 : Hid (w1.heap[E]? = some (.cells R 46 (0, 0))) := Lib.hid ((HG.out.block E HE0.out.lt (fun e => by simp at e; have := hE2.out; omega)).trans HE0.out); have c3' : w1.cell? ⟨E, 3, none⟩ = some (.int .i64 wh) := (cell_heap HE1.out 3).trans HK3.out; have HE3 : Hid ((w1.alloc (.cells #[] 68)).heap[E]? = some (.cells R 46 (0, 0))) := Lib.hid ((heap_alloc_old _ _ (Array.getElem?_eq_some_iff.1 HE1.out).1).trans HE1.out); clear hown1 hgrow1)
          | (at_lookup; refine wpList_lookup_own_unit _ rfl _ _ 67 rfl 3 68 lawInt31 Try.underlying67 (zeroUnit31 _) w.heap.size (T0.length + 1) _ rfl hm2 _ _ rfl hkey ?_)
          | (refine wpList_load_row rfl 46 _ rfl E rfl 46 R (0, 0) _ HE3.out Try.underlying46 rfl (by rw [HS.out.1]; exact sizeEvent) ?_)
          | (go_at_call 33; (with_reducible refine (HCl.out _).mono ?_); rintro e w2 ⟨rfl, b2⟩; have B2 := Lib.hid b2; clear b2))
        have BA : Hid (Below w1.heap.size w1 (w1.alloc (.cells #[] 68))) := Lib.hid ((Below.refl _ _).alloc (Nat.le_refl _) _)
        have BZ : Hid (Below w1.heap.size w1 w2) := Lib.hid (BA.out.trans (B2.out.mono BA.out.size))
        have hs1 := HG.out.size
        go_roundw
        case rel => exact ⟨k + 1, n, by omega, by go_num, Lib.hid (by rw [HTE.out, HT.out, HX.out, List.length_append]; exact ownsMap_below HM2.out BZ.out), Lib.hid (by rw [HYE.out, HS0.out]; exact ownsRow_below (HR1.out.kept HG.out (rowM31 HR1.out)) BZ.out), Lib.hid (by show n = _; rw [HYE.out, HS0.out]; exact HN.out), HV, Lib.hid ((HB1.out.grown HG.out (Nat.le_of_lt hsz) (fun j hj => by cases hj; exact Nat.le_refl _)).trans (BZ.out.mono (Nat.le_of_lt (Nat.lt_of_lt_of_le hsz hs1)))), Nat.lt_of_lt_of_le (Nat.lt_of_lt_of_le hsz hs1) BZ.out.size⟩
        case measure => simp [intOf]; omega
      · have q7 : (ki == 7) = false := by rw [beq_eq_false_iff_ne]; exact h7
        have HT := Lib.hid (HT0.out h7)
        have hm1 := HM1.out
        have HB2 : Hid (Below W.heap.size W (W.alloc (.cells #[] 68))) := Lib.hid ((Below.refl _ _).alloc (Nat.le_refl _) _)
        have HE3 : Hid ((W.alloc (.cells #[] 68)).heap[E]? = some (.cells R 46 (0, 0))) := Lib.hid ((heap_alloc_old _ _ (Array.getElem?_eq_some_iff.1 HE0.out).1).trans HE0.out)
        have hhas := HH.out wh
        have HQ : Hid (decide (wh ∈ T0) = decide (wh ∈ T0)) := rfl
        generalize decide (wh ∈ T0) = q at *
        clear HC7 HT1 HT0 h7 HX HH HK3 HQ
        cases c with
        | false =>
          have HS0 := Lib.hid (HY0.out (by rw [HSB.out]; rfl))
          clear HY1 HY0 HSB
          go_wp2_with (first
            | (at_lookup; refine wpList_lookup_own_unit _ rfl _ _ 67 rfl 3 68 lawInt31 Try.underlying67 (zeroUnit31 _) w.heap.size T0.length _ rfl hm1 _ _ rfl hkey ?_; rw [hhas])
            | (refine wpList_load_row rfl 46 _ rfl E rfl 46 R (0, 0) _ HE3.out Try.underlying46 rfl (by rw [HS.out.1]; exact sizeEvent) ?_)
            | (go_at_call 33; (with_reducible refine (HCl.out _).mono ?_); rintro e w2 ⟨rfl, b2⟩; have B2 := Lib.hid b2; clear b2))
          have BZ : Hid (Below W.heap.size W w2) := Lib.hid (HB2.out.trans (B2.out.mono HB2.out.size))
          go_roundw
          case rel => exact ⟨k + 1, n, by omega, by go_num, Lib.hid (by rw [HTE.out, HT.out]; exact ownsMap_below HM1.out BZ.out), Lib.hid (by rw [HYE.out, HS0.out]; exact ownsRow_below HR1.out BZ.out), Lib.hid (by show n = _; rw [HYE.out, HS0.out]; exact HN.out), HV, Lib.hid (HB1.out.trans (BZ.out.mono (Nat.le_of_lt hsz))), Nat.lt_of_lt_of_le hsz BZ.out.size⟩
          case measure => simp [intOf]; omega
        | true =>
          cases q with
          | true =>
            have HS0 := Lib.hid (HY0.out (by rw [HSB.out]; rfl))
            clear HY1 HY0 HSB
            go_wp2_with (first
              | (at_lookup; refine wpList_lookup_own_unit _ rfl _ _ 67 rfl 3 68 lawInt31 Try.underlying67 (zeroUnit31 _) w.heap.size T0.length _ rfl hm1 _ _ rfl hkey ?_; rw [hhas])
              | (refine wpList_load_row rfl 46 _ rfl E rfl 46 R (0, 0) _ HE3.out Try.underlying46 rfl (by rw [HS.out.1]; exact sizeEvent) ?_)
              | (go_at_call 33; (with_reducible refine (HCl.out _).mono ?_); rintro e w2 ⟨rfl, b2⟩; have B2 := Lib.hid b2; clear b2))
            have BZ : Hid (Below W.heap.size W w2) := Lib.hid (HB2.out.trans (B2.out.mono HB2.out.size))
            go_roundw
            case rel => exact ⟨k + 1, n, by omega, by go_num, Lib.hid (by rw [HTE.out, HT.out]; exact ownsMap_below HM1.out BZ.out), Lib.hid (by rw [HYE.out, HS0.out]; exact ownsRow_below HR1.out BZ.out), Lib.hid (by show n = _; rw [HYE.out, HS0.out]; exact HN.out), HV, Lib.hid (HB1.out.trans (BZ.out.mono (Nat.le_of_lt hsz))), Nat.lt_of_lt_of_le hsz BZ.out.size⟩
            case measure => simp [intOf]; omega
          | false =>
            have HS1 := Lib.hid (HY1.out (by rw [HSB.out]; rfl))
            clear HY1 HY0 HSB
            go_wp2_with (first
              | (at_lookup; refine wpList_lookup_own_unit _ rfl _ _ 67 rfl 3 68 lawInt31 Try.underlying67 (zeroUnit31 _) w.heap.size T0.length _ rfl hm1 _ _ rfl hkey ?_; rw [hhas])
              | (refine wpList_load_row rfl 46 _ rfl E rfl 46 R (0, 0) _ HE3.out Try.underlying46 rfl (by rw [HS.out.1]; exact sizeEvent) ?_)
              | (go_at_call 33; (with_reducible refine (HCl.out _).mono ?_); rintro e w2 ⟨rfl, b2⟩; have B2 := Lib.hid b2; clear b2; have BZ : Hid (Below W.heap.size W w2) := Lib.hid (HB2.out.trans (B2.out.mono HB2.out.size)); have hrow2 := (ownsRow_below HR1.out BZ.out).alloc (.cells #[.int .i64 k] 3); have HBW : Hid (w.heap.size + 1 ≤ w2.heap.size) := Lib.hid (Nat.le_trans hsz BZ.out.size))
              | (at_builtin; refine wpList_append_own _ rfl _ _ 49 rfl (w.heap.size + 1) 3 i0 (.int .i64 0) 1 8 Try.underlying49 hi hz0 hz1 hz2 rfl (by decide) _ n _ rfl hrow2 ⟨w2.heap.size, 0, none⟩ 1 1 [.int .i64 k] rfl rfl (int_news31 (Holds.new w2 _ _)) (int_one31 _) (by have := HN.out; have := HTL.out.2; unfold maxLen; omega) (by have := HN.out; have := HTL.out.2; omega) (by have := HBW.out; rw [World.size_alloc]; omega) ?_; intro v' w3 hrow3 hgrow3 hiff; have HR3 := Lib.hid hrow3; have HG3 := Lib.hid hgrow3; have HI3 := Lib.hid hiff; clear hrow3 hgrow3 hiff))
            have HM3 := Lib.hid (((ownsMap_below HM1.out BZ.out).alloc (.cells #[.int .i64 k] 3)).kept HG3.out (fun e => by have := (HR1.out.lt _ e.symm).1; omega))
            have B1 : Hid (Below w.heap.size w w2) := Lib.hid (HB1.out.trans (BZ.out.mono (Nat.le_of_lt hsz)))
            have B2' : Hid (Below w.heap.size w (w2.alloc (.cells #[.int .i64 k] 3))) := Lib.hid (B1.out.alloc B1.out.size _)
            have B3 : Hid (Below w.heap.size w w3) := Lib.hid (B2'.out.grown HG3.out B2'.out.size (fun j hj => by have := (HR1.out.lt j hj).1; omega))
            have hs3 := HG3.out.size
            have hsb := BZ.out.size
            rw [World.size_alloc] at hs3
            go_roundw
            case rel => exact ⟨k + 1, n + 1, by omega, by go_num, Lib.hid (by rw [HTE.out, HT.out]; exact HM3.out), Lib.hid (by rw [HYE.out, HS1.out, intCells_snoc]; exact HR3.out), Lib.hid (by show n + 1 = _; rw [HYE.out, HS1.out, List.length_append, HN.out]; rfl), Lib.hid (fun e => absurd e (by omega)), B3, by omega⟩
            case measure => simp [intOf]; omega
    · have hkl : k = l.length := by omega
      subst hkl
      clear hlt HC HO HM
      go_wp2_with fail
      go_ret
      refine ⟨_, rfl, IntsAt.ofRow (by rw [← HN.out]; exact HR.out) (fun e => HV.out (by rw [HN.out, e]; rfl)), HB.out⟩
end Go.Proofs.Ytjphlhehhigpjaa
