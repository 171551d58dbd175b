/- Layer 31: trust.Keys. -/
import Derived.Test.YtfjbpaigbphbbaaEv9a
import Derived.Test.YtfjbpaigbphbbaaEv7a
import Derived.Test.YtfjbpaigbphbbaaEv5
namespace Go.Proofs.Ytfjbpaigbphbbaa
open Go.RowKit

/-- A slice value that reads as these results. -/
def DonesAt (w : World) (v : Value) (l : List DoV) : Prop :=
  ∃ ao cap, v = .slice ao l.length cap ∧ (l ≠ [] → ∃ b off, ao = some ⟨b, off, none⟩ ∧ b < w.heap.size ∧ ∀ k x, l[k]? = some x → ∀ j u, x.row.toArray[j]? = some u → w.cell? ⟨b, off + k * 26 + j, none⟩ = some u)
def doCells : List DoV → List Value
  | [] => []
  | x :: r => x.row ++ doCells r
theorem doCells_len : ∀ l : List DoV, (doCells l).length = l.length * 26
  | [] => rfl
  | x :: r => by
    rw [doCells, List.length_append, doCells_len r, x.row_size, List.length_cons]
    omega
theorem doCells_app : ∀ a b : List DoV, doCells (a ++ b) = doCells a ++ doCells b
  | [], b => rfl
  | x :: r, b => by rw [List.cons_append, doCells, doCells, doCells_app r b, List.append_assoc]
theorem doCells_snoc (l : List DoV) (x : DoV) : doCells (l ++ [x]) = doCells l ++ x.row := by
  rw [doCells_app, doCells, doCells, List.append_nil]
theorem doCells_get : ∀ (l : List DoV) (k : Nat) (x : DoV) (j : Nat), l[k]? = some x → j < 26 → (doCells l)[k * 26 + j]? = x.row[j]?
  | [], k, x, j, h, _ => by simp at h
  | y :: r, 0, x, j, h, hj => by
    simp at h
    subst h
    rw [doCells, List.getElem?_append_left (by rw [y.row_size]; omega)]
    simp
  | y :: r, k + 1, x, j, h, hj => by
    rw [doCells, List.getElem?_append_right (by rw [y.row_size]; omega), y.row_size, show (k + 1) * 26 + j - 26 = k * 26 + j by omega]
    exact doCells_get r k x j (by simpa using h) hj
theorem DonesAt.ofRow {w : World} {base : Nat} {v : Value} {l : List DoV} (h : w.ownsRow base 36 26 v l.length (doCells l)) (hn : l = [] → v = .slice none 0 0) : DonesAt w v l := by
  by_cases hl : l = []
  · subst hl
    rw [hn rfl]
    exact ⟨none, 0, rfl, fun h => absurd rfl h⟩
  · have hown := h
    obtain ⟨_, hcase⟩ := h
    rcases hcase with ⟨_, h0⟩ | ⟨g, cap', cur, rfl, hg, hh, hn, hcap, hsz, htake⟩
    · exact absurd (List.length_eq_zero_iff.1 h0) hl
    · refine ⟨some ⟨g, 0, none⟩, cap', rfl, fun _ => ⟨g, 0, rfl, (Array.getElem?_eq_some_iff.1 hh).1, fun k x hk j u hj => ?_⟩⟩
      have hj26 : j < 26 := by
        have := (Array.getElem?_eq_some_iff.1 hj).1
        simpa [x.row_size] using this
      have hk' := (List.getElem?_eq_some_iff.1 hk).1
      rw [Nat.zero_add, hown.cellAt (k * 26 + j) (by omega), doCells_get l k x j hk hj26]
      simpa using hj
theorem DonesAt.below {w w' : World} {v : Value} {l : List DoV} (h : DonesAt w v l) (hb : Below w.heap.size w w') : DonesAt w' v l := by
  obtain ⟨ao, cap, rfl, h⟩ := h
  refine ⟨ao, cap, rfl, fun hne => ?_⟩
  obtain ⟨b, off, rfl, hlt, hk⟩ := h hne
  exact ⟨b, off, rfl, Nat.lt_of_lt_of_le hlt hb.size, fun k x hx j u hj => (hb.cell (p := ⟨b, off + k * 26 + j, none⟩) hlt).trans (hk k x hx j u hj)⟩
theorem fill_one26 (R : Array Value) (hR : R.size = 26) (Z : Array Value) : Instr.fill (fun i => some (i * 26, 26)) ((Array.range (1 * 26)).map ((Value.agg Z).cells[· % (Value.agg Z).cells.size]!)) [(0, .agg R)] = some R := by
  have h := Great.fill_whole (s := 26) (by decide) [Value.agg R] ((Array.range (1 * 26)).map ((Value.agg Z).cells[· % (Value.agg Z).cells.size]!)) (fun v hv => by simp at hv; subst hv; exact hR) (by simp)
  have h2 : (([Value.agg R] : List Value).flatMap fun v => v.cells.toList).toArray = R := by simp [Value.cells]
  rw [h2] at h
  exact h
set_option maxRecDepth 100000 in
theorem infoDo31 : (Try.prog.info? 36).map (fun i => (i.zero, i.size, i.bytes)) = some (some (.agg (zeroE 0 0).dn.row.toArray), 26, 312) := by kernel_rfl
/-- The results of a session's exchanges. -/
def keyP (s : Int) (x : EvV) : Bool := isExP x && x.se == s
def keysL (l : List EvV) (s : Int) (k : Nat) : List DoV := ((l.take k).filter (keyP s)).map (·.dn)
theorem keys_yes {l : List EvV} {s : Int} {k : Nat} (hk : k < l.length) (h : keyP s l[k] = true) : keysL l s (k + 1) = keysL l s k ++ [(l[k]).dn] := by
  unfold keysL
  rw [List.take_succ_eq_append_getElem hk, List.filter_append, List.map_append]
  simp [h]
theorem keys_no {l : List EvV} {s : Int} {k : Nat} (hk : k < l.length) (h : keyP s l[k] = false) : keysL l s (k + 1) = keysL l s k := by
  unfold keysL
  rw [List.take_succ_eq_append_getElem hk, List.filter_append, List.map_append]
  simp [h]
theorem keys_len (l : List EvV) (s : Int) (k : Nat) : (keysL l s k).length ≤ k := by
  unfold keysL
  rw [List.length_map]
  exact Nat.le_trans (List.length_filter_le _ _) (by rw [List.length_take]; omega)
set_option maxHeartbeats 4000000 in
set_option maxRecDepth 100000 in
theorem keys_any {w : World} {v : Value} {l : List EvV} (h : EventsAt w v l) (hl : l.length ≤ 1000) (s : Int) :
    Calls Try.prog 21 #[v, .int .i64 s] w fun e w' => ∃ v', e = .returned v' ∧ DonesAt w' v' (keysL l s l.length) ∧ Below w.heap.size w w' := by
  obtain ⟨ao, cap, rfl, hc⟩ := h
  obtain ⟨i0, hi, hz0, hz1, hz2⟩ := info_parts infoDo31
  have HC := Lib.hid hc
  clear hc
  go_enter Try.func21, Try.ntmps21
  go_wp2_with fail
  go_loopw [5, 10] (fun v i wr => ∃ k n : Nat, k ≤ l.length ∧ i = .int .i64 k ∧ Hid (wr.ownsRow w.heap.size 36 26 v n (doCells (keysL l s k))) ∧ Hid (n = (keysL l s k).length) ∧ Hid (n = 0 → v = .slice none 0 0) ∧ Hid (Below w.heap.size w wr)) (fun _ i _ => l.length - (intOf i).toNat)
  case atStart => exact ⟨0, 0, Nat.zero_le _, rfl, Lib.hid ⟨rfl, .inl ⟨rfl, rfl⟩⟩, (by first | exact Lib.hid trivial | exact Lib.hid rfl), (by first | exact Lib.hid trivial | exact Lib.hid fun _ => rfl), Lib.hid (Below.refl _ _)⟩
  case round =>
    obtain ⟨k, n, hk, rfl, HR, HN, HV, HB⟩ := hrel
    by_cases hlt : k < l.length
    · obtain ⟨b, off, rfl, hb, hcell⟩ := HC.out (by intro h; simp [h] at hlt)
      have HL : Hid (∀ j u, (l[k]).row[j]? = some u → wr.cell? ((⟨b, off + k * 34, none⟩ : Addr).add j) = some u) := fun j u hj => by
        rw [Addr.add_lit]
        exact (HB.out.cell (p := ⟨b, off + k * 34 + j, none⟩) hb).trans (hcell k _ (List.getElem?_eq_getElem hlt) j u hj)
      have HS : Hid ((l[k]).row.size = 34 ∧ (l[k]).row.all (·.oneCell') = true) := ⟨rfl, EvV.row_one _⟩
      have HIs := Lib.hid (isEx_any l[k])
      have HK1 : Hid ((l[k]).row[1]? = some (.int .i64 (l[k]).se)) := EvV.row_se _
      have HKD : Hid (∀ j u, (l[k]).dn.row.toArray[j]? = some u → (l[k]).row[8 + j]? = some u) := row_dn _
      have HDs : Hid ((l[k]).dn.row.toArray.size = 26 ∧ (l[k]).dn.row.toArray.all (·.oneCell') = true) := ⟨rfl, DoV.one _⟩
      have HKP : Hid (keyP s l[k] = (isExP l[k] && (l[k]).se == s)) := rfl
      have HY : Hid (keyP s l[k] = true → keysL l s (k + 1) = keysL l s k ++ [(l[k]).dn]) := fun e => keys_yes hlt e
      have HNo : Hid (keyP s l[k] = false → keysL l s (k + 1) = keysL l s k) := fun e => keys_no hlt e
      have HSn : Hid (doCells (keysL l s k ++ [(l[k]).dn]) = doCells (keysL l s k) ++ (l[k]).dn.row.toArray.toList) := by
        show _ = _
        rw [doCells_snoc]
      have HLn : Hid ((keysL l s k ++ [(l[k]).dn]).length = (keysL l s k).length + 1) := Lib.hid (by simp)
      have HNk : Hid (n ≤ k ∧ k ≤ 1000) := ⟨by have := keys_len l s k; have := HN.out; omega, by omega⟩
      generalize hK1 : keysL l s (k + 1) = K1 at *
      have HK1E := Lib.hid hK1
      clear hK1 hcell HC hb
      generalize keysL l s k ++ [(l[k]).dn] = K2 at *
      generalize keysL l s k = K0 at *
      generalize keyP s l[k] = kp at *
      generalize isExP l[k] = ix at *
      generalize (l[k]).dn.row.toArray = D at *
      generalize (l[k]).row = R at *
      generalize (l[k]).se = se at *
      go_upto_region 5 with (first
        | (refine wpList_load_cells rfl 38 _ rfl ⟨b, off + k * 34, none⟩ rfl R _ HL.out Try.underlying38 rfl (by rw [HS.out.1]; exact sizeEvent) ?_)
        | (refine wpList_store_new rfl 38 _ _ rfl wr.heap.size _ R 38 rfl rfl rfl (by rw [HS.out.1]; exact sizeEvent) (by rw [HS.out.1]; rfl) HS.out.2 ?_))
      obtain ⟨E, hE⟩ : ∃ E, Hid (E = wr.heap.size) := ⟨_, Lib.hid rfl⟩
      have HR1 := Lib.hid (HR.out.alloc (.cells R 38))
      have HB1 := Lib.hid (HB.out.alloc HB.out.size (.cells R 38))
      have HE0 : Hid (Holds (wr.alloc (.cells R 38)) E 38 R) := by
        show Holds _ E _ _
        rw [hE.out]; exact Holds.new wr 38 R
      rw [← hE.out]
      clear HL hE HR HB
      generalize wr.alloc (.cells R 38) = W at *
      have HE3 : Hid (∀ W', Below W.heap.size W W' → Holds W' E 38 R) := fun W' h => (h.block _ HE0.out.lt).trans HE0.out
      have HFin : Hid (∀ w2, Below W.heap.size W w2 → w2.cell? ⟨E, 1, none⟩ = some (.int .i64 se) ∧ (∀ j u, D[j]? = some u → w2.cell? ((⟨E, 8, none⟩ : Addr).add j) = some u)) := fun w2 h => ⟨(cell_heap (HE3.out w2 h) 1).trans HK1.out, fun j u hj => by
        rw [Addr.add_lit]
        exact (cell_heap (HE3.out w2 h) (8 + j)).trans (HKD.out j u hj)⟩
      cases ix with
      | false =>
        have HF := Lib.hid (HNo.out (by rw [HKP.out]; rfl))
        clear HY HNo HSn HLn HKP
        go_wp2_with (first
          | (refine wpList_load_row rfl 38 _ rfl E rfl 38 R (0, 0) _ (by exact HE0.out) Try.underlying38 rfl (by rw [HS.out.1]; exact sizeEvent) ?_)
          | (go_at_call 30; (with_reducible refine (HIs.out _).mono ?_); rintro e w2 ⟨rfl, b2⟩; have B2 := Lib.hid b2; clear b2))
        go_roundw
        case rel => exact ⟨k + 1, n, by omega, by go_num, Lib.hid (by rw [HK1E.out, HF.out]; exact ownsRow_below HR1.out B2.out), Lib.hid (by show n = _; rw [HK1E.out, HF.out]; exact HN.out), HV, Lib.hid (HB1.out.trans (B2.out.mono HB1.out.size))⟩
        case measure => simp [intOf]; omega
      | true =>
        by_cases hse : se = s
        case neg =>
          have q1 : (se == s) = false := by rw [beq_eq_false_iff_ne]; exact hse
          have HF := Lib.hid (HNo.out (by rw [HKP.out, q1]; rfl))
          clear HY HNo HSn HLn HKP hse
          go_wp2_with (first
            | (refine wpList_load_row rfl 38 _ rfl E rfl 38 R (0, 0) _ (by exact HE0.out) Try.underlying38 rfl (by rw [HS.out.1]; exact sizeEvent) ?_)
            | (go_at_call 30; (with_reducible refine (HIs.out _).mono ?_); rintro e w2 ⟨rfl, b2⟩; have B2 := Lib.hid b2; clear b2; have c1 := (HFin.out w2 B2.out).1))
          go_roundw
          case rel => exact ⟨k + 1, n, by omega, by go_num, Lib.hid (by rw [HK1E.out, HF.out]; exact ownsRow_below HR1.out B2.out), Lib.hid (by show n = _; rw [HK1E.out, HF.out]; exact HN.out), HV, Lib.hid (HB1.out.trans (B2.out.mono HB1.out.size))⟩
          case measure => simp [intOf]; omega
        case pos =>
          have q1 : (se == s) = true := by rw [hse]; exact beq_self_eq_true _
          have HF := Lib.hid (HY.out (by rw [HKP.out, q1]; rfl))
          have hown := HR1.out.lt
          have HO := Lib.hid hown
          clear HY HNo HKP hse hown
          go_wp2_with (first
            | (refine wpList_load_row rfl 38 _ rfl E rfl 38 R (0, 0) _ (by exact HE0.out) Try.underlying38 rfl (by rw [HS.out.1]; exact sizeEvent) ?_)
            | (go_at_call 30; (with_reducible refine (HIs.out _).mono ?_); rintro e w2 ⟨rfl, b2⟩; have B2 := Lib.hid b2; clear b2; have c1 := (HFin.out w2 B2.out).1; have hrow := (ownsRow_below HR1.out B2.out).alloc (.cells D 36))
            | (refine wpList_load_cells rfl 36 _ rfl ⟨E, 8, none⟩ rfl D _ (HFin.out w2 B2.out).2 Try.underlying36 rfl (by rw [HDs.out.1]; exact sizeDone) ?_)
            | (refine wpList_buildSlice rfl 46 36 1 _ rfl D i0 _ Try.underlying46 hi hz0 (by rw [hz1]; decide) (by rw [hz1]; decide) (by rw [parts_one _ _ _ rfl, hz1]; exact fill_one26 D HDs.out.1 _) ?_)
            | (at_builtin; refine wpList_append_own _ rfl _ _ 46 rfl w.heap.size 36 i0 (.agg (zeroE 0 0).dn.row.toArray) 26 312 Try.underlying46 hi hz0 hz1 hz2 rfl (by decide) _ n _ rfl hrow ⟨w2.heap.size, 0, none⟩ 1 1 D.toList rfl (by rw [Array.length_toList, HDs.out.1]) (row_news31 (Holds.new w2 _ _)) (row_one31 HDs.out.2) (by have := HNk.out; unfold maxLen; omega) (by have := HNk.out; omega) (by have := HB1.out.size; have := B2.out.size; rw [World.size_alloc]; omega) ?_; intro v' w3 hrow3 hgrow3 hiff; have HR3 := Lib.hid hrow3; have HG3 := Lib.hid hgrow3; clear hrow3 hgrow3 hiff))
          have BB : Hid (Below w.heap.size w w2) := Lib.hid (HB1.out.trans (B2.out.mono HB1.out.size))
          have B3 := Lib.hid ((BB.out.alloc BB.out.size (.cells D 36)).grown HG3.out (by have := BB.out.size; rw [World.size_alloc]; omega) (fun j hj => (HO.out j hj).1))
          go_roundw
          case rel => exact ⟨k + 1, n + 1, by omega, by go_num, Lib.hid (by rw [HK1E.out, HF.out, HSn.out]; exact HR3.out), Lib.hid (by show n + 1 = _; rw [HK1E.out, HF.out, HLn.out, HN.out]), Lib.hid (fun e => absurd e (by omega)), B3⟩
          case measure => simp [intOf]; omega
    · have hkl : k = l.length := by omega
      subst hkl
      clear hlt HC
      go_wp2_with fail
      go_ret
      exact ⟨_, rfl, DonesAt.ofRow (by rw [← HN.out]; exact HR.out) (fun e => HV.out (by rw [HN.out, e]; rfl)), HB.out⟩
end Go.Proofs.Ytfjbpaigbphbbaa
