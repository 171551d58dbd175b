/- Layer 37: the law CensusSums. -/
import Derived.Test.YtjphlhehhigpjaaCeS0
import Derived.Test.YtjphlhehhigpjaaCeS1
import Derived.Test.YtjphlhehhigpjaaCeE
import Derived.Test.YtjphlhehhigpjaaCe7
import Derived.Test.YtjphlhehhigpjaaEv7a
namespace Go.Proofs.Ytjphlhehhigpjaa
open Go.RowKit

/-- Does one of the events below a place take a key? -/
def tkn (l : List EvV) (k : Nat) : Bool := (l.take k).any fun x => x.ki == 7
theorem tkn_next {l : List EvV} {k : Nat} (hk : k < l.length) : tkn l (k + 1) = (tkn l k || ((l[k]).ki == 7)) := by
  unfold tkn
  rw [List.take_succ_eq_append_getElem hk, List.any_append]
  simp
set_option maxRecDepth 100000 in
theorem guardCensus : Try.prog.eqGuardType Try.prog.depth 29 = false := by kernel_rfl
set_option maxHeartbeats 16000000 in
set_option maxRecDepth 100000 in
theorem CensusSums_any {w : World} {v : Value} {l : List EvV} (h : EventsAt w v l) (ho : ∀ x ∈ l, ∀ u ∈ x.row.toList, CellOk u) {v2 : Value} {m : List EvV} (h2 : EventsAt w v2 m) (ho2 : ∀ x ∈ m, ∀ u ∈ x.row.toList, CellOk u) :
    Calls Try.prog 4 #[v, v2] w fun e w' => e = .returned (.bool true) ∧ Below w.heap.size w w' := by
  have HAw : Hid (∀ W, Calls Try.prog 7 #[] W fun e w' => e = .returned (.bool true) ∧ Below W.heap.size W w') := fun W => awake37_any W
  have HF1 := Lib.hid (few37_any h ho)
  have HF2 : Hid (∀ W, Below w.heap.size w W → Calls Try.prog 6 #[v2] W (Few37 m W)) := fun W hb => few37_any (h2.below hb) ho2
  have HO1 : Hid (∀ W, l.length ≤ 60 → Below w.heap.size w W → Calls Try.prog 8 #[v] W fun e w' => e = .returned (.agg (cenRow (cenC l))) ∧ Below W.heap.size W w') := fun W hl hb => cnOf_any (h.below hb) (by omega) ho
  have HO2 : Hid (∀ W, m.length ≤ 60 → Below w.heap.size w W → Calls Try.prog 8 #[v2] W fun e w' => e = .returned (.agg (cenRow (cenC m))) ∧ Below W.heap.size W w') := fun W hl hb => cnOf_any (h2.below hb) (by omega) ho2
  have HO3 : Hid (∀ W v5, l.length ≤ 60 → m.length ≤ 60 → EventsAt W v5 (l ++ m) → Calls Try.prog 8 #[v5] W fun e w' => e = .returned (.agg (cenRow (cenC (l ++ m)))) ∧ Below W.heap.size W w') := fun W v5 hl hm hv => cnOf_any hv (by rw [List.length_append]; omega) (fun x hx => (List.mem_append.1 hx).elim (ho x) (ho2 x))
  have HSm : Hid (l.length ≤ 60 → m.length ≤ 60 → ∀ W, Calls Try.prog 13 #[.agg (cenRow (cenC l)), .agg (cenRow (cenC m))] W fun e w' => e = .returned (.agg (cenRow (fun i => cenC l i + cenC m i))) ∧ Below W.heap.size W w') := fun hl hm W => cnSum_any W (cenC l) (cenC m) (fun i _ => by have := cenC_bd l i; omega) (fun i _ => by have := cenC_bd m i; omega)
  obtain ⟨i0, hi, hz0, hz1, hz2⟩ := info_parts infoEv31
  have HA1 := Lib.hid h
  have HA2 := Lib.hid h2
  obtain ⟨ao, cap, rfl, hc1⟩ := h
  obtain ⟨ao2, cap2, rfl, hc2⟩ := h2
  have HD1 := Lib.hid hc1
  have HD2 := Lib.hid hc2
  clear ho ho2 HA1 HA2 hc1 hc2
  go_enter Try.func4, Try.ntmps4
  go_upto_region 1 with fail
  go_cut [18] (fun u wx => Hid (∃ z : Bool, u = .bool z ∧ (z = false → l.length ≤ 60 ∧ m.length ≤ 60)) ∧ Hid (Below w.heap.size w wx))
  case first =>
    clear HO1 HO2 HO3 HSm HAw HD1 HD2 hi hz0 hz1 hz2
    go_wp2_with (first
      | (go_at_call 6; (with_reducible refine HF1.out.mono ?_); rintro e w1 ⟨z1, rfl, hz1, b1⟩; have HZ1 := Lib.hid hz1; have B1 := Lib.hid b1; clear hz1 b1; cases z1)
      | (go_at_call 6; (with_reducible refine (HF2.out _ B1.out).mono ?_); rintro e w2 ⟨z2, rfl, hz2, b2⟩; have HZ2 := Lib.hid hz2; have B2 := Lib.hid (B1.out.trans (b2.mono B1.out.size)); clear hz2 b2; cases z2))
    all_goals go_meet
    all_goals first
      | exact ⟨Lib.hid ⟨false, rfl, fun _ => ⟨by first | exact HZ1.out rfl | exact HZ1.out | simpa using HZ1.out, by first | exact HZ2.out rfl | exact HZ2.out | simpa using HZ2.out⟩⟩, B2⟩
      | exact ⟨Lib.hid ⟨true, rfl, fun h => by cases h⟩, B2⟩
      | exact ⟨Lib.hid ⟨true, rfl, fun h => by cases h⟩, B1⟩
  case rest =>
  obtain ⟨hz, HB0⟩ := hcut
  obtain ⟨z, hzz, hlen⟩ := hz.out
  subst hzz
  have HLen := Lib.hid hlen
  clear hlen hz HF1 HF2
  generalize wc = w0 at *
  cases z with
  | true =>
    clear HO1 HO2 HO3 HSm HD1 HD2 HLen hi hz0 hz1 hz2
    go_wp2_with (first
      | (go_at_call 7; (with_reducible refine (HAw.out _).mono ?_); rintro e w2 ⟨rfl, b2⟩; have B2 := Lib.hid (HB0.out.trans (b2.mono HB0.out.size)); clear b2))
    go_ret
    exact ⟨rfl, B2.out⟩
  | false =>
  obtain ⟨hl60, hm60⟩ := HLen.out rfl
  clear HLen
  go_wp2_with fail
  go_loopw [5, 6, 7] (fun v t i wr => ∃ k : Nat, k ≤ l.length ∧ i = .int .i64 k ∧ t = .bool (tkn l k) ∧ Hid (wr.ownsRow w.heap.size 46 34 v k (evCells (l.take k))) ∧ Hid (l.take k = [] → v = .slice none 0 0) ∧ Hid (Below w.heap.size w wr)) (fun _ _ i _ => l.length - (intOf i).toNat)
  case atStart => exact ⟨0, Nat.zero_le _, rfl, rfl, Lib.hid ⟨rfl, .inl ⟨rfl, rfl⟩⟩, Lib.hid fun _ => rfl, HB0⟩
  case round =>
  obtain ⟨k, hk, rfl, rfl, HR, HV, HB⟩ := hrel
  clear HB0
  by_cases hlt : k < l.length
  · have hki : (k : Int) < (l.length : Int) := by omega
    obtain ⟨b, off, rfl, hb, hcell⟩ := HD1.out (by intro h; simp [h] at hlt)
    have HL : Hid (∀ j u, (l[k]).row[j]? = some u → wr.cell? ((⟨b, off + k * 34, none⟩ : Addr).add j) = some u) := fun j u hj => by
      rw [Addr.add_lit]
      exact (HB.out.cell (p := ⟨b, off + k * 34 + j, none⟩) hb).trans (hcell k _ (List.getElem?_eq_getElem hlt) j u hj)
    have HS : Hid ((l[k]).row.size = 34 ∧ (l[k]).row.all (·.oneCell') = true) := ⟨rfl, EvV.row_one _⟩
    have HX : Hid (evCells (l.take (k + 1)) = evCells (l.take k) ++ (l[k]).row.toList) := by
      show _ = _
      rw [List.take_succ_eq_append_getElem hlt, evCells_snoc]
    have HN : Hid (¬ (l.take (k + 1)) = []) := fun e => by
      have := congrArg List.length e
      simp only [List.length_append, List.length_take, List.length_nil] at this
      omega
    have hrow := HR.out.alloc (.cells (l[k]).row 46)
    have hown := HR.out.lt
    generalize hE1 : evCells (l.take (k + 1)) = E1 at *
    have HE1 := Lib.hid hE1
    clear hE1
    have HK0 : Hid (∀ W, Below w.heap.size w W → W.cell? ⟨b, off + k * 34, none⟩ = some (.int .i64 (l[k]).ki)) := fun W hB => (hB.cell (p := ⟨b, off + k * 34, none⟩) hb).trans (hcell k _ (List.getElem?_eq_getElem hlt) 0 _ (EvV.row_ki _))
    have HTk := Lib.hid (tkn_next hlt)
    clear hcell HD1 HD2 HR HV HO1 HO2 HO3 HSm HAw
    generalize tkn l k = t0 at *
    generalize evCells (l.take k) = E0 at *
    generalize (l[k]).row = R at *
    generalize (l[k]).ki = ki at *
    have HO := Lib.hid hown
    clear hown
    go_upto_region 9 with (first
        | (refine wpList_load_cells rfl 46 _ rfl ⟨b, off + k * 34, none⟩ rfl R _ HL.out Try.underlying46 rfl (by rw [HS.out.1]; exact sizeEvent) ?_)
        | (refine wpList_buildSlice rfl 22 46 1 _ rfl R i0 _ Try.underlying22 hi hz0 (by rw [hz1]; decide) (by rw [hz1]; decide) (by rw [parts_one _ _ _ rfl, hz1]; exact fill_one31 R HS.out.1 _) ?_)
        | (at_builtin; refine wpList_append_own _ rfl _ _ 22 rfl w.heap.size 46 i0 (.agg (zeroE 0 0).row) 34 400 Try.underlying22 hi hz0 hz1 hz2 rfl (by decide) _ k _ rfl hrow ⟨wr.heap.size, 0, none⟩ 1 1 R.toList rfl (by rw [Array.length_toList, HS.out.1]) (row_news31 (Holds.new wr _ _)) (row_one31 HS.out.2) (by unfold maxLen; omega) (by omega) (by have := HB.out.size; rw [World.size_alloc]; omega) ?_; intro v' w3 hrow3 hgrow3 hiff; have HR3 := Lib.hid hrow3; have HG3 := Lib.hid hgrow3; clear hrow3 hgrow3 hiff))
    have B2 := Lib.hid ((HB.out.alloc HB.out.size (.cells R 46)).grown HG3.out (by have := HB.out.size; rw [World.size_alloc]; omega) (fun j hj => (HO.out j hj).1))
    have x0 := HK0.out _ B2.out
    have HR4 : Hid (w3.ownsRow w.heap.size 46 34 v' (k + 1) E1) := by
      show World.ownsRow _ _ _ _ _ _ _
      rw [HX.out]; exact HR3.out
    clear HL HS HX hrow HG3 HR3 HO HK0
    cases t0 with
    | true =>
      have HZ : Hid (tkn l (k + 1) = true) := HTk.out
      clear HTk
      go_wp2_with fail
      go_roundw
      case rel => exact ⟨k + 1, by omega, by go_num, by rw [HZ.out], Lib.hid (by rw [HE1.out]; exact HR4.out), Lib.hid (fun e => absurd e HN.out), B2⟩
      case measure => simp [intOf]; omega
    | false =>
      have HZ : Hid (tkn l (k + 1) = (ki == 7)) := HTk.out
      clear HTk
      go_wp2_with fail
      go_roundw
      case rel => exact ⟨k + 1, by omega, by go_num, by rw [HZ.out], Lib.hid (by rw [HE1.out]; exact HR4.out), Lib.hid (fun e => absurd e HN.out), B2⟩
      case measure => simp [intOf]; omega
  have hkl : k = l.length := by omega
  subst hkl
  have HR0 : Hid (wr.ownsRow w.heap.size 46 34 u5 (l.length + 0) (evCells (l ++ m.take 0))) := by
    have := HR.out
    rw [List.take_length] at this
    show World.ownsRow _ _ _ _ _ _ _
    rw [List.take_zero, List.append_nil]
    exact this
  have HV0 : Hid (l ++ m.take 0 = [] → u5 = .slice none 0 0) := fun e => HV.out (by rw [List.take_length]; simpa using e)
  have HTn : Hid (tkn l l.length = l.any fun x => x.ki == 7) := by unfold tkn; show _ = _; rw [List.take_length]
  have HB0 := HB
  generalize tkn l l.length = tk at *
  clear HR HV hlt HB
  go_wp2_with fail
  go_loopw [5, 8] (fun v i wr => ∃ k : Nat, k ≤ m.length ∧ i = .int .i64 k ∧ Hid (wr.ownsRow w.heap.size 46 34 v (l.length + k) (evCells (l ++ m.take k))) ∧ Hid (l ++ m.take k = [] → v = .slice none 0 0) ∧ Hid (Below w.heap.size w wr)) (fun _ i _ => m.length - (intOf i).toNat)
  case atStart => exact ⟨0, Nat.zero_le _, rfl, HR0, HV0, HB0⟩
  case round =>
  obtain ⟨k, hk, rfl, HR, HV, HB⟩ := hrel
  clear HR0 HV0 HB0
  by_cases hlt : k < m.length
  · have hki : (k : Int) < (m.length : Int) := by omega
    obtain ⟨b, off, rfl, hb, hcell⟩ := HD2.out (by intro h; simp [h] at hlt)
    have HL : Hid (∀ j u, (m[k]).row[j]? = some u → wr.cell? ((⟨b, off + k * 34, none⟩ : Addr).add j) = some u) := fun j u hj => by
      rw [Addr.add_lit]
      exact (HB.out.cell (p := ⟨b, off + k * 34 + j, none⟩) hb).trans (hcell k _ (List.getElem?_eq_getElem hlt) j u hj)
    have HS : Hid ((m[k]).row.size = 34 ∧ (m[k]).row.all (·.oneCell') = true) := ⟨rfl, EvV.row_one _⟩
    have HX : Hid (evCells (l ++ m.take (k + 1)) = evCells (l ++ m.take k) ++ (m[k]).row.toList) := by
      show _ = _
      rw [List.take_succ_eq_append_getElem hlt, ← List.append_assoc, evCells_snoc]
    have HN : Hid (¬ (l ++ m.take (k + 1)) = []) := fun e => by
      have := congrArg List.length e
      simp only [List.length_append, List.length_take, List.length_nil] at this
      omega
    have hrow := HR.out.alloc (.cells (m[k]).row 46)
    have hown := HR.out.lt
    generalize hE1 : evCells (l ++ m.take (k + 1)) = E1 at *
    have HE1 := Lib.hid hE1
    clear hE1
    clear hcell HD1 HD2 HR HV HO1 HO2 HO3 HSm HAw HTn
    generalize evCells (l ++ m.take k) = E0 at *
    generalize (m[k]).row = R at *
    have HO := Lib.hid hown
    clear hown
    go_wp2_with (first
        | (refine wpList_load_cells rfl 46 _ rfl ⟨b, off + k * 34, none⟩ rfl R _ HL.out Try.underlying46 rfl (by rw [HS.out.1]; exact sizeEvent) ?_)
        | (refine wpList_buildSlice rfl 22 46 1 _ rfl R i0 _ Try.underlying22 hi hz0 (by rw [hz1]; decide) (by rw [hz1]; decide) (by rw [parts_one _ _ _ rfl, hz1]; exact fill_one31 R HS.out.1 _) ?_)
        | (at_builtin; refine wpList_append_own _ rfl _ _ 22 rfl w.heap.size 46 i0 (.agg (zeroE 0 0).row) 34 400 Try.underlying22 hi hz0 hz1 hz2 rfl (by decide) _ (l.length + k) _ rfl hrow ⟨wr.heap.size, 0, none⟩ 1 1 R.toList rfl (by rw [Array.length_toList, HS.out.1]) (row_news31 (Holds.new wr _ _)) (row_one31 HS.out.2) (by unfold maxLen; omega) (by omega) (by have := HB.out.size; rw [World.size_alloc]; omega) ?_; intro v' w3 hrow3 hgrow3 hiff; have HR3 := Lib.hid hrow3; have HG3 := Lib.hid hgrow3; clear hrow3 hgrow3 hiff))
    have B2 := Lib.hid ((HB.out.alloc HB.out.size (.cells R 46)).grown HG3.out (by have := HB.out.size; rw [World.size_alloc]; omega) (fun j hj => (HO.out j hj).1))
    go_roundw
    case rel => exact ⟨k + 1, by omega, by go_num, Lib.hid (by rw [HE1.out, HX.out]; exact HR3.out), Lib.hid (fun e => absurd e HN.out), B2⟩
    case measure => simp [intOf]; omega
  have hkl : k = m.length := by omega
  subst hkl
  have hEv : EventsAt wr u5 (l ++ m) := by
    have h1 := HR.out
    have h2 := HV.out
    rw [List.take_length] at h1 h2
    exact EventsAt.ofRow (by rw [List.length_append]; exact h1) h2
  have HE5 := Lib.hid (HO3.out wr u5 hl60 hm60 hEv)
  have HE1 := Lib.hid (fun W hb => HO1.out W hl60 hb)
  have HE2 := Lib.hid (fun W hb => HO2.out W hm60 hb)
  have HES := Lib.hid (HSm.out hl60 hm60)
  have hA : ∀ i, i ≠ 29 → cenC (l ++ m) i = cenC l i + cenC m i := fun i hi => cen_app37 l m hi
  have hS1 := cen_safe37 l m
  have HS2 : Hid (tk = false → cenC (l ++ m) 29 = cenC l 29 + cenC m 29) := fun e => cen_safe_same37 l m (by rw [← HTn.out]; exact e)
  have HSet : Hid ((cenRow (fun i => cenC l i + cenC m i)).setIfInBounds 29 (.int .i64 (cenC (l ++ m) 29)) = cenRow (cenC (l ++ m))) := by
    show _ = _
    rw [cenRow_set _ (by decide)]
    refine cenRow_congr fun i hi => ?_
    by_cases h : i = 29
    · rw [if_pos h, h]
    · rw [if_neg h, hA i h]
  have HGa : Hid ((cenRow (cenC (l ++ m)))[29]? = some (.int .i64 (cenC (l ++ m) 29)) ∧ (cenRow (fun i => cenC l i + cenC m i))[29]? = some (.int .i64 (cenC l 29 + cenC m 29))) := ⟨cenRow_get _ (by decide), cenRow_get _ (by decide)⟩
  have HSz : Hid (∀ c : Nat → Int, (Try.prog.info? 29).map (·.size) = some (cenRow c).size ∧ (cenRow c).size = 30 ∧ (cenRow c).all (·.oneCell') = true) := fun c => ⟨sizeCensus, rfl, cenRow_one _⟩
  have HSa := Lib.hid (HSz.out (cenC (l ++ m)))
  have HSs := Lib.hid (HSz.out (fun i => cenC l i + cenC m i))
  have heq : ∀ W, (Op.equalIn 10000 29 (.agg (cenRow (cenC (l ++ m)))) (.agg (cenRow (cenC (l ++ m))))).run Try.prog W = .ok true W := fun W => censusEq37 _ W
  have HEq := Lib.hid heq
  clear heq hA HO1 HO2 HO3 HSm HR HV hEv hlt HTn HSz hi hz0 hz1 hz2 HD1 HD2
  generalize cenC (l ++ m) 29 = sa at *
  generalize cenC l 29 + cenC m 29 = ss at *
  generalize cenRow (cenC (l ++ m)) = RA at *
  generalize cenRow (cenC l) = RL at *
  generalize cenRow (cenC m) = RM at *
  generalize cenRow (fun i => cenC l i + cenC m i) = RS at *
  go_upto_region 15 with (first
    | (go_at_call 8; (with_reducible refine HE5.out.mono ?_); rintro e w5 ⟨rfl, b5⟩; have B5 := Lib.hid (HB.out.trans (b5.mono HB.out.size)); clear b5)
    | (go_at_call 8; (with_reducible refine (HE1.out _ B5.out).mono ?_); rintro e w6 ⟨rfl, b6⟩; have B6 := Lib.hid (B5.out.trans (b6.mono B5.out.size)); clear b6)
    | (go_at_call 8; (with_reducible refine (HE2.out _ B6.out).mono ?_); rintro e w7 ⟨rfl, b7⟩; have B7 := Lib.hid (B6.out.trans (b7.mono B6.out.size)); clear b7)
    | (go_at_call 13; (with_reducible refine (HES.out _).mono ?_); rintro e w8 ⟨rfl, b8⟩; have B8 := Lib.hid (B7.out.trans (b8.mono B7.out.size)); clear b8)
    | (refine wpList_store_new2 rfl 29 _ _ rfl w8.heap.size _ RA 29 _ rfl rfl rfl (by exact HSa.out.1) (by rw [HSa.out.2.1]; rfl) HSa.out.2.2 ?_)
    | (refine wpList_store_new rfl 29 _ _ rfl (w8.heap.size + 1) _ RS 29 rfl rfl (by simp) (by exact HSs.out.1) (by rw [HSs.out.2.1]; rfl) HSs.out.2.2 ?_))
  have HB9 : Hid (Below w.heap.size w ((w8.alloc (.cells RA 29)).alloc (.cells RS 29))) := Lib.hid ((B8.out.alloc B8.out.size _).alloc (by have := B8.out.size; simp only [World.size_alloc]; omega) _)
  have HRA : Hid (Holds ((w8.alloc (.cells RA 29)).alloc (.cells RS 29)) w8.heap.size 29 RA) := Lib.hid ((Below.heap_alloc _ _ _ (by simp only [World.size_alloc]; omega)).trans (Holds.new w8 29 RA))
  have HRS : Hid (Holds ((w8.alloc (.cells RA 29)).alloc (.cells RS 29)) (w8.heap.size + 1) 29 RS) := by
    have := Holds.new (w8.alloc (.cells RA 29)) 29 RS
    rw [World.size_alloc] at this
    exact this
  have hge : w.heap.size ≤ w8.heap.size := B8.out.size
  clear B5 B6 B7 B8 HE5 HE1 HE2 HES HB
  generalize (w8.alloc (.cells RA 29)).alloc (.cells RS 29) = W9 at *
  generalize w8.heap.size = e1 at *
  have xa := (HRA.out.cell 29).trans HGa.out.1
  have xs := (HRS.out.cell 29).trans HGa.out.2
  have zs := HRS.out.frozen 29
  have q1 : decide (sa > ss) = false := decide_eq_false (by omega)
  try simp only [Act.put]
  go_upto_region 15 with fail
  go_cut [77] (fun u wx => u = .bool false ∧ wx = W9)
  case first =>
    clear HAw HRA HRS HSet HEq
    cases tk with
    | true =>
      clear HS2
      go_wp2_with fail
      go_meet
      case rel => exact ⟨rfl, rfl⟩
    | false =>
      have e := HS2.out rfl
      subst e
      go_wp2_with fail
      go_meet
      case rel => exact ⟨by first | rfl | simp, rfl⟩
  case rest =>
  obtain ⟨rfl, hw⟩ := hcut
  have hw := hw.symm
  subst hw
  have HW : Hid (Below w.heap.size w (W9.setCell ⟨e1 + 1, 29, none⟩ (.int .i64 sa)) ∧ Holds (W9.setCell ⟨e1 + 1, 29, none⟩ (.int .i64 sa)) e1 29 RA ∧ Holds (W9.setCell ⟨e1 + 1, 29, none⟩ (.int .i64 sa)) (e1 + 1) 29 RA) := by
    refine Lib.hid ⟨HB9.out.setCell (by show w.heap.size ≤ e1 + 1; omega) _, (Below.heap_setCell W9 ⟨e1 + 1, 29, none⟩ _ e1 (by show e1 ≠ e1 + 1; omega)).trans HRA.out, ?_⟩
    have := HRS.out.set 29 (.int .i64 sa)
    rw [HSet.out] at this
    exact this
  go_upto_region 18 with fail
  clear xa xs zs q1 HRA HRS HSet HS2 HGa HB9
  generalize W9.setCell ⟨e1 + 1, 29, none⟩ (.int .i64 sa) = W10 at *
  have heq := HEq.out
  have hgd := guardCensus
  have tok : Hid True := trivial
  have tok2 : Hid True := trivial
  go_wp2_with (first
    | (go_at_call 7; (with_reducible refine (HAw.out _).mono ?_); rintro e wB ⟨rfl, bB⟩; have BB := Lib.hid (HW.out.1.trans (bB.mono HW.out.1.size)); have HB1 : Hid (Holds wB e1 29 RA) := Lib.hid ((bB.block _ HW.out.2.1.lt).trans HW.out.2.1); have HB2 : Hid (Holds wB (e1 + 1) 29 RA) := Lib.hid ((bB.block _ HW.out.2.2.lt).trans HW.out.2.2); clear bB)
    | (clear tok; refine wpList_load_row_on rfl 29 _ rfl e1 rfl 29 RA (0, 0) _ (by exact HB1.out) Try.underlying29 rfl (by exact HSa.out.1) ?_)
    | (clear tok2; refine wpList_load_row_on rfl 29 _ rfl (e1 + 1) rfl 29 RA (0, 0) _ (by exact HB2.out) Try.underlying29 rfl (by exact HSa.out.1) ?_))
  go_ret
  exact ⟨rfl, BB.out⟩
end Go.Proofs.Ytjphlhehhigpjaa
