/- Part 27 of what the statement wants. -/
import Derived.Deep.Cut
import Derived.Test.YtpkkeeblgbdfdaaDoorPk02
import Derived.Test.YtpkkeeblgbdfdaaDoorPk22
import Derived.Test.YtpkkeeblgbdfdaaDoorPk26
namespace Go.Proofs.YtpkkeeblgbdfdaaDoor
open Go.RowKit

set_option maxHeartbeats 8000000 in
set_option maxRecDepth 100000 in
theorem rsource_any {w : World} {v : Value} {l : List EvV} (h : EventsAt w v l) (hl : l.length ≤ 1000) {n : Nat} (hn : n < l.length) :
    Calls Tryd.prog 26 #[v, .int .i64 (n : Int)] w fun e w' => e = .returned (.int .i64 (idxP (srcB l[n]) (l.take n))) ∧ Below w.heap.size w w' := by
  obtain ⟨ao, cap, rfl, hc⟩ := h
  have HC := Lib.hid hc
  obtain ⟨b0, off0, hao, hb0, hcell0⟩ := hc (by intro h; simp [h] at hn)
  have HL5 : Hid (∀ j u, (l[n]).row[j]? = some u → w.cell? ((⟨b0, off0 + n * 34, none⟩ : Addr).add j) = some u) := fun j u hj => by
    rw [Addr.add_lit]
    exact hcell0 n _ (List.getElem?_eq_getElem hn) j u hj
  have HS5 : Hid ((l[n]).row.size = 34 ∧ (l[n]).row.all (·.oneCell') = true) := ⟨rfl, EvV.row_one _⟩
  have HX : Hid ((l[n]).row[0]? = some (.int .i64 (l[n]).ki) ∧ (l[n]).row[3]? = some (.int .i64 (l[n]).wh) ∧ (∀ j u, (l[n]).dn.row.toArray[j]? = some u → (l[n]).row[8 + j]? = some u)) := ⟨EvV.row_ki _, EvV.row_wh _, row_dn32 _⟩
  have HY : Hid (∀ k (hk : k < n), srcB l[n] (l[k]'(by omega)) = true → (∀ y ∈ l.take k, srcB l[n] y = false) → idxP (srcB l[n]) (l.take n) = k) := fun k hk h1 h0 => idxP_hit (by rw [List.length_take]; omega) (by rw [List.getElem_take]; exact h1) (by rw [List.take_take, Nat.min_eq_left (by omega)]; exact h0)
  have HN : Hid ((∀ y ∈ l.take n, srcB l[n] y = false) → idxP (srcB l[n]) (l.take n) = -1) := idxP_miss
  have HSa : Hid (∀ y W, Calls Tryd.prog 46 #[.agg y.row, .agg (l[n]).row] W fun e w' => e = .returned (.bool (sameB y l[n])) ∧ Below W.heap.size W w') := fun y W => rsame_any y l[n] W
  have HD5 : Hid ((l[n]).dn.row.toArray.size = 26) := rfl
  have HEa : Hid (∀ y : EvV, ∀ W, (Op.equalIn 10000 43 (.agg y.dn.row.toArray) (.agg (l[n]).dn.row.toArray)).run Tryd.prog W = .ok (decide (y.dn = (l[n]).dn)) W) := fun y => doneEq31 y.dn (l[n]).dn
  have HSB : Hid (∀ y, srcB l[n] y = (((l[n]).ki == 2 && (y.ki == 1 && (y.wh == (l[n]).wh && decide (y.dn = (l[n]).dn)))) || (((l[n]).ki == 4 && (y.ki == 3 && sameB y l[n])) || ((l[n]).ki == 5 && (y.ki == 4 && sameB y l[n]))))) := fun _ => rfl
  clear hc hcell0
  subst hao
  generalize idxP (srcB l[n]) (l.take n) = z at *
  generalize l[n] = x at *
  generalize hR5 : x.row = R5 at *
  have HR5 := Lib.hid hR5
  generalize hD0 : x.dn.row.toArray = D0 at *
  have HD0 := Lib.hid hD0
  clear hR5 hD0
  generalize hkx : x.ki = kx at *
  have HKx := Lib.hid hkx
  generalize hwx : x.wh = wx at *
  have HWx := Lib.hid hwx
  clear hkx hwx
  go_enter Tryd.func26, Tryd.ntmps26
  go_upto_region 2 with (first
    | (refine wpList_load_cells rfl 45 _ rfl ⟨b0, off0 + n * 34, none⟩ rfl R5 _ HL5.out Tryd.underlying45 rfl (by rw [HS5.out.1]; exact sizeEvent) ?_)
    | (refine wpList_store_new rfl 45 _ _ rfl w.heap.size _ R5 45 rfl rfl rfl (by rw [HS5.out.1]; exact sizeEvent) (by rw [HS5.out.1]; rfl) HS5.out.2 ?_))
  obtain ⟨E5, hE5⟩ : ∃ E5, Hid (E5 = w.heap.size) := ⟨_, Lib.hid rfl⟩
  have HO5 : Hid (Holds (w.alloc (.cells R5 45)) E5 45 R5) := by
    show Holds _ E5 _ _
    rw [hE5.out]; exact Holds.new w 45 R5
  have HB5 : Hid (Below w.heap.size w (w.alloc (.cells R5 45))) := Lib.hid ((Below.refl _ _).alloc (Nat.le_refl _) _)
  rw [← hE5.out]
  clear hE5 HL5
  generalize w.alloc (.cells R5 45) = W5 at *
  go_wp2_with fail
  go_loopw [6] (fun i wr => ∃ k : Nat, k ≤ n ∧ i = .int .i64 k ∧ Hid (∀ y ∈ l.take k, srcB x y = false) ∧ Hid (Below w.heap.size w wr) ∧ Hid (Holds wr E5 45 R5)) (fun i _ => n - (intOf i).toNat)
  case atStart => exact ⟨0, Nat.zero_le _, rfl, Lib.hid (by simp), HB5, HO5⟩
  case round =>
    obtain ⟨k, hk, rfl, HT, HB, HOw⟩ := hrel
    clear HB5 HO5
    by_cases hlt : k < n
    · have HLT := Lib.hid hlt
      have hkl : k < l.length := by omega
      obtain ⟨b, off, hbo, hb, hcell⟩ := HC.out (by intro h; simp [h] at hkl)
      simp only [Option.some.injEq, Addr.mk.injEq] at hbo
      obtain ⟨rfl, rfl, _⟩ := hbo
      have q0 : decide ((k : Int) < (n : Int)) = true := decide_eq_true (by omega)
      have HL : Hid (∀ j u, (l[k]).row[j]? = some u → wr.cell? ((⟨b0, off0 + k * 34, none⟩ : Addr).add j) = some u) := fun j u hj => by
        rw [Addr.add_lit]
        exact (HB.out.cell (p := ⟨b0, off0 + k * 34 + j, none⟩) hb).trans (hcell k _ (List.getElem?_eq_getElem hkl) j u hj)
      have HS : Hid ((l[k]).row.size = 34 ∧ (l[k]).row.all (·.oneCell') = true) := ⟨rfl, EvV.row_one _⟩
      have HKy : Hid ((l[k]).row[0]? = some (.int .i64 (l[k]).ki) ∧ (l[k]).row[3]? = some (.int .i64 (l[k]).wh) ∧ (∀ j u, (l[k]).dn.row.toArray[j]? = some u → (l[k]).row[8 + j]? = some u)) := ⟨EvV.row_ki _, EvV.row_wh _, row_dn32 _⟩
      have HYes : Hid (srcB x l[k] = true → z = k) := fun e => HY.out k hlt e HT.out
      have HNo : Hid (srcB x l[k] = false → ∀ y ∈ l.take (k + 1), srcB x y = false) := fun e => evTake hkl HT.out e
      have HSm := Lib.hid (HSa.out l[k])
      have HEq := Lib.hid (HEa.out l[k])
      have HSr := Lib.hid (HSB.out l[k])
      have HDs : Hid ((l[k]).dn.row.toArray.size = 26 ∧ D0.size = 26) := ⟨rfl, HD5.out⟩
      clear hcell HC hb HY HN HT HSa HEa HSB
      generalize srcB x l[k] = sr at *
      generalize sameB l[k] x = sm at *
      generalize decide ((l[k]).dn = x.dn) = de at *
      generalize (l[k]).dn.row.toArray = D at *
      generalize (l[k]).row = R at *
      generalize (l[k]).ki = ki at *
      generalize (l[k]).wh = wh at *
      go_upto_region 6 with (first
        | (refine wpList_load_cells rfl 45 _ rfl ⟨b0, off0 + k * 34, none⟩ rfl R _ HL.out Tryd.underlying45 rfl (by rw [HS.out.1]; exact sizeEvent) ?_)
        | (refine wpList_store_new rfl 45 _ _ rfl wr.heap.size _ R 45 rfl rfl rfl (by rw [HS.out.1]; exact sizeEvent) (by rw [HS.out.1]; rfl) HS.out.2 ?_))
      obtain ⟨E, hE⟩ : ∃ E, Hid (E = wr.heap.size) := ⟨_, Lib.hid rfl⟩
      have HB1 := Lib.hid (HB.out.alloc HB.out.size (.cells R 45))
      have HE0 : Hid (Holds (wr.alloc (.cells R 45)) E 45 R) := by
        show Holds _ E _ _
        rw [hE.out]; exact Holds.new wr 45 R
      have HO0 : Hid (Holds (wr.alloc (.cells R 45)) E5 45 R5) := Lib.hid ((heap_alloc_old _ _ HOw.out.lt).trans HOw.out)
      have c0 : (wr.alloc (.cells R 45)).cell? ⟨E, 0, none⟩ = some (.int .i64 ki) := (cell_heap HE0.out 0).trans HKy.out.1
      have c3 : (wr.alloc (.cells R 45)).cell? ⟨E, 3, none⟩ = some (.int .i64 wh) := (cell_heap HE0.out 3).trans HKy.out.2.1
      have d0 : (wr.alloc (.cells R 45)).cell? ⟨E5, 0, none⟩ = some (.int .i64 kx) := (cell_heap HO0.out 0).trans HX.out.1
      have d3 : (wr.alloc (.cells R 45)).cell? ⟨E5, 3, none⟩ = some (.int .i64 wx) := (cell_heap HO0.out 3).trans HX.out.2.1
      have HLa : Hid (∀ j u, D[j]? = some u → (wr.alloc (.cells R 45)).cell? ((⟨E, 8, none⟩ : Addr).add j) = some u) := fun j u hj => by
        rw [Addr.add_lit]
        exact (cell_heap HE0.out (8 + j)).trans (HKy.out.2.2 j u hj)
      have HLb : Hid (∀ j u, D0[j]? = some u → (wr.alloc (.cells R 45)).cell? ((⟨E5, 8, none⟩ : Addr).add j) = some u) := fun j u hj => by
        rw [Addr.add_lit]
        exact (cell_heap HO0.out (8 + j)).trans (HX.out.2.2 j u hj)
      rw [← hE.out]
      clear HL hE HB HOw HKy HX
      generalize wr.alloc (.cells R 45) = W at *
      by_cases x2 : kx = 2
      · subst x2
        by_cases e1 : ki = 1
        case neg =>
          have q1 : (ki == 1) = false := by rw [beq_eq_false_iff_ne]; exact e1
          clear e1
          have HF := Lib.hid (HNo.out (by rw [HSr.out, q1]; rfl))
          clear HYes HNo HSr
          go_wp2_with fail
          go_roundw
          case rel => exact ⟨k + 1, by have := HLT.out; omega, by go_num, HF, HB1, HO0⟩
          case measure => have := HLT.out; simp [intOf]; omega
        subst e1
        by_cases ew : wh = wx
        case neg =>
          have q2 : (wh == wx) = false := by rw [beq_eq_false_iff_ne]; exact ew
          clear ew
          have HF := Lib.hid (HNo.out (by rw [HSr.out, q2]; rfl))
          clear HYes HNo HSr
          go_wp2_with fail
          go_roundw
          case rel => exact ⟨k + 1, by have := HLT.out; omega, by go_num, HF, HB1, HO0⟩
          case measure => have := HLT.out; simp [intOf]; omega
        have q2 : (wh == wx) = true := by rw [ew]; exact beq_self_eq_true _
        cases de with
        | false =>
          have HF := Lib.hid (HNo.out (by rw [HSr.out, q2]; rfl))
          clear HYes HNo HSr
          go_wp2_with (first
            | (refine wpList_load_cells_on rfl 43 _ rfl ⟨E, 8, none⟩ rfl D _ HLa.out Tryd.underlying43 rfl (by rw [HDs.out.1]; exact sizeDone32) ?_)
            | (refine wpList_load_cells_on rfl 43 _ rfl ⟨E5, 8, none⟩ rfl D0 _ HLb.out Tryd.underlying43 rfl (by rw [HDs.out.2]; exact sizeDone32) ?_)
            | (refine wpList_eql_on rfl 43 _ _ _ rfl D D0 rfl rfl guardDone32 _ HEq.out ?_))
          go_roundw
          case rel => exact ⟨k + 1, by have := HLT.out; omega, by go_num, HF, HB1, HO0⟩
          case measure => have := HLT.out; simp [intOf]; omega
        | true =>
          have HF := Lib.hid (HYes.out (by rw [HSr.out, q2]; rfl))
          clear HYes HNo HSr
          go_wp2_with (first
            | (refine wpList_load_cells_on rfl 43 _ rfl ⟨E, 8, none⟩ rfl D _ HLa.out Tryd.underlying43 rfl (by rw [HDs.out.1]; exact sizeDone32) ?_)
            | (refine wpList_load_cells_on rfl 43 _ rfl ⟨E5, 8, none⟩ rfl D0 _ HLb.out Tryd.underlying43 rfl (by rw [HDs.out.2]; exact sizeDone32) ?_)
            | (refine wpList_eql_on rfl 43 _ _ _ rfl D D0 rfl rfl guardDone32 _ HEq.out ?_))
          go_ret
          exact ⟨by rw [HF.out]; rfl, HB1.out⟩
      have y2 : (kx == 2) = false := by rw [beq_eq_false_iff_ne]; exact x2
      by_cases x4 : kx = 4
      · subst x4
        by_cases e1 : ki = 3
        case neg =>
          have q1 : (ki == 3) = false := by rw [beq_eq_false_iff_ne]; exact e1
          clear e1
          have HF := Lib.hid (HNo.out (by rw [HSr.out, q1]; rfl))
          clear HYes HNo HSr
          go_wp2_with fail
          go_roundw
          case rel => exact ⟨k + 1, by have := HLT.out; omega, by go_num, HF, HB1, HO0⟩
          case measure => have := HLT.out; simp [intOf]; omega
        subst e1
        cases sm with
        | false =>
          have HF := Lib.hid (HNo.out (by rw [HSr.out]; rfl))
          clear HYes HNo HSr
          go_wp2_with (first
            | (refine wpList_load_row_on rfl 45 _ rfl E rfl 45 R (0, 0) _ (by exact HE0.out) Tryd.underlying45 rfl (by rw [HS.out.1]; exact sizeEvent) ?_)
            | (refine wpList_load_row_on rfl 45 _ rfl E5 rfl 45 R5 (0, 0) _ (by exact HO0.out) Tryd.underlying45 rfl (by rw [HS5.out.1]; exact sizeEvent) ?_)
            | (go_at_call 46; (with_reducible refine (HSm.out _).mono ?_); rintro e w2 ⟨rfl, b2⟩; have B2 := Lib.hid b2; clear b2; have f0 := (B2.out.cell (p := ⟨E5, 0, none⟩) HO0.out.lt).trans d0))
          go_roundw
          case rel => exact ⟨k + 1, by have := HLT.out; omega, by go_num, HF, Lib.hid (HB1.out.trans (B2.out.mono HB1.out.size)), Lib.hid ((B2.out.block _ HO0.out.lt).trans HO0.out)⟩
          case measure => have := HLT.out; simp [intOf]; omega
        | true =>
          have HF := Lib.hid (HYes.out (by rw [HSr.out]; rfl))
          clear HYes HNo HSr
          go_wp2_with (first
            | (refine wpList_load_row_on rfl 45 _ rfl E rfl 45 R (0, 0) _ (by exact HE0.out) Tryd.underlying45 rfl (by rw [HS.out.1]; exact sizeEvent) ?_)
            | (refine wpList_load_row_on rfl 45 _ rfl E5 rfl 45 R5 (0, 0) _ (by exact HO0.out) Tryd.underlying45 rfl (by rw [HS5.out.1]; exact sizeEvent) ?_)
            | (go_at_call 46; (with_reducible refine (HSm.out _).mono ?_); rintro e w2 ⟨rfl, b2⟩; have B2 := Lib.hid b2; clear b2; have f0 := (B2.out.cell (p := ⟨E5, 0, none⟩) HO0.out.lt).trans d0))
          go_ret
          exact ⟨by rw [HF.out]; rfl, HB1.out.trans (B2.out.mono HB1.out.size)⟩
      have y4 : (kx == 4) = false := by rw [beq_eq_false_iff_ne]; exact x4
      by_cases x5 : kx = 5
      · subst x5
        by_cases e1 : ki = 4
        case neg =>
          have q1 : (ki == 4) = false := by rw [beq_eq_false_iff_ne]; exact e1
          clear e1
          have HF := Lib.hid (HNo.out (by rw [HSr.out, q1]; rfl))
          clear HYes HNo HSr
          go_wp2_with fail
          go_roundw
          case rel => exact ⟨k + 1, by have := HLT.out; omega, by go_num, HF, HB1, HO0⟩
          case measure => have := HLT.out; simp [intOf]; omega
        subst e1
        cases sm with
        | false =>
          have HF := Lib.hid (HNo.out (by rw [HSr.out]; rfl))
          clear HYes HNo HSr
          go_wp2_with (first
            | (refine wpList_load_row_on rfl 45 _ rfl E rfl 45 R (0, 0) _ (by exact HE0.out) Tryd.underlying45 rfl (by rw [HS.out.1]; exact sizeEvent) ?_)
            | (refine wpList_load_row_on rfl 45 _ rfl E5 rfl 45 R5 (0, 0) _ (by exact HO0.out) Tryd.underlying45 rfl (by rw [HS5.out.1]; exact sizeEvent) ?_)
            | (go_at_call 46; (with_reducible refine (HSm.out _).mono ?_); rintro e w2 ⟨rfl, b2⟩; have B2 := Lib.hid b2; clear b2; have f0 := (B2.out.cell (p := ⟨E5, 0, none⟩) HO0.out.lt).trans d0))
          go_roundw
          case rel => exact ⟨k + 1, by have := HLT.out; omega, by go_num, HF, Lib.hid (HB1.out.trans (B2.out.mono HB1.out.size)), Lib.hid ((B2.out.block _ HO0.out.lt).trans HO0.out)⟩
          case measure => have := HLT.out; simp [intOf]; omega
        | true =>
          have HF := Lib.hid (HYes.out (by rw [HSr.out]; rfl))
          clear HYes HNo HSr
          go_wp2_with (first
            | (refine wpList_load_row_on rfl 45 _ rfl E rfl 45 R (0, 0) _ (by exact HE0.out) Tryd.underlying45 rfl (by rw [HS.out.1]; exact sizeEvent) ?_)
            | (refine wpList_load_row_on rfl 45 _ rfl E5 rfl 45 R5 (0, 0) _ (by exact HO0.out) Tryd.underlying45 rfl (by rw [HS5.out.1]; exact sizeEvent) ?_)
            | (go_at_call 46; (with_reducible refine (HSm.out _).mono ?_); rintro e w2 ⟨rfl, b2⟩; have B2 := Lib.hid b2; clear b2; have f0 := (B2.out.cell (p := ⟨E5, 0, none⟩) HO0.out.lt).trans d0))
          go_ret
          exact ⟨by rw [HF.out]; rfl, HB1.out.trans (B2.out.mono HB1.out.size)⟩
      have y5 : (kx == 5) = false := by rw [beq_eq_false_iff_ne]; exact x5
      clear x2 x4 x5
      have HF := Lib.hid (HNo.out (by rw [HSr.out, y2, y4, y5]; rfl))
      clear HYes HNo HSr
      go_wp2_with fail
      go_roundw
      case rel => exact ⟨k + 1, by have := HLT.out; omega, by go_num, HF, HB1, HO0⟩
      case measure => have := HLT.out; simp [intOf]; omega
    · have hkl : k = n := by omega
      subst hkl
      have HF := Lib.hid (HN.out HT.out)
      clear hlt HC HT HN HY HSa HEa HSB
      go_wp2_with fail
      go_ret
      exact ⟨by rw [HF.out]; rfl, HB.out⟩
end Go.Proofs.YtpkkeeblgbdfdaaDoor
