/- Layer 31: TrustStays. -/
import Derived.Test.YtfjbpaigbphbbaaEv7a
import Derived.Test.YtfjbpaigbphbbaaEv6a
namespace Go.Proofs.Ytfjbpaigbphbbaa
open Go.RowKit

theorem ahead_app (l m : List EvV) (z : Int) {k : Nat} (hk : k ≤ l.length) : aheadB (l ++ m) z k = aheadB l z k := by
  unfold aheadB
  rw [Int.toNat_natCast, List.take_append_of_le_length hk]
theorem safe_app (l m : List EvV) {k : Nat} (hk : k < l.length) : safeB (l ++ m) k = safeB l k := by
  unfold safeB
  rw [List.getElem?_append_left hk, List.getElem?_eq_getElem hk]
  simp only []
  rw [ahead_app l m _ (by omega)]
theorem good_app (l m : List EvV) (s : Int) (h : goodB l s l.length = true) : goodB (l ++ m) s (l ++ m).length = true := by
  rw [goodB_is] at h ⊢
  obtain ⟨k, hk, h1⟩ := List.any_eq_true.1 h
  have hkl := List.mem_range.1 hk
  refine List.any_eq_true.2 ⟨k, List.mem_range.2 (by rw [List.length_append]; omega), ?_⟩
  rw [safe_app l m hkl]
  rw [Bool.and_eq_true] at h1 ⊢
  refine ⟨h1.1, ?_⟩
  have h2 := h1.2
  rw [atSess_at hkl] at h2
  rw [atSess_at (by rw [List.length_append]; omega), List.getElem_append_left hkl]
  exact h2
set_option maxHeartbeats 4000000 in
set_option maxRecDepth 100000 in
theorem TrustStays_any {w : World} {v : Value} {l : List EvV} (h : EventsAt w v l) (hl : l.length ≤ maxLen) (ho : ∀ x ∈ l, ∀ u ∈ x.row.toList, CellOk u) {v2 : Value} {m : List EvV} (h2 : EventsAt w v2 m) (hl2 : m.length ≤ maxLen) (ho2 : ∀ x ∈ m, ∀ u ∈ x.row.toList, CellOk u) :
    Calls Try.prog 5 #[v, v2] w fun e w' => e = .returned (.bool true) ∧ Below w.heap.size w w' := by
  have HW : Hid (∀ W, Calls Try.prog 7 #[] W fun e w' => e = .returned (.bool true) ∧ Below W.heap.size W w') := fun W => awake31_any W
  have HE := Lib.hid h
  obtain ⟨ao, cap, rfl, hc⟩ := h
  obtain ⟨ao2, cap2, rfl, hc2⟩ := h2
  by_cases h60 : 60 < l.length
  · have q : decide ((l.length : Int) > 60) = true := decide_eq_true (by omega)
    unfold maxLen at hl hl2
    clear hc hc2 ho ho2 HE
    go_enter Try.func5, Try.ntmps5
    go_wp2_with (first
      | (go_at_call 7; (with_reducible refine (HW.out _).mono ?_); rintro e w1 ⟨rfl, b1⟩; have B1 := Lib.hid b1; clear b1))
    go_ret
    exact ⟨rfl, B1.out⟩
  have q : decide ((l.length : Int) > 60) = false := decide_eq_false (by omega)
  by_cases g60 : 60 < m.length
  · have q' : decide ((m.length : Int) > 60) = true := decide_eq_true (by omega)
    unfold maxLen at hl hl2
    clear hc hc2 ho ho2 HE
    go_enter Try.func5, Try.ntmps5
    go_wp2_with (first
      | (go_at_call 7; (with_reducible refine (HW.out _).mono ?_); rintro e w1 ⟨rfl, b1⟩; have B1 := Lib.hid b1; clear b1))
    go_ret
    exact ⟨rfl, B1.out⟩
  have q' : decide ((m.length : Int) > 60) = false := decide_eq_false (by omega)
  have HA1 := Lib.hid hc
  have HA2 := Lib.hid hc2
  have hl60 : l.length ≤ 60 := by omega
  have hm60 : m.length ≤ 60 := by omega
  have HFin : Hid (∀ (w2 : World) (v5 : Value), Below w.heap.size w w2 → EventsAt w2 v5 (l ++ m) →
      (∀ W k (hk : k < l.length), Below w2.heap.size w2 W → Calls Try.prog 10 #[.slice ao l.length cap, .int .i64 (k : Int)] W fun e w' => e = .returned (.bool (safeB l k)) ∧ Below W.heap.size W w') ∧
      (∀ W k (hk : k < l.length), Below w2.heap.size w2 W → Calls Try.prog 10 #[v5, .int .i64 (k : Int)] W fun e w' => e = .returned (.bool (safeB l k)) ∧ Below W.heap.size W w') ∧
      (∀ W s, Below w2.heap.size w2 W → Calls Try.prog 13 #[.slice ao l.length cap, .int .i64 s] W fun e w' => e = .returned (.bool (goodB l s l.length)) ∧ Below W.heap.size W w') ∧
      (∀ W s, Below w2.heap.size w2 W → goodB l s l.length = true → Calls Try.prog 13 #[v5, .int .i64 s] W fun e w' => e = .returned (.bool true) ∧ Below W.heap.size W w')) := fun w2 v5 hb hv => by
    have hE : ∀ W, Below w2.heap.size w2 W → EventsAt W (.slice ao l.length cap) l := fun W h => HE.out.below (hb.trans (h.mono hb.size))
    have hlen : (l ++ m).length ≤ 1000 := by rw [List.length_append]; omega
    refine ⟨fun W k hk h => ?_, fun W k hk h => ?_, fun W s h => good_any (hE W h) (by omega) ho s, fun W s h hg => ?_⟩
    · have := safe_any (hE W h) hl (k : Int)
      rw [safeI_nat hk] at this
      exact this
    · have := safe_any (hv.below h) (by unfold maxLen; omega) (k : Int)
      rw [safeI_nat (by rw [List.length_append]; omega), safe_app l m hk] at this
      exact this
    · have := good_any (hv.below h) hlen (fun x hx => (List.mem_append.1 hx).elim (ho x) (ho2 x)) s
      rw [good_app l m s hg] at this
      exact this
  obtain ⟨i0, hi, hz0, hz1, hz2⟩ := info_parts infoEv31
  unfold maxLen at hl hl2
  clear hc hc2 ho ho2 HE h60 g60
  go_enter Try.func5, Try.ntmps5
  go_wp2_with fail
  go_loopw [5, 6] (fun v i wr => ∃ k : Nat, k ≤ l.length ∧ i = .int .i64 k ∧ Hid (wr.ownsRow w.heap.size 38 34 v k (evCells (l.take k))) ∧ Hid (l.take k = [] → v = .slice none 0 0) ∧ Hid (Below w.heap.size w wr)) (fun _ i _ => l.length - (intOf i).toNat)
  case atStart => exact ⟨0, Nat.zero_le _, rfl, Lib.hid ⟨rfl, .inl ⟨rfl, rfl⟩⟩, Lib.hid fun _ => rfl, Lib.hid (Below.refl _ _)⟩
  case round =>
    obtain ⟨k, hk, rfl, HR, HV, HB⟩ := hrel
    by_cases hlt : k < l.length
    · obtain ⟨b, off, rfl, hb, hcell⟩ := HA1.out (by intro h; simp [h] at hlt)
      have HL : Hid (∀ j u, (l[k]).row[j]? = some u → wr.cell? ((⟨b, off + k * 34, none⟩ : Addr).add j) = some u) := fun j u hj => by
        rw [Addr.add_lit]
        exact (HB.out.cell (p := ⟨b, off + k * 34 + j, none⟩) hb).trans (hcell k _ (List.getElem?_eq_getElem hlt) j u hj)
      have HS : Hid ((l[k]).row.size = 34 ∧ (l[k]).row.all (·.oneCell') = true) := ⟨rfl, EvV.row_one _⟩
      have HX : Hid (evCells (l.take (k + 1)) = evCells (l.take k) ++ (l[k]).row.toList) := by
        show _ = _
        rw [List.take_succ_eq_append_getElem hlt, evCells_snoc]
      have HN : Hid (¬ l.take (k + 1) = []) := fun e => by
        have := congrArg List.length e
        simp only [List.length_append, List.length_take, List.length_nil] at this
        omega
      have hrow := HR.out.alloc (.cells (l[k]).row 38)
      have hown := HR.out.lt
      generalize hE1 : evCells (l.take (k + 1)) = E1 at *
      have HE1 := Lib.hid hE1
      clear hE1 hcell HA1 HA2 HR HV HFin
      generalize evCells (l.take k) = E0 at *
      generalize (l[k]).row = R at *
      have HO := Lib.hid hown
      clear hown
      go_wp2_with (first
        | (refine wpList_load_cells rfl 38 _ rfl ⟨b, off + k * 34, none⟩ rfl R _ HL.out Try.underlying38 rfl (by rw [HS.out.1]; exact sizeEvent) ?_)
        | (refine wpList_buildSlice rfl 22 38 1 _ rfl R i0 _ Try.underlying22 hi hz0 (by rw [hz1]; decide) (by rw [hz1]; decide) (by rw [parts_one _ _ _ rfl, hz1]; exact fill_one31 R HS.out.1 _) ?_)
        | (at_builtin; refine wpList_append_own _ rfl _ _ 22 rfl w.heap.size 38 i0 (.agg (zeroE 0 0).row) 34 400 Try.underlying22 hi hz0 hz1 hz2 rfl (by decide) _ k _ rfl hrow ⟨wr.heap.size, 0, none⟩ 1 1 R.toList rfl (by rw [Array.length_toList, HS.out.1]) (row_news31 (Holds.new wr _ _)) (row_one31 HS.out.2) (by unfold maxLen; omega) (by omega) (by have := HB.out.size; rw [World.size_alloc]; omega) ?_; intro v' w3 hrow3 hgrow3 hiff; have HR3 := Lib.hid hrow3; have HG3 := Lib.hid hgrow3; clear hrow3 hgrow3 hiff))
      have B2 := Lib.hid ((HB.out.alloc HB.out.size (.cells R 38)).grown HG3.out (by have := HB.out.size; rw [World.size_alloc]; omega) (fun j hj => (HO.out j hj).1))
      go_roundw
      case rel => exact ⟨k + 1, by omega, by go_num, Lib.hid (by rw [HE1.out, HX.out]; exact HR3.out), Lib.hid (fun e => absurd e HN.out), B2⟩
      case measure => simp [intOf]; omega
    · have hkl : k = l.length := by omega
      subst hkl
      have HR0 : Hid (wr.ownsRow w.heap.size 38 34 u5 (l.length + 0) (evCells (l ++ m.take 0))) := by
        have := HR.out
        rw [List.take_length] at this
        show World.ownsRow _ _ _ _ _ _ _
        rw [List.take_zero, List.append_nil]
        exact this
      have HV0 : Hid (l ++ m.take 0 = [] → u5 = .slice none 0 0) := fun e => HV.out (by rw [List.take_length]; simpa using e)
      have HB0 := HB
      clear HR HV hlt HB
      go_wp2_with fail
      go_loopw [5, 7] (fun v i wr => ∃ k : Nat, k ≤ m.length ∧ i = .int .i64 k ∧ Hid (wr.ownsRow w.heap.size 38 34 v (l.length + k) (evCells (l ++ m.take k))) ∧ Hid (l ++ m.take k = [] → v = .slice none 0 0) ∧ Hid (Below w.heap.size w wr)) (fun _ i _ => m.length - (intOf i).toNat)
      case atStart => exact ⟨0, Nat.zero_le _, rfl, HR0, HV0, HB0⟩
      case round =>
        obtain ⟨k, hk, rfl, HR, HV, HB⟩ := hrel
        clear HR0 HV0 HB0
        by_cases hlt : k < m.length
        · obtain ⟨b, off, rfl, hb, hcell⟩ := HA2.out (by intro h; simp [h] at hlt)
          have HL : Hid (∀ j u, (m[k]).row[j]? = some u → wr.cell? ((⟨b, off + k * 34, none⟩ : Addr).add j) = some u) := fun j u hj => by
            rw [Addr.add_lit]
            exact (HB.out.cell (p := ⟨b, off + k * 34 + j, none⟩) hb).trans (hcell k _ (List.getElem?_eq_getElem hlt) j u hj)
          have HS : Hid ((m[k]).row.size = 34 ∧ (m[k]).row.all (·.oneCell') = true) := ⟨rfl, EvV.row_one _⟩
          have HX : Hid (evCells (l ++ m.take (k + 1)) = evCells (l ++ m.take k) ++ (m[k]).row.toList) := by
            show _ = _
            rw [List.take_succ_eq_append_getElem hlt, ← List.append_assoc, evCells_snoc]
          have HN : Hid (¬ l ++ m.take (k + 1) = []) := fun e => by
            have := congrArg List.length e
            simp only [List.length_append, List.length_take, List.length_nil] at this
            omega
          have hrow := HR.out.alloc (.cells (m[k]).row 38)
          have hown := HR.out.lt
          generalize hE1 : evCells (l ++ m.take (k + 1)) = E1 at *
          have HE1 := Lib.hid hE1
          clear hE1 hcell HA1 HA2 HR HV HFin
          generalize evCells (l ++ m.take k) = E0 at *
          generalize (m[k]).row = R at *
          have HO := Lib.hid hown
          clear hown
          go_wp2_with (first
            | (refine wpList_load_cells rfl 38 _ rfl ⟨b, off + k * 34, none⟩ rfl R _ HL.out Try.underlying38 rfl (by rw [HS.out.1]; exact sizeEvent) ?_)
            | (refine wpList_buildSlice rfl 22 38 1 _ rfl R i0 _ Try.underlying22 hi hz0 (by rw [hz1]; decide) (by rw [hz1]; decide) (by rw [parts_one _ _ _ rfl, hz1]; exact fill_one31 R HS.out.1 _) ?_)
            | (at_builtin; refine wpList_append_own _ rfl _ _ 22 rfl w.heap.size 38 i0 (.agg (zeroE 0 0).row) 34 400 Try.underlying22 hi hz0 hz1 hz2 rfl (by decide) _ (l.length + k) _ rfl hrow ⟨wr.heap.size, 0, none⟩ 1 1 R.toList rfl (by rw [Array.length_toList, HS.out.1]) (row_news31 (Holds.new wr _ _)) (row_one31 HS.out.2) (by unfold maxLen; omega) (by omega) (by have := HB.out.size; rw [World.size_alloc]; omega) ?_; intro v' w3 hrow3 hgrow3 hiff; have HR3 := Lib.hid hrow3; have HG3 := Lib.hid hgrow3; clear hrow3 hgrow3 hiff))
          have B2 := Lib.hid ((HB.out.alloc HB.out.size (.cells R 38)).grown HG3.out (by have := HB.out.size; rw [World.size_alloc]; omega) (fun j hj => (HO.out j hj).1))
          go_roundw
          case rel => exact ⟨k + 1, by omega, by go_num, Lib.hid (by rw [HE1.out, HX.out]; exact HR3.out), Lib.hid (fun e => absurd e HN.out), B2⟩
          case measure => simp [intOf]; omega
        · have hkl : k = m.length := by omega
          subst hkl
          have hEv : EventsAt wr u5 (l ++ m) := by
            have h1 := HR.out
            have h2 := HV.out
            rw [List.take_length] at h1 h2
            exact EventsAt.ofRow (by rw [List.length_append]; exact h1) h2
          have HF := Lib.hid (HFin.out wr u5 HB.out hEv)
          have HLn : Hid (∃ a n c, u5 = .slice a n c) := by
            obtain ⟨a, c, e, _⟩ := hEv
            exact ⟨a, _, c, e⟩
          have HBm := HB
          clear HR HV hlt HB hEv HFin HA2 hi hz0 hz1 hz2
          go_wp2_with fail
          have hWr : ∃ x, wr = x := ⟨_, rfl⟩
          obtain ⟨W5, hW5⟩ := hWr
          rw [hW5] at HF HBm ⊢
          clear hW5
          clear wr
          go_loopw [8] (fun i wq => ∃ k : Nat, k ≤ l.length ∧ i = .int .i64 k ∧ Hid (Below W5.heap.size W5 wq)) (fun i _ => l.length - (intOf i).toNat)
          case atStart => exact ⟨0, Nat.zero_le _, rfl, Lib.hid (Below.refl _ _)⟩
          case round =>
            obtain ⟨k, hk, rfl, HQ⟩ := hrel
            obtain ⟨a5, n5, c5, rfl⟩ := HLn.out
            by_cases hlt : k < l.length
            · obtain ⟨b, off, rfl, hb, hcell⟩ := HA1.out (by intro h; simp [h] at hlt)
              have HCl : Hid (∀ W, Below W5.heap.size W5 W → W.cell? ⟨b, off + k * 34 + 1, none⟩ = some (.int .i64 (l[k]).se)) := fun W hB => ((HBm.out.trans (hB.mono HBm.out.size)).cell (p := ⟨b, off + k * 34 + 1, none⟩) hb).trans (hcell k _ (List.getElem?_eq_getElem hlt) 1 _ (EvV.row_se _))
              have H1 := Lib.hid (fun W h => HF.out.1 W k hlt h)
              have H2 := Lib.hid (fun W h => HF.out.2.1 W k hlt h)
              have H3 := Lib.hid (fun W h => HF.out.2.2.1 W (l[k]).se h)
              have H4 := Lib.hid (fun W h => HF.out.2.2.2 W (l[k]).se h)
              clear hcell HA1 HF hb HBm HLn
              generalize goodB l (l[k]).se l.length = g at *
              generalize safeB l k = s at *
              generalize (l[k]).se = se at *
              have qs : (s != s) = false := by cases s <;> rfl
              have qt : (s == s) = true := by cases s <;> rfl
              cases g with
              | false =>
                clear H4
                go_wp2_with (first
                  | (go_at_call 10; (with_reducible refine (H1.out _ HQ.out).mono ?_); rintro e w2 ⟨rfl, b2⟩; have B2 := Lib.hid (HQ.out.trans (b2.mono HQ.out.size)); clear b2)
                  | (go_at_call 10; (with_reducible refine (H2.out _ B2.out).mono ?_); rintro e w3 ⟨rfl, b3⟩; have B3 := Lib.hid (B2.out.trans (b3.mono B2.out.size)); clear b3; have k3 := HCl.out _ B3.out)
                  | (go_at_call 13; (with_reducible refine (H3.out _ B3.out).mono ?_); rintro e w4 ⟨rfl, b4⟩; have B4 := Lib.hid (B3.out.trans (b4.mono B3.out.size)); clear b4))
                go_roundw
                case rel => exact ⟨k + 1, by omega, by go_num, B4⟩
                case measure => simp [intOf]; omega
              | true =>
                have H5 := Lib.hid (fun W h => H4.out W h (by trivial))
                clear H4
                go_wp2_with (first
                  | (go_at_call 10; (with_reducible refine (H1.out _ HQ.out).mono ?_); rintro e w2 ⟨rfl, b2⟩; have B2 := Lib.hid (HQ.out.trans (b2.mono HQ.out.size)); clear b2)
                  | (go_at_call 10; (with_reducible refine (H2.out _ B2.out).mono ?_); rintro e w3 ⟨rfl, b3⟩; have B3 := Lib.hid (B2.out.trans (b3.mono B2.out.size)); clear b3; have k3 := HCl.out _ B3.out)
                  | (go_at_call 13; (with_reducible refine (H3.out _ B3.out).mono ?_); rintro e w4 ⟨rfl, b4⟩; have B4 := Lib.hid (B3.out.trans (b4.mono B3.out.size)); clear b4; have k4 := HCl.out _ B4.out)
                  | (go_at_call 13; (with_reducible refine (H5.out _ B4.out).mono ?_); rintro e w5 ⟨rfl, b5⟩; have B5 := Lib.hid (B4.out.trans (b5.mono B4.out.size)); clear b5))
                go_roundw
                case rel => exact ⟨k + 1, by omega, by go_num, B5⟩
                case measure => simp [intOf]; omega
            · have hkl : k = l.length := by omega
              subst hkl
              clear HA1 HF HLn hlt
              go_wp2_with (first
                | (go_at_call 7; (with_reducible refine (HW.out _).mono ?_); rintro e w6 ⟨rfl, b6⟩; have B6 := Lib.hid (HQ.out.trans (b6.mono HQ.out.size)); clear b6))
              go_ret
              exact ⟨rfl, HBm.out.trans (B6.out.mono HBm.out.size)⟩
end Go.Proofs.Ytfjbpaigbphbbaa
