/- Layer 37: the law CensusChecks. -/
import Derived.Test.YtjphlhehhigpjaaDoorCeK
import Derived.Test.YtjphlhehhigpjaaDoorCe7
import Derived.Test.YtjphlhehhigpjaaDoorWr2
import Derived.Laws.AppendOwn
import Derived.Laws.OwnMore
namespace Go.Proofs.YtjphlhehhigpjaaDoor
open Go.RowKit

/-- All numbers of a census, as the law lists them. -/
def allL (c : Nat → Int) (n : Nat) : List Int := [c 28, c 29] ++ (List.range n).map c
theorem allL_succ (c : Nat → Int) (n : Nat) : allL c (n + 1) = allL c n ++ [c n] := by
  unfold allL
  rw [List.range_succ, List.map_append, List.append_assoc]
  rfl
theorem allL_len (c : Nat → Int) (n : Nat) : (allL c n).length = 2 + n := by unfold allL; simp; omega
theorem allL_mem {c : Nat → Int} {i : Nat} (h : i < 30) : c i ∈ allL c 28 := by
  unfold allL
  by_cases h1 : i < 28
  · exact List.mem_append_right _ (List.mem_map.2 ⟨i, List.mem_range.2 h1, rfl⟩)
  · refine List.mem_append_left _ ?_
    have : i = 28 ∨ i = 29 := by omega
    rcases this with rfl | rfl <;> simp
def atCensus (S : ByteArray) : ByteArray := ⟨#[99, 101, 110, 115, 117, 115, 32]⟩ ++ S ++ ⟨#[32]⟩
theorem atCensus_is (S : ByteArray) : atP [censusS, S] = atCensus S := by
  unfold atP atCensus
  simp only [List.foldl_cons, List.foldl_nil]
  rw [show (⟨#[]⟩ : ByteArray) ++ censusS ++ ⟨#[32]⟩ = ⟨#[99, 101, 110, 115, 117, 115, 32]⟩ from by decide +kernel]
theorem empty37 {b : ByteArray} (h : b.size ≠ 0) : b.toList.isEmpty = false := by
  rw [ByteArray.toList_eq]
  cases hb : b.data.toList with
  | nil =>
    refine absurd ?_ h
    have : b.data.size = 0 := by rw [← Array.length_toList, hb]; rfl
    exact this
  | cons a l => rfl
theorem chkW_small (c : Nat → Int) : (chkW c).size ≤ 10 := by
  unfold chkW
  repeat' split
  all_goals decide
/-- While the law lists the numbers: the census, the list. -/
structure AllSt (w : World) (R : Array Value) (c : Nat → Int) (W : World) (v : Value) (n : Nat) : Prop where
  below : Below w.heap.size w W
  box : Holds W w.heap.size 35 R
  row : W.ownsRow (w.heap.size + 1) 3 1 v (2 + n) (intCells (allL c n))
set_option maxHeartbeats 8000000 in
set_option maxRecDepth 100000 in
theorem CensusChecks_any {w : World} (hty : TypeOfError w) (c : Nat → Int) :
    Calls Tryd.prog 4 #[.agg (cenRow c)] w fun e w' => e = .returned (.bool true) ∧ Below w.heap.size w w' := by
  obtain ⟨i0, hi, hz0, hz1, hz2⟩ := info_parts infoInt31
  have HAw : Hid (∀ W, Calls Tryd.prog 6 #[] W fun e w' => e = .returned (.bool true) ∧ Below W.heap.size W w') := fun W => awake37_any W
  have HGet : Hid (∀ W, Holds W w.heap.size 35 (cenRow c) → ∀ i, i < 30 → W.cell? ⟨w.heap.size, i, none⟩ = some (.int .i64 (c i))) := fun W h i hi => (h.cell i).trans (cenRow_get c hi)
  have HSz : Hid ((Tryd.prog.info? 35).map (·.size) = some (cenRow c).size) := sizeCensus4
  have HChk : Hid ((∀ i, i < 30 → -1099511627776 ≤ c i ∧ c i ≤ 1099511627776) → ∀ W, Calls Tryd.prog 12 #[.agg (cenRow c)] W fun e w' => ∃ v', e = .returned v' ∧ ((chkW c = ⟨#[]⟩ ∧ v' = .nilIface) ∨ ((chkW c).size ≠ 0 ∧ ∃ t u, v' = .iface t u ∧ ErrAt w' (.iface t u) [censusS, chkW c] (some 14))) ∧ Below W.heap.size W w') := fun hc W => cnCheck_any W c hc
  have HRef : Hid ((∀ i, i < 30 → -1099511627776 ≤ c i ∧ c i ≤ 1099511627776) → ∀ W, Calls Tryd.prog 13 #[.agg (cenRow c)] W fun e w' => e = .returned (.string (chkW c)) ∧ Below W.heap.size W w') := fun hc W => r37Check_any W c hc
  have HSm := chkW_small c
  have HWg : Hid (∀ (W : World) (t : TypeId) (u : Value), Below w.heap.size w W → ErrAt W (.iface t u) [censusS, chkW c] (some 14) → Calls Tryd.prog 14 #[.iface t u, .agg #[.int .i64 14, .string (⟨#[99, 101, 110, 115, 117, 115, 32]⟩ ++ chkW c ++ ⟨#[32]⟩)]] W fun r w' => r = .returned (.bool true) ∧ Below W.heap.size W w') := fun W t u hb he => by
    have := wrong_any (hty.later hb) he (by simp) (fun x hx => by
      simp only [List.mem_cons, List.not_mem_nil, or_false] at hx
      rcases hx with rfl | rfl
      · decide
      · omega)
    rw [atCensus_is] at this
    exact this
  have HA : Hid (Holds (w.alloc (.cells (cenRow c) 35)) w.heap.size 35 (cenRow c)) := Lib.hid (Holds.new w _ _)
  have HB : Hid (Below w.heap.size w (w.alloc (.cells (cenRow c) 35))) := Lib.hid ((Below.refl _ _).alloc (Nat.le_refl _) _)
  have hWs : (w.alloc (.cells (cenRow c) 35)).heap.size = w.heap.size + 1 := by simp
  generalize cenRow c = R at *
  generalize chkW c = ww at *
  go_enter Tryd.func4, Tryd.ntmps4
  go_upto_region 1 with fail
  generalize w.alloc (.cells R 35) = W at *
  have x28 := HGet.out _ HA.out 28 (by decide)
  have x29 := HGet.out _ HA.out 29 (by decide)
  have HSt : Hid (AllSt w R c (W.alloc (.cells #[.int .i64 (c 28), .int .i64 (c 29)] 3)) (.slice (some ⟨w.heap.size + 1, 0, none⟩) 2 2) 0) := by
    refine Lib.hid ⟨HB.out.alloc HB.out.size _, (Below.heap_alloc _ _ _ HA.out.lt).trans HA.out, ⟨by simp [intCells, allL], .inr ⟨w.heap.size + 1, 2, _, rfl, by omega, by rw [← hWs]; exact heap_alloc_new W _, by omega, by unfold maxLen; omega, rfl, rfl⟩⟩⟩
  have HGo : Hid (∀ (wr w3 : World) (v v' : Value) (n : Nat), AllSt w R c wr v n → w3.ownsRow (w.heap.size + 1) 3 1 v' (2 + n + 1) (intCells (allL c n) ++ [.int .i64 (c n)]) → (wr.alloc (.cells #[.int .i64 (c n)] 3)).grownBy w3 v.ownBlock → AllSt w R c w3 v' (n + 1)) := fun wr w3 v v' n hs hr hg => by
    have b2 : Below w.heap.size w (wr.alloc (.cells #[.int .i64 (c n)] 3)) := hs.below.alloc hs.below.size _
    refine ⟨b2.grown hg b2.size (fun j hj => by have := (hs.row.lt j hj).1; omega), ?_, ?_⟩
    · refine (hg.block _ (by rw [World.size_alloc]; have := hs.box.lt; omega) (fun e => by have := (hs.row.lt _ e.symm).1; omega)).trans ?_
      exact (Below.heap_alloc _ _ _ hs.box.lt).trans hs.box
    · rw [allL_succ, intCells_snoc]
      exact hr
  go_upto_region 2 with fail
  clear HA HB x28 x29 hWs
  generalize W.alloc (.cells #[.int .i64 (c 28), .int .i64 (c 29)] 3) = W2 at *
  go_wp2_with fail
  go_loopw [3, 4] (fun v i wr => ∃ k : Nat, k ≤ 8 ∧ i = .int .i64 k ∧ Hid (AllSt w R c wr v (k))) (fun _ i _ => 8 - (intOf i).toNat)
  case atStart => exact ⟨0, Nat.zero_le _, rfl, HSt⟩
  case round =>
  obtain ⟨k, hk, rfl, HS⟩ := hrel
  clear HSt
  by_cases hlt : k < 8
  · have q0 : decide ((k : Int) < 8) = true := decide_eq_true (by omega)
    have hkn : (k : Int) < (8 : Int) := by omega
    have x0 := HGet.out _ HS.out.box (k) (by omega)
    have HBw : Hid (w.heap.size + 1 ≤ wr.heap.size) := HS.out.box.lt
    have HG := Lib.hid (fun w3 v' hr hg => HGo.out wr w3 _ v' (k) HS.out hr hg)
    have hrow := HS.out.row.alloc (.cells #[.int .i64 (c (k))] 3)
    clear HGet HAw HSz HChk HRef HWg HGo
    generalize c (k) = x at *
    go_wp2_with (first | (at_builtin; refine wpList_append_own _ rfl _ _ 36 rfl (w.heap.size + 1) 3 i0 (.int .i64 0) 1 8 Tryd.underlying36 hi hz0 hz1 hz2 rfl (by decide) _ (2 + (k)) _ rfl hrow ⟨wr.heap.size, 0, none⟩ 1 1 [.int .i64 x] rfl rfl (int_news31 (Holds.new wr _ _)) (int_one31 _) (by unfold maxLen; omega) (by omega) (by have := HBw.out; rw [World.size_alloc]; omega) ?_; intro v' w3 hrow3 hgrow3 hiff; have HR3 := Lib.hid hrow3; have HG3 := Lib.hid hgrow3; clear hrow3 hgrow3 hiff))
    go_roundw
    case rel => exact ⟨k + 1, by omega, by go_num, Lib.hid (HG.out _ _ HR3.out HG3.out)⟩
    case measure => simp [intOf]; omega
  have hke : k = 8 := by omega
  have hki : (k : Int) = 8 := by omega
  rw [hki]
  rw [hke] at HS
  have HS8 : Hid (AllSt w R c wr _ 8) := HS
  clear hki hke hlt hk HS
  go_wp2_with fail
  go_loopw [3, 5] (fun v i wr => ∃ k : Nat, k ≤ 16 ∧ i = .int .i64 k ∧ Hid (AllSt w R c wr v (8 + k))) (fun _ i _ => 16 - (intOf i).toNat)
  case atStart => exact ⟨0, Nat.zero_le _, rfl, HS8⟩
  case round =>
  obtain ⟨k, hk, rfl, HS⟩ := hrel
  clear HS8
  by_cases hlt : k < 16
  · have q0 : decide ((k : Int) < 16) = true := decide_eq_true (by omega)
    have hkn : (k : Int) < (16 : Int) := by omega
    have x0 := HGet.out _ HS.out.box (8 + k) (by omega)
    have HBw : Hid (w.heap.size + 1 ≤ wr.heap.size) := HS.out.box.lt
    have HG := Lib.hid (fun w3 v' hr hg => HGo.out wr w3 _ v' (8 + k) HS.out hr hg)
    have hrow := HS.out.row.alloc (.cells #[.int .i64 (c (8 + k))] 3)
    clear HGet HAw HSz HChk HRef HWg HGo
    generalize c (8 + k) = x at *
    go_wp2_with (first | (at_builtin; refine wpList_append_own _ rfl _ _ 36 rfl (w.heap.size + 1) 3 i0 (.int .i64 0) 1 8 Tryd.underlying36 hi hz0 hz1 hz2 rfl (by decide) _ (2 + (8 + k)) _ rfl hrow ⟨wr.heap.size, 0, none⟩ 1 1 [.int .i64 x] rfl rfl (int_news31 (Holds.new wr _ _)) (int_one31 _) (by unfold maxLen; omega) (by omega) (by have := HBw.out; rw [World.size_alloc]; omega) ?_; intro v' w3 hrow3 hgrow3 hiff; have HR3 := Lib.hid hrow3; have HG3 := Lib.hid hgrow3; clear hrow3 hgrow3 hiff))
    go_roundw
    case rel => exact ⟨k + 1, by omega, by go_num, Lib.hid (HG.out _ _ HR3.out HG3.out)⟩
    case measure => simp [intOf]; omega
  have hke : k = 16 := by omega
  have hki : (k : Int) = 16 := by omega
  rw [hki]
  rw [hke] at HS
  have HS24 : Hid (AllSt w R c wr _ 24) := HS
  clear hki hke hlt hk HS
  go_wp2_with fail
  go_loopw [3, 6] (fun v i wr => ∃ k : Nat, k ≤ 4 ∧ i = .int .i64 k ∧ Hid (AllSt w R c wr v (24 + k))) (fun _ i _ => 4 - (intOf i).toNat)
  case atStart => exact ⟨0, Nat.zero_le _, rfl, HS24⟩
  case round =>
  obtain ⟨k, hk, rfl, HS⟩ := hrel
  clear HS24
  by_cases hlt : k < 4
  · have q0 : decide ((k : Int) < 4) = true := decide_eq_true (by omega)
    have hkn : (k : Int) < (4 : Int) := by omega
    have x0 := HGet.out _ HS.out.box (24 + k) (by omega)
    have HBw : Hid (w.heap.size + 1 ≤ wr.heap.size) := HS.out.box.lt
    have HG := Lib.hid (fun w3 v' hr hg => HGo.out wr w3 _ v' (24 + k) HS.out hr hg)
    have hrow := HS.out.row.alloc (.cells #[.int .i64 (c (24 + k))] 3)
    clear HGet HAw HSz HChk HRef HWg HGo
    generalize c (24 + k) = x at *
    go_wp2_with (first | (at_builtin; refine wpList_append_own _ rfl _ _ 36 rfl (w.heap.size + 1) 3 i0 (.int .i64 0) 1 8 Tryd.underlying36 hi hz0 hz1 hz2 rfl (by decide) _ (2 + (24 + k)) _ rfl hrow ⟨wr.heap.size, 0, none⟩ 1 1 [.int .i64 x] rfl rfl (int_news31 (Holds.new wr _ _)) (int_one31 _) (by unfold maxLen; omega) (by omega) (by have := HBw.out; rw [World.size_alloc]; omega) ?_; intro v' w3 hrow3 hgrow3 hiff; have HR3 := Lib.hid hrow3; have HG3 := Lib.hid hgrow3; clear hrow3 hgrow3 hiff))
    go_roundw
    case rel => exact ⟨k + 1, by omega, by go_num, Lib.hid (HG.out _ _ HR3.out HG3.out)⟩
    case measure => simp [intOf]; omega
  have hke : k = 4 := by omega
  have hki : (k : Int) = 4 := by omega
  rw [hki]
  rw [hke] at HS
  have HS28 : Hid (AllSt w R c wr _ 28) := HS
  clear hki hke hlt hk HS
  clear HGo
  have hI : IdsAt wr _ (allL c 28) := IntsAt.ofRow (by rw [allL_len]; exact HS28.out.row) (fun e => by have := allL_len c 28; rw [e] at this; simp at this)
  have HBx := Lib.hid HS28.out.box
  have HBl := Lib.hid HS28.out.below
  have hL := allL_len c 28
  have HMem : Hid ((∀ j (hj : j < (allL c 28).length), -1099511627776 ≤ (allL c 28)[j] ∧ (allL c 28)[j] ≤ 1099511627776) → ∀ i, i < 30 → -1099511627776 ≤ c i ∧ c i ≤ 1099511627776) := fun hh i hi => by
    obtain ⟨j, hj, e⟩ := List.getElem_of_mem (allL_mem (c := c) hi)
    rw [← e]; exact hh j hj
  clear HS28 HGet
  obtain ⟨ao, cap, hv, hcell⟩ := hI
  subst hv
  have HCell := Lib.hid hcell
  clear hcell
  generalize allL c 28 = L at *
  go_wp2_with fail
  go_loopw [7] (fun i wx => ∃ k : Nat, k ≤ L.length ∧ i = .int .i64 k ∧ Hid (∀ j (hj : j < L.length), j < k → -1099511627776 ≤ L[j] ∧ L[j] ≤ 1099511627776) ∧ wx = wr) (fun i _ => L.length - (intOf i).toNat)
  case atStart => exact ⟨0, Nat.zero_le _, rfl, Lib.hid (fun j _ h => absurd h (Nat.not_lt_zero j)), rfl⟩
  case round =>
  obtain ⟨k, hk, rfl, HT, hwr⟩ := hrel
  subst hwr
  by_cases hlt : k < L.length
  · have q0 : (k : Int) < (L.length : Int) := by omega
    obtain ⟨b, off, rfl, hb, hcell⟩ := HCell.out (by rintro rfl; simp at hlt)
    have c0 := hcell k _ (List.getElem?_eq_getElem hlt)
    have HTn : Hid ((-1099511627776 ≤ L[k] ∧ L[k] ≤ 1099511627776) → ∀ j (hj : j < L.length), j < k + 1 → -1099511627776 ≤ L[j] ∧ L[j] ≤ 1099511627776) := fun hn j hj h => by
      rcases Nat.lt_or_eq_of_le (Nat.le_of_lt_succ h) with h' | rfl
      · exact HT.out j hj h'
      · exact hn
    clear hcell HCell HT HSz HChk HRef HWg HMem HBx
    generalize L[k] = x at *
    by_cases h1 : x > 1099511627776
    · have q1 : decide (x > 1099511627776) = true := decide_eq_true h1
      clear HTn h1
      go_wp2_with (first | (go_at_call 6; (with_reducible refine (HAw.out _).mono ?_); rintro e w2 ⟨rfl, b2⟩; have B2 := Lib.hid (HBl.out.trans (b2.mono HBl.out.size)); clear b2))
      go_ret
      exact ⟨rfl, B2.out⟩
    have q1 : decide (x > 1099511627776) = false := decide_eq_false h1
    by_cases h2 : x < -1099511627776
    · have q2 : decide (x < -1099511627776) = true := decide_eq_true h2
      clear HTn h1 h2
      go_wp2_with (first | (go_at_call 6; (with_reducible refine (HAw.out _).mono ?_); rintro e w2 ⟨rfl, b2⟩; have B2 := Lib.hid (HBl.out.trans (b2.mono HBl.out.size)); clear b2))
      go_ret
      exact ⟨rfl, B2.out⟩
    have q2 : decide (x < -1099511627776) = false := decide_eq_false h2
    have HZ := Lib.hid (HTn.out (by omega))
    clear HTn h1 h2 HAw
    go_wp2_with fail
    go_roundw
    case rel => exact ⟨k + 1, by omega, by go_num, HZ, trivial⟩
    case measure => simp [intOf]; omega
  have hkl : k = L.length := by omega
  have hc := HMem.out (fun j hj => HT.out j hj (by omega))
  subst hkl
  have HC1 := Lib.hid (HChk.out hc)
  have HC2 := Lib.hid (HRef.out hc)
  clear HT HMem hlt HCell HChk HRef hc
  by_cases hz : ww.size = 0
  · have HOk : Hid (∀ W, Calls Tryd.prog 12 #[.agg R] W fun e w' => e = .returned .nilIface ∧ Below W.heap.size W w') := fun W => (HC1.out W).mono fun e w' ⟨v', h1, h2, h3⟩ => by
      rcases h2 with ⟨_, h⟩ | ⟨h, _⟩
      · exact ⟨by rw [h1, h], h3⟩
      · exact absurd hz h
    have e : ww = ⟨#[]⟩ := by
      cases ww with
      | mk d => congr; exact Array.eq_empty_of_size_eq_zero hz
    subst e
    clear HC1 HWg hz
    have tok : Hid True := trivial
    go_wp2_with (first
      | (clear tok; refine wpList_load_row rfl 35 _ rfl w.heap.size rfl 35 R (0, 0) _ (by exact HBx.out) Tryd.underlying35 rfl (by exact HSz.out) ?_)
      | (go_at_call 12; (with_reducible refine (HOk.out _).mono ?_); rintro e w3 ⟨rfl, b3⟩; have B3 := Lib.hid (HBl.out.trans (b3.mono HBl.out.size)); have HBx3 : Hid (Holds w3 w.heap.size 35 R) := Lib.hid ((b3.block _ HBx.out.lt).trans HBx.out); clear b3; have tok3 : Hid True := trivial)
      | (clear tok3; refine wpList_load_row rfl 35 _ rfl w.heap.size rfl 35 R (0, 0) _ (by exact HBx3.out) Tryd.underlying35 rfl (by exact HSz.out) ?_)
      | (go_at_call 13; (with_reducible refine (HC2.out _).mono ?_); rintro e w4 ⟨rfl, b4⟩; have B4 := Lib.hid (B3.out.trans (b4.mono B3.out.size)); clear b4)
      | (go_at_call 6; (with_reducible refine (HAw.out _).mono ?_); rintro e w5 ⟨rfl, b5⟩; have B5 := Lib.hid (B4.out.trans (b5.mono B4.out.size)); clear b5))
    go_ret
    exact ⟨rfl, B5.out⟩
  · have HOk : Hid (∀ W, Calls Tryd.prog 12 #[.agg R] W fun e w' => ∃ t u, e = .returned (.iface t u) ∧ ErrAt w' (.iface t u) [censusS, ww] (some 14) ∧ Below W.heap.size W w') := fun W => (HC1.out W).mono fun e w' ⟨v', h1, h2, h3⟩ => by
      rcases h2 with ⟨h, _⟩ | ⟨_, t, u, h4, h5⟩
      · exact absurd (by rw [h]; rfl) hz
      · exact ⟨t, u, by rw [h1, h4], h5, h3⟩
    have hem := empty37 hz
    have hS2 : ((⟨#[99, 101, 110, 115, 117, 115, 32]⟩ : ByteArray) ++ ww).size ≤ 2000 := by
      rw [ByteArray.size_append]
      have : (⟨#[99, 101, 110, 115, 117, 115, 32]⟩ : ByteArray).size = 7 := rfl
      omega
    clear HC1 hz
    have tok : Hid True := trivial
    go_wp2_with (first
      | (clear tok; refine wpList_load_row rfl 35 _ rfl w.heap.size rfl 35 R (0, 0) _ (by exact HBx.out) Tryd.underlying35 rfl (by exact HSz.out) ?_)
      | (go_at_call 12; (with_reducible refine (HOk.out _).mono ?_); rintro e w3 ⟨t3, u3, rfl, e3, b3⟩; have B3 := Lib.hid (HBl.out.trans (b3.mono HBl.out.size)); have HBx3 : Hid (Holds w3 w.heap.size 35 R) := Lib.hid ((b3.block _ HBx.out.lt).trans HBx.out); have E3 := Lib.hid e3; clear b3 e3; have tok3 : Hid True := trivial)
      | (clear tok3; refine wpList_load_row rfl 35 _ rfl w.heap.size rfl 35 R (0, 0) _ (by exact HBx3.out) Tryd.underlying35 rfl (by exact HSz.out) ?_)
      | (go_at_call 13; (with_reducible refine (HC2.out _).mono ?_); rintro e w4 ⟨rfl, b4⟩; have B4 := Lib.hid (B3.out.trans (b4.mono B3.out.size)); have E4 := Lib.hid (E3.out.later b4); clear b4)
      | (go_at_call 6; (with_reducible refine (HAw.out _).mono ?_); rintro e w5 ⟨rfl, b5⟩; have B5 := Lib.hid (B4.out.trans (b5.mono B4.out.size)); have E5 := Lib.hid (E4.out.later b5); clear b5)
      | (go_at_call 14; (with_reducible refine (HWg.out _ _ _ B5.out E5.out).mono ?_); rintro e w6 ⟨rfl, b6⟩; have B6 := Lib.hid (B5.out.trans (b6.mono B5.out.size)); clear b6))
    go_ret
    exact ⟨rfl, B6.out⟩
end Go.Proofs.YtjphlhehhigpjaaDoor
