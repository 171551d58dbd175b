/- Part 6 of what the statement wants. -/
import Derived.Laws.Rows
import Derived.RowKitTokens
import Derived.Test.YtgoinpibllomfaaDoorChecked
import Derived.LaidEql
import Derived.Stop.Asserts
import Derived.Tactics
import Derived.Tactics2
import Derived.Defers
import Derived.Recover
import Derived.Laws.Pointers
import Derived.Laws.EntriesVeiled
import Derived.Test.YtgoinpibllomfaaDoorPk00
import Derived.Test.YtgoinpibllomfaaDoorPk01
import Derived.Test.YtgoinpibllomfaaDoorPk03
import Derived.Test.YtgoinpibllomfaaDoorPk05
namespace Go.Proofs.YtgoinpibllomfaaDoor
open Go.RowKit

theorem all_take {q : List UInt8 → Bool} {l : List (List UInt8)} {k : Nat} (hk : k < l.length) (h : (l.take k).all q = true) (hr : q l[k] = true) : (l.take (k + 1)).all q = true := by
  rw [List.take_succ_eq_append_getElem hk, List.all_append, h]
  simp [hr]
theorem all_miss {q : List UInt8 → Bool} {l : List (List UInt8)} {k : Nat} (hk : k < l.length) (hr : q l[k] = false) : l.all q = false := by
  rw [List.all_eq_false]
  exact ⟨l[k], List.getElem_mem hk, by rw [hr]; simp⟩

set_option maxRecDepth 100000 in
theorem pfOneR_any {W : World} {B : Nat} (hB : W.cell? ⟨B, 0, none⟩ = some (.func (.func 48) #[] #[])) (x : List UInt8) (hx : x.length ≤ 1000000) :
    Calls Tryd.prog 102 #[.string (bs x), .pointer (some ⟨B, 0, none⟩)] W fun e w' => e = .returned (.bool (!rightL x)) ∧ Below W.heap.size W w' := by
  have HM := Lib.hid (nRight_any x hx W)
  generalize rightL x = m at *
  generalize bs x = X at *
  clear hx
  go_enter Tryd.func102, Tryd.ntmps102
  go_wp2_with (go_at_call 48; (with_reducible refine HM.out.mono ?_); rintro e w1 ⟨rfl, b1⟩)
  go_ret
  exact ⟨rfl, b1⟩
set_option maxRecDepth 100000 in
theorem idxFuncR_any {w : World} {v : Value} {l : List (List UInt8)} (h : TextsAt w v (l.map bs)) (hl : l.length ≤ maxLen) (hs : ∀ x ∈ l, x.length ≤ 1000000) {B : Nat} (hB : w.cell? ⟨B, 0, none⟩ = some (.func (.func 48) #[] #[])) :
    Calls Tryd.prog 107 #[v, .func (.func 102) #[] #[.pointer (some ⟨B, 0, none⟩)]] w fun e w' => ∃ z : Int, e = .returned (.int .i64 z) ∧ decide (z ≥ 0) = !l.all rightL ∧ Below w.heap.size w w' := by
  obtain ⟨ao, cap, rfl, hc⟩ := h
  rw [List.length_map]
  unfold maxLen at hl
  have hBl := World.block_lt_of_cell? w _ hB
  have HCl := Lib.hid (fun (W : World) (hb : Below w.heap.size w W) (x : List UInt8) (hx : x ∈ l) => pfOneR_any (B := B) ((hb.cell (p := ⟨B, 0, none⟩) hBl).trans hB) x (hs x hx))
  have HC := Lib.hid hc
  clear hc hs hB 
  go_enter Tryd.func107, Tryd.ntmps107
  go_wp2_with fail
  go_loopw [8] (fun i wr => ∃ k : Nat, k ≤ l.length ∧ i = .int .i64 k ∧ (l.take k).all rightL = true ∧ Below w.heap.size w wr) (fun i _ => l.length - (intOf i).toNat)
  case atStart => exact ⟨0, Nat.zero_le _, rfl, rfl, Below.refl _ _⟩
  case round =>
    obtain ⟨k, hk, rfl, htk, hbel⟩ := hrel
    by_cases hlt : k < l.length
    · obtain ⟨b, off, rfl, hb, hcell⟩ := HC.out (by intro h; simp at h; simp [h] at hlt)
      obtain ⟨x, hx⟩ : ∃ x, x = l[k] := ⟨_, rfl⟩
      have c1 : wr.cell? ⟨b, off + k, none⟩ = some (.string (bs x)) := (hbel.cell (p := ⟨b, off + k, none⟩) hb).trans (hcell k _ (by rw [hx, List.getElem?_map, List.getElem?_eq_getElem hlt]; rfl))
      have HO := Lib.hid (HCl.out wr hbel x (by rw [hx]; exact List.getElem_mem hlt))
      have HN : Hid (rightL x = true → (l.take (k + 1)).all rightL = true) := fun e => all_take hlt htk (by rw [← hx]; exact e)
      have HT : Hid (rightL x = false → l.all rightL = false) := fun e => all_miss hlt (by rw [← hx]; exact e)
      have HB := Lib.hid hbel
      clear hcell htk hx hbel HC HCl
      generalize rightL x = m at *
      generalize bs x = X at *
      cases m with
      | true =>
        have HR := Lib.hid (HN.out rfl)
        clear HN HT
        go_wp2_with (go_at_call 102; (with_reducible refine HO.out.mono ?_); rintro e w1 ⟨rfl, b1⟩)
        go_roundw
        case rel => exact ⟨k + 1, by omega, by go_num, HR.out, HB.out.trans (b1.mono HB.out.size)⟩
        case measure => simp [intOf]; omega
      | false =>
        have HR := Lib.hid (HT.out rfl)
        clear HN HT
        go_wp2_with (go_at_call 102; (with_reducible refine HO.out.mono ?_); rintro e w1 ⟨rfl, b1⟩)
        go_ret
        exact ⟨_, rfl, by rw [HR.out]; exact decide_eq_true (by omega), HB.out.trans (b1.mono HB.out.size)⟩
    · have hkl : k = l.length := by omega
      subst hkl
      rw [List.take_length] at htk
      have HT := Lib.hid htk
      clear htk hlt HC HCl
      go_wp2_with fail
      go_ret
      exact ⟨_, rfl, by rw [HT.out]; decide, hbel⟩
set_option maxRecDepth 100000 in
theorem pfAllR_any {w : World} {v : Value} {l : List (List UInt8)} (h : TextsAt w v (l.map bs)) (hl : l.length ≤ maxLen) (hs : ∀ x ∈ l, x.length ≤ 1000000) :
    Calls Tryd.prog 92 #[v, .func (.func 48) #[] #[]] w fun e w' => e = .returned (.bool (l.all rightL)) ∧ Below w.heap.size w w' := by
  obtain ⟨w1, hw1⟩ : ∃ w1, w1 = w.alloc (.cells #[.func (.func 48) #[] #[]] 28) := ⟨_, rfl⟩
  have hb1 : Below w.heap.size w w1 := by rw [hw1]; exact (Below.refl _ _).alloc (Nat.le_refl _) _
  have hB : w1.cell? ⟨w.heap.size, 0, none⟩ = some (.func (.func 48) #[] #[]) := by rw [hw1]; exact (Holds.new w 28 #[.func (.func 48) #[] #[]]).cell 0
  have hi := idxFuncR_any (h.below hb1) hl hs hB
  have HC : Hid (Calls Tryd.prog 101 #[v, .func (.func 102) #[] #[.pointer (some ⟨w.heap.size, 0, none⟩)]] w1 fun e w' => e = .returned (.bool (!l.all rightL)) ∧ Below w1.heap.size w1 w') := by
    show Calls _ _ _ _ _
    obtain ⟨ao, cap, rfl, _⟩ := h
    rw [List.length_map] at hi ⊢
    have HI := Lib.hid hi
    clear hi hB hw1 hb1
    generalize w.heap.size = B at *
    go_enter Tryd.func101, Tryd.ntmps101
    go_wp2_with (go_at_call 107; (with_reducible refine HI.out.mono ?_); rintro e w2 ⟨z, rfl, hz, b2⟩)
    go_ret
    exact ⟨by rw [← hz]; rfl, b2⟩
  obtain ⟨ao, cap, rfl, _⟩ := h
  rw [List.length_map] at HC ⊢
  have HB := Lib.hid hb1
  clear hi hs hb1 hB
  have HW := Lib.hid hw1
  clear hw1
  generalize hal : l.all rightL = al at *
  clear hal
  go_enter Tryd.func92, Tryd.ntmps92
  rw [HW.out] at HC HB
  go_wp2_with (go_at_call 101; (with_reducible refine HC.out.mono ?_); rintro e w2 ⟨rfl, b2⟩)
  go_ret
  exact ⟨by simp, HB.out.trans (b2.mono HB.out.size)⟩
def isM (x : List UInt8) : Bool := methodP x != 0

set_option maxRecDepth 100000 in
theorem pfOneM_any {W : World} (hT : Tab15 W) {B : Nat} (hB : W.cell? ⟨B, 0, none⟩ = some (.func (.func 93) #[] #[])) (x : List UInt8) (hx : x.length ≤ 1000000) :
    Calls Tryd.prog 102 #[.string (bs x), .pointer (some ⟨B, 0, none⟩)] W fun e w' => e = .returned (.bool (!isM x)) ∧ Below W.heap.size W w' := by
  have HM := Lib.hid (pfIsMethod_any hT x)
  change Hid (Calls _ _ _ _ fun e w' => e = .returned (.bool (isM x)) ∧ _) at HM
  generalize isM x = m at *
  generalize bs x = X at *
  clear hx hT
  go_enter Tryd.func102, Tryd.ntmps102
  go_wp2_with (go_at_call 93; (with_reducible refine HM.out.mono ?_); rintro e w1 ⟨rfl, b1⟩)
  go_ret
  exact ⟨rfl, b1⟩
set_option maxRecDepth 100000 in
theorem idxFuncM_any {w : World} (hT : Tab15 w) {v : Value} {l : List (List UInt8)} (h : TextsAt w v (l.map bs)) (hl : l.length ≤ maxLen) (hs : ∀ x ∈ l, x.length ≤ 1000000) {B : Nat} (hB : w.cell? ⟨B, 0, none⟩ = some (.func (.func 93) #[] #[])) :
    Calls Tryd.prog 107 #[v, .func (.func 102) #[] #[.pointer (some ⟨B, 0, none⟩)]] w fun e w' => ∃ z : Int, e = .returned (.int .i64 z) ∧ decide (z ≥ 0) = !l.all isM ∧ Below w.heap.size w w' := by
  obtain ⟨ao, cap, rfl, hc⟩ := h
  rw [List.length_map]
  unfold maxLen at hl
  have hBl := World.block_lt_of_cell? w _ hB
  have HCl := Lib.hid (fun (W : World) (hb : Below w.heap.size w W) (x : List UInt8) (hx : x ∈ l) => pfOneM_any (hT.below hb) (B := B) ((hb.cell (p := ⟨B, 0, none⟩) hBl).trans hB) x (hs x hx))
  have HC := Lib.hid hc
  clear hc hs hB hT
  go_enter Tryd.func107, Tryd.ntmps107
  go_wp2_with fail
  go_loopw [8] (fun i wr => ∃ k : Nat, k ≤ l.length ∧ i = .int .i64 k ∧ (l.take k).all isM = true ∧ Below w.heap.size w wr) (fun i _ => l.length - (intOf i).toNat)
  case atStart => exact ⟨0, Nat.zero_le _, rfl, rfl, Below.refl _ _⟩
  case round =>
    obtain ⟨k, hk, rfl, htk, hbel⟩ := hrel
    by_cases hlt : k < l.length
    · obtain ⟨b, off, rfl, hb, hcell⟩ := HC.out (by intro h; simp at h; simp [h] at hlt)
      obtain ⟨x, hx⟩ : ∃ x, x = l[k] := ⟨_, rfl⟩
      have c1 : wr.cell? ⟨b, off + k, none⟩ = some (.string (bs x)) := (hbel.cell (p := ⟨b, off + k, none⟩) hb).trans (hcell k _ (by rw [hx, List.getElem?_map, List.getElem?_eq_getElem hlt]; rfl))
      have HO := Lib.hid (HCl.out wr hbel x (by rw [hx]; exact List.getElem_mem hlt))
      have HN : Hid (isM x = true → (l.take (k + 1)).all isM = true) := fun e => all_take hlt htk (by rw [← hx]; exact e)
      have HT : Hid (isM x = false → l.all isM = false) := fun e => all_miss hlt (by rw [← hx]; exact e)
      have HB := Lib.hid hbel
      clear hcell htk hx hbel HC HCl
      generalize isM x = m at *
      generalize bs x = X at *
      cases m with
      | true =>
        have HR := Lib.hid (HN.out rfl)
        clear HN HT
        go_wp2_with (go_at_call 102; (with_reducible refine HO.out.mono ?_); rintro e w1 ⟨rfl, b1⟩)
        go_roundw
        case rel => exact ⟨k + 1, by omega, by go_num, HR.out, HB.out.trans (b1.mono HB.out.size)⟩
        case measure => simp [intOf]; omega
      | false =>
        have HR := Lib.hid (HT.out rfl)
        clear HN HT
        go_wp2_with (go_at_call 102; (with_reducible refine HO.out.mono ?_); rintro e w1 ⟨rfl, b1⟩)
        go_ret
        exact ⟨_, rfl, by rw [HR.out]; exact decide_eq_true (by omega), HB.out.trans (b1.mono HB.out.size)⟩
    · have hkl : k = l.length := by omega
      subst hkl
      rw [List.take_length] at htk
      have HT := Lib.hid htk
      clear htk hlt HC HCl
      go_wp2_with fail
      go_ret
      exact ⟨_, rfl, by rw [HT.out]; decide, hbel⟩
set_option maxRecDepth 100000 in
theorem pfAllM_any {w : World} (hT : Tab15 w) {v : Value} {l : List (List UInt8)} (h : TextsAt w v (l.map bs)) (hl : l.length ≤ maxLen) (hs : ∀ x ∈ l, x.length ≤ 1000000) :
    Calls Tryd.prog 92 #[v, .func (.func 93) #[] #[]] w fun e w' => e = .returned (.bool (l.all isM)) ∧ Below w.heap.size w w' := by
  obtain ⟨w1, hw1⟩ : ∃ w1, w1 = w.alloc (.cells #[.func (.func 93) #[] #[]] 28) := ⟨_, rfl⟩
  have hb1 : Below w.heap.size w w1 := by rw [hw1]; exact (Below.refl _ _).alloc (Nat.le_refl _) _
  have hB : w1.cell? ⟨w.heap.size, 0, none⟩ = some (.func (.func 93) #[] #[]) := by rw [hw1]; exact (Holds.new w 28 #[.func (.func 93) #[] #[]]).cell 0
  have hi := idxFuncM_any (hT.below hb1) (h.below hb1) hl hs hB
  have HC : Hid (Calls Tryd.prog 101 #[v, .func (.func 102) #[] #[.pointer (some ⟨w.heap.size, 0, none⟩)]] w1 fun e w' => e = .returned (.bool (!l.all isM)) ∧ Below w1.heap.size w1 w') := by
    show Calls _ _ _ _ _
    obtain ⟨ao, cap, rfl, _⟩ := h
    rw [List.length_map] at hi ⊢
    have HI := Lib.hid hi
    clear hi hB hw1 hb1
    generalize w.heap.size = B at *
    go_enter Tryd.func101, Tryd.ntmps101
    go_wp2_with (go_at_call 107; (with_reducible refine HI.out.mono ?_); rintro e w2 ⟨z, rfl, hz, b2⟩)
    go_ret
    exact ⟨by rw [← hz]; rfl, b2⟩
  obtain ⟨ao, cap, rfl, _⟩ := h
  rw [List.length_map] at HC ⊢
  have HB := Lib.hid hb1
  clear hi hs hb1 hB
  have HW := Lib.hid hw1
  clear hw1
  generalize hal : l.all isM = al at *
  clear hal
  go_enter Tryd.func92, Tryd.ntmps92
  rw [HW.out] at HC HB
  go_wp2_with (go_at_call 101; (with_reducible refine HC.out.mono ?_); rintro e w2 ⟨rfl, b2⟩)
  go_ret
  exact ⟨by simp, HB.out.trans (b2.mono HB.out.size)⟩
end Go.Proofs.YtgoinpibllomfaaDoor

namespace Go.Proofs.YtgoinpibllomfaaDoor
open Go.RowKit

theorem nodup_bs (l : List (List UInt8)) : decide (l.map bs).Nodup = decide l.Nodup := by
  have h : (l.map bs).Nodup ↔ l.Nodup := by
    unfold List.Nodup
    rw [List.pairwise_map]
    exact ⟨fun h => h.imp fun hne e => hne (by rw [e]), fun h => h.imp fun hne e => hne (bs_inj e)⟩
  by_cases hn : l.Nodup
  · rw [decide_eq_true hn, decide_eq_true (h.2 hn)]
  · rw [decide_eq_false hn, decide_eq_false (fun e => hn (h.1 e))]
theorem all_iff {q : List UInt8 → Bool} {l : List (List UInt8)} : l.all q = true ↔ ∀ x ∈ l, q x = true := by rw [List.all_eq_true]
theorem isM_iff (x : List UInt8) : isM x = true ↔ methodP x ≠ 0 := by unfold isM; simp

set_option maxHeartbeats 1000000 in
set_option maxRecDepth 100000 in
theorem pfOne_any {w : World} (hT : Tab15 w) {v : Value} {l : List (List UInt8)} (h : TextsAt w v (l.map bs)) (hl : l.length ≤ maxLen) (hs : ∀ x ∈ l, x.length ≤ 1000000) (i : Nat) :
    Calls Tryd.prog 80 #[.int .i64 (i : Int), v] w fun e w' => e = .returned (.int .i64 (oneP i l)) ∧ Below w.heap.size w w' := by
  unfold oneP
  have HR := Lib.hid (fun (W : World) (hb : Below w.heap.size w W) => pfAllR_any (h.below hb) hl hs)
  have HM := Lib.hid (fun (W : World) (hb : Below w.heap.size w W) => pfAllM_any (hT.below hb) (h.below hb) hl hs)
  have HO := fun (hle : l.length ≤ 15) (W : World) (hb : Below w.heap.size w W) => nOnce_any (h.below hb) (by rw [List.length_map]; omega) (fun x hx => by obtain ⟨y, hy, rfl⟩ := List.mem_map.1 hx; rw [bs_size]; have := hs y hy; unfold maxLen; omega)
  rw [nodup_bs] at HO
  obtain ⟨ao, cap, rfl, _⟩ := h
  rw [List.length_map] at *
  unfold maxLen at hl
  have HB0 := Lib.hid (Below.refl w.heap.size w)
  by_cases h0 : l.length = 0
  · rw [if_pos h0]
    have q0 : ((l.length : Int) == 0) = true := by rw [beq_iff_eq]; omega
    clear HR HM HO hT hs
    go_enter Tryd.func80, Tryd.ntmps80
    go_wp2_with fail
    go_ret
    exact ⟨rfl, HB0.out⟩
  rw [if_neg h0]
  have q0 : ((l.length : Int) == 0) = false := by rw [beq_eq_false_iff_ne]; omega
  by_cases h15 : 15 < l.length
  · rw [if_pos h15]
    have q1 : decide ((l.length : Int) > 15) = true := decide_eq_true (by omega)
    clear HR HM HO hT hs h0
    go_enter Tryd.func80, Tryd.ntmps80
    go_wp2_with fail
    go_ret
    exact ⟨rfl, HB0.out⟩
  rw [if_neg h15]
  have q1 : decide ((l.length : Int) > 15) = false := decide_eq_false (by omega)
  have HO := Lib.hid (HO (by omega))
  cases hr : l.all rightL with
  | false =>
    rw [if_pos (fun hh => by rw [all_iff.2 hh.1] at hr; cases hr)]
    rw [hr] at HR
    clear HM HO hT hs h0 h15 hr
    go_enter Tryd.func80, Tryd.ntmps80
    go_wp2_with (go_at_call 92; (with_reducible refine (HR.out _ HB0.out).mono ?_); rintro e w1 ⟨rfl, b1⟩)
    go_ret
    exact ⟨rfl, b1⟩
  | true =>
  rw [hr] at HR
  have hra := all_iff.1 hr
  by_cases hn : l.Nodup
  · rw [if_neg (fun hh => hh ⟨hra, hn⟩)]
    rw [decide_eq_true hn] at HO
    by_cases hi : i = 0
    · subst hi
      cases hm : l.all isM with
      | false =>
        rw [if_pos ⟨rfl, fun hh => by rw [all_iff.2 (fun x hx => (isM_iff x).2 (hh x hx))] at hm; cases hm⟩]
        rw [hm] at HM
        clear hT hs h0 h15 hr hra hn hm
        go_enter Tryd.func80, Tryd.ntmps80
        go_wp2_with (first
          | (go_at_call 92; (with_reducible refine (HR.out _ HB0.out).mono ?_); rintro e w1 ⟨rfl, b1⟩)
          | (go_at_call 47; (with_reducible refine (HO.out _ b1).mono ?_); rintro e w2 ⟨rfl, b2⟩; have B2 := Lib.hid (b1.trans (b2.mono b1.size)))
          | (go_at_call 92; (with_reducible refine (HM.out _ B2.out).mono ?_); rintro e w3 ⟨rfl, b3⟩))
        go_ret
        exact ⟨rfl, B2.out.trans (b3.mono B2.out.size)⟩
      | true =>
        rw [if_neg (fun hh => hh.2 fun x hx => (isM_iff x).1 (all_iff.1 hm x hx))]
        rw [hm] at HM
        clear hT hs h0 h15 hr hra hn hm
        go_enter Tryd.func80, Tryd.ntmps80
        go_wp2_with (first
          | (go_at_call 92; (with_reducible refine (HR.out _ HB0.out).mono ?_); rintro e w1 ⟨rfl, b1⟩)
          | (go_at_call 47; (with_reducible refine (HO.out _ b1).mono ?_); rintro e w2 ⟨rfl, b2⟩; have B2 := Lib.hid (b1.trans (b2.mono b1.size)))
          | (go_at_call 92; (with_reducible refine (HM.out _ B2.out).mono ?_); rintro e w3 ⟨rfl, b3⟩))
        go_ret
        exact ⟨rfl, B2.out.trans (b3.mono B2.out.size)⟩
    · rw [if_neg (fun hh => hi hh.1)]
      have qi : ((i : Int) == 0) = false := by rw [beq_eq_false_iff_ne]; omega
      clear HM hT hs h0 h15 hr hra hn hi
      go_enter Tryd.func80, Tryd.ntmps80
      go_wp2_with (first
        | (go_at_call 92; (with_reducible refine (HR.out _ HB0.out).mono ?_); rintro e w1 ⟨rfl, b1⟩)
        | (go_at_call 47; (with_reducible refine (HO.out _ b1).mono ?_); rintro e w2 ⟨rfl, b2⟩; have B2 := Lib.hid (b1.trans (b2.mono b1.size))))
      go_ret
      exact ⟨rfl, B2.out⟩
  · rw [if_pos (fun hh => hn hh.2)]
    rw [decide_eq_false hn] at HO
    clear HM hT hs h0 h15 hr hra hn
    go_enter Tryd.func80, Tryd.ntmps80
    go_wp2_with (first
      | (go_at_call 92; (with_reducible refine (HR.out _ HB0.out).mono ?_); rintro e w1 ⟨rfl, b1⟩)
      | (go_at_call 47; (with_reducible refine (HO.out _ b1).mono ?_); rintro e w2 ⟨rfl, b2⟩; have B2 := Lib.hid (b1.trans (b2.mono b1.size))))
    go_ret
    exact ⟨rfl, B2.out⟩

end Go.Proofs.YtgoinpibllomfaaDoor

namespace Go.Proofs.YtgoinpibllomfaaDoor
open Go.RowKit

def agg8 (u : Nat → Value) : Value := .agg #[u 0, u 1, u 2, u 3, u 4, u 5, u 6, u 7]
set_option maxRecDepth 100000 in
theorem index8 (u : Nat → Value) : ∀ k : Nat, k < 8 → ∀ W : World, (Instr.index 115 (agg8 u) (.int .i64 (k : Int))).run Tryd.prog W = .ok (u k) W
  | 0, _ => fun _ => by kernel_rfl
  | 1, _ => fun _ => by kernel_rfl
  | 2, _ => fun _ => by kernel_rfl
  | 3, _ => fun _ => by kernel_rfl
  | 4, _ => fun _ => by kernel_rfl
  | 5, _ => fun _ => by kernel_rfl
  | 6, _ => fun _ => by kernel_rfl
  | 7, _ => fun _ => by kernel_rfl
  | k + 8, h => absurd h (by omega)
set_option maxHeartbeats 1000000 in
set_option maxRecDepth 100000 in
theorem pfEight_any {u : Nat → Value} (hu : ∀ k < 8, ∃ a n c, u k = .slice a n c) (w : World) : Calls Tryd.prog 78 #[agg8 u] w fun e w' => e = .returned (agg8 u) ∧ Below w.heap.size w w' := by
  unfold agg8
  obtain ⟨a0, n0, c0, e0⟩ := hu 0 (by omega)
  obtain ⟨a1, n1, c1, e1⟩ := hu 1 (by omega)
  obtain ⟨a2, n2, c2, e2⟩ := hu 2 (by omega)
  obtain ⟨a3, n3, c3, e3⟩ := hu 3 (by omega)
  obtain ⟨a4, n4, c4, e4⟩ := hu 4 (by omega)
  obtain ⟨a5, n5, c5, e5⟩ := hu 5 (by omega)
  obtain ⟨a6, n6, c6, e6⟩ := hu 6 (by omega)
  obtain ⟨a7, n7, c7, e7⟩ := hu 7 (by omega)
  rw [e0, e1, e2, e3, e4, e5, e6, e7]
  clear hu e0 e1 e2 e3 e4 e5 e6 e7 u
  have hR := heap_alloc_new (w.alloc (.cells #[.slice a0 n0 c0, .slice a1 n1 c1, .slice a2 n2 c2, .slice a3 n3 c3, .slice a4 n4 c4, .slice a5 n5 c5, .slice a6 n6 c6, .slice a7 n7 c7] 46)) (.cells #[.slice a0 n0 c0, .slice a1 n1 c1, .slice a2 n2 c2, .slice a3 n3 c3, .slice a4 n4 c4, .slice a5 n5 c5, .slice a6 n6 c6, .slice a7 n7 c7] 115)
  rw [World.size_alloc] at hR
  have HRr := Lib.hid hR
  clear hR
  go_enter Tryd.func78, Tryd.ntmps78
  go_wp2_with fail
  refine bodyPost_ret (results_cell_row rfl _ _ (w.heap.size + 1) _ _ (0, 0) _ rfl HRr.out Tryd.underlying115 rfl (by kernel_rfl)) rfl ?_
  exact ⟨rfl, ((Below.refl _ _).alloc (Nat.le_refl _) _).alloc (by simp) _⟩
end Go.Proofs.YtgoinpibllomfaaDoor

namespace Go.Proofs.YtgoinpibllomfaaDoor
open Go.RowKit Go.Extern.Stop Go.Stop Go.Extern

set_option maxRecDepth 100000
end Go.Proofs.YtgoinpibllomfaaDoor

namespace Go.Proofs.YtgoinpibllomfaaDoor
open Go.RowKit Go.Extern.Stop Go.Stop Go.Extern

end Go.Proofs.YtgoinpibllomfaaDoor

namespace Go.Proofs.YtgoinpibllomfaaDoor
open Go.RowKit Go.Extern.Stop Go.Stop Go.Extern

def TypeOfError (w : World) : Prop := 1 < w.heap.size ∧ w.cell? ⟨1, 0, none⟩ = some (.iface 141 (.agg #[.pointer (some ⟨4, 30, none⟩)]))
theorem TypeOfError.later {w w' : World} (h : TypeOfError w) (hb : Below w.heap.size w w') : TypeOfError w' := ⟨Nat.lt_of_lt_of_le h.1 hb.size, (hb.cell (p := ⟨1, 0, none⟩) h.1).trans h.2⟩

end Go.Proofs.YtgoinpibllomfaaDoor

namespace Go.Proofs.YtgoinpibllomfaaDoor
open Go.RowKit Go.Extern.Stop Go.Stop Go.Extern

end Go.Proofs.YtgoinpibllomfaaDoor

namespace Go.Proofs.YtgoinpibllomfaaDoor
open Go.RowKit Go.Extern.Stop Go.Stop Go.Extern

end Go.Proofs.YtgoinpibllomfaaDoor
