/- Part 10 of what the statement wants. -/
import Derived.Test.YtgoinpibllomfaaDoorPk09
namespace Go.Proofs.YtgoinpibllomfaaDoor
open Go.RowKit

theorem all_take {q : List UInt8 → Bool} {l : List (List UInt8)} {k : Nat} (hk : k < l.length) (h : (l.take k).all q = true) (hr : q l[k] = true) : (l.take (k + 1)).all q = true := by
  rw [List.take_succ_eq_append_getElem hk, List.all_append, h]
  simp [hr]
theorem all_miss {q : List UInt8 → Bool} {l : List (List UInt8)} {k : Nat} (hk : k < l.length) (hr : q l[k] = false) : l.all q = false := by
  rw [List.all_eq_false]
  exact ⟨l[k], List.getElem_mem hk, by rw [hr]; simp⟩

set_option maxRecDepth 100000 in
theorem pfOneR_any {W : World} {B : Nat} (hB : W.cell? ⟨B, 0, none⟩ = some (.func (.func 48) #[] #[])) (x : List UInt8) (hx : x.length ≤ 1000000) :
    Calls Tryd.prog 102 #[.string (bs x), .pointer (some ⟨B, 0, none⟩)] W fun e w' => e = .returned (.bool (!rightL x)) ∧ Below W.heap.size W w' := by
  have HM := Lib.hid (nRight_any x hx W)
  generalize rightL x = m at *
  generalize bs x = X at *
  clear hx
  go_enter Tryd.func102, Tryd.ntmps102
  go_wp2_with (go_at_call 48; (with_reducible refine HM.out.mono ?_); rintro e w1 ⟨rfl, b1⟩)
  go_ret
  exact ⟨rfl, b1⟩
set_option maxRecDepth 100000 in
theorem idxFuncR_any {w : World} {v : Value} {l : List (List UInt8)} (h : TextsAt w v (l.map bs)) (hl : l.length ≤ maxLen) (hs : ∀ x ∈ l, x.length ≤ 1000000) {B : Nat} (hB : w.cell? ⟨B, 0, none⟩ = some (.func (.func 48) #[] #[])) :
    Calls Tryd.prog 107 #[v, .func (.func 102) #[] #[.pointer (some ⟨B, 0, none⟩)]] w fun e w' => ∃ z : Int, e = .returned (.int .i64 z) ∧ decide (z ≥ 0) = !l.all rightL ∧ Below w.heap.size w w' := by
  obtain ⟨ao, cap, rfl, hc⟩ := h
  rw [List.length_map]
  unfold maxLen at hl
  have hBl := World.block_lt_of_cell? w _ hB
  have HCl := Lib.hid (fun (W : World) (hb : Below w.heap.size w W) (x : List UInt8) (hx : x ∈ l) => pfOneR_any (B := B) ((hb.cell (p := ⟨B, 0, none⟩) hBl).trans hB) x (hs x hx))
  have HC := Lib.hid hc
  clear hc hs hB 
  go_enter Tryd.func107, Tryd.ntmps107
  go_wp2_with fail
  go_loopw [8] (fun i wr => ∃ k : Nat, k ≤ l.length ∧ i = .int .i64 k ∧ (l.take k).all rightL = true ∧ Below w.heap.size w wr) (fun i _ => l.length - (intOf i).toNat)
  case atStart => exact ⟨0, Nat.zero_le _, rfl, rfl, Below.refl _ _⟩
  case round =>
    obtain ⟨k, hk, rfl, htk, hbel⟩ := hrel
    by_cases hlt : k < l.length
    · obtain ⟨b, off, rfl, hb, hcell⟩ := HC.out (by intro h; simp at h; simp [h] at hlt)
      obtain ⟨x, hx⟩ : ∃ x, x = l[k] := ⟨_, rfl⟩
      have c1 : wr.cell? ⟨b, off + k, none⟩ = some (.string (bs x)) := (hbel.cell (p := ⟨b, off + k, none⟩) hb).trans (hcell k _ (by rw [hx, List.getElem?_map, List.getElem?_eq_getElem hlt]; rfl))
      have HO := Lib.hid (HCl.out wr hbel x (by rw [hx]; exact List.getElem_mem hlt))
      have HN : Hid (rightL x = true → (l.take (k + 1)).all rightL = true) := fun e => all_take hlt htk (by rw [← hx]; exact e)
      have HT : Hid (rightL x = false → l.all rightL = false) := fun e => all_miss hlt (by rw [← hx]; exact e)
      have HB := Lib.hid hbel
      clear hcell htk hx hbel HC HCl
      generalize rightL x = m at *
      generalize bs x = X at *
      cases m with
      | true =>
        have HR := Lib.hid (HN.out rfl)
        clear HN HT
        go_wp2_with (go_at_call 102; (with_reducible refine HO.out.mono ?_); rintro e w1 ⟨rfl, b1⟩)
        go_roundw
        case rel => exact ⟨k + 1, by omega, by go_num, HR.out, HB.out.trans (b1.mono HB.out.size)⟩
        case measure => simp [intOf]; omega
      | false =>
        have HR := Lib.hid (HT.out rfl)
        clear HN HT
        go_wp2_with (go_at_call 102; (with_reducible refine HO.out.mono ?_); rintro e w1 ⟨rfl, b1⟩)
        go_ret
        exact ⟨_, rfl, by rw [HR.out]; exact decide_eq_true (by omega), HB.out.trans (b1.mono HB.out.size)⟩
    · have hkl : k = l.length := by omega
      subst hkl
      rw [List.take_length] at htk
      have HT := Lib.hid htk
      clear htk hlt HC HCl
      go_wp2_with fail
      go_ret
      exact ⟨_, rfl, by rw [HT.out]; decide, hbel⟩
set_option maxRecDepth 100000 in
theorem pfAllR_any {w : World} {v : Value} {l : List (List UInt8)} (h : TextsAt w v (l.map bs)) (hl : l.length ≤ maxLen) (hs : ∀ x ∈ l, x.length ≤ 1000000) :
    Calls Tryd.prog 92 #[v, .func (.func 48) #[] #[]] w fun e w' => e = .returned (.bool (l.all rightL)) ∧ Below w.heap.size w w' := by
  obtain ⟨w1, hw1⟩ : ∃ w1, w1 = w.alloc (.cells #[.func (.func 48) #[] #[]] 28) := ⟨_, rfl⟩
  have hb1 : Below w.heap.size w w1 := by rw [hw1]; exact (Below.refl _ _).alloc (Nat.le_refl _) _
  have hB : w1.cell? ⟨w.heap.size, 0, none⟩ = some (.func (.func 48) #[] #[]) := by rw [hw1]; exact (Holds.new w 28 #[.func (.func 48) #[] #[]]).cell 0
  have hi := idxFuncR_any (h.below hb1) hl hs hB
  have HC : Hid (Calls Tryd.prog 101 #[v, .func (.func 102) #[] #[.pointer (some ⟨w.heap.size, 0, none⟩)]] w1 fun e w' => e = .returned (.bool (!l.all rightL)) ∧ Below w1.heap.size w1 w') := by
    show Calls _ _ _ _ _
    obtain ⟨ao, cap, rfl, _⟩ := h
    rw [List.length_map] at hi ⊢
    have HI := Lib.hid hi
    clear hi hB hw1 hb1
    generalize w.heap.size = B at *
    go_enter Tryd.func101, Tryd.ntmps101
    go_wp2_with (go_at_call 107; (with_reducible refine HI.out.mono ?_); rintro e w2 ⟨z, rfl, hz, b2⟩)
    go_ret
    exact ⟨by rw [← hz]; rfl, b2⟩
  obtain ⟨ao, cap, rfl, _⟩ := h
  rw [List.length_map] at HC ⊢
  have HB := Lib.hid hb1
  clear hi hs hb1 hB
  have HW := Lib.hid hw1
  clear hw1
  generalize hal : l.all rightL = al at *
  clear hal
  go_enter Tryd.func92, Tryd.ntmps92
  rw [HW.out] at HC HB
  go_wp2_with (go_at_call 101; (with_reducible refine HC.out.mono ?_); rintro e w2 ⟨rfl, b2⟩)
  go_ret
  exact ⟨by simp, HB.out.trans (b2.mono HB.out.size)⟩
def isM (x : List UInt8) : Bool := methodP x != 0

set_option maxRecDepth 100000 in
theorem pfOneM_any {W : World} (hT : Tab15 W) {B : Nat} (hB : W.cell? ⟨B, 0, none⟩ = some (.func (.func 93) #[] #[])) (x : List UInt8) (hx : x.length ≤ 1000000) :
    Calls Tryd.prog 102 #[.string (bs x), .pointer (some ⟨B, 0, none⟩)] W fun e w' => e = .returned (.bool (!isM x)) ∧ Below W.heap.size W w' := by
  have HM := Lib.hid (pfIsMethod_any hT x)
  change Hid (Calls _ _ _ _ fun e w' => e = .returned (.bool (isM x)) ∧ _) at HM
  generalize isM x = m at *
  generalize bs x = X at *
  clear hx hT
  go_enter Tryd.func102, Tryd.ntmps102
  go_wp2_with (go_at_call 93; (with_reducible refine HM.out.mono ?_); rintro e w1 ⟨rfl, b1⟩)
  go_ret
  exact ⟨rfl, b1⟩
set_option maxRecDepth 100000 in
theorem idxFuncM_any {w : World} (hT : Tab15 w) {v : Value} {l : List (List UInt8)} (h : TextsAt w v (l.map bs)) (hl : l.length ≤ maxLen) (hs : ∀ x ∈ l, x.length ≤ 1000000) {B : Nat} (hB : w.cell? ⟨B, 0, none⟩ = some (.func (.func 93) #[] #[])) :
    Calls Tryd.prog 107 #[v, .func (.func 102) #[] #[.pointer (some ⟨B, 0, none⟩)]] w fun e w' => ∃ z : Int, e = .returned (.int .i64 z) ∧ decide (z ≥ 0) = !l.all isM ∧ Below w.heap.size w w' := by
  obtain ⟨ao, cap, rfl, hc⟩ := h
  rw [List.length_map]
  unfold maxLen at hl
  have hBl := World.block_lt_of_cell? w _ hB
  have HCl := Lib.hid (fun (W : World) (hb : Below w.heap.size w W) (x : List UInt8) (hx : x ∈ l) => pfOneM_any (hT.below hb) (B := B) ((hb.cell (p := ⟨B, 0, none⟩) hBl).trans hB) x (hs x hx))
  have HC := Lib.hid hc
  clear hc hs hB hT
  go_enter Tryd.func107, Tryd.ntmps107
  go_wp2_with fail
  go_loopw [8] (fun i wr => ∃ k : Nat, k ≤ l.length ∧ i = .int .i64 k ∧ (l.take k).all isM = true ∧ Below w.heap.size w wr) (fun i _ => l.length - (intOf i).toNat)
  case atStart => exact ⟨0, Nat.zero_le _, rfl, rfl, Below.refl _ _⟩
  case round =>
    obtain ⟨k, hk, rfl, htk, hbel⟩ := hrel
    by_cases hlt : k < l.length
    · obtain ⟨b, off, rfl, hb, hcell⟩ := HC.out (by intro h; simp at h; simp [h] at hlt)
      obtain ⟨x, hx⟩ : ∃ x, x = l[k] := ⟨_, rfl⟩
      have c1 : wr.cell? ⟨b, off + k, none⟩ = some (.string (bs x)) := (hbel.cell (p := ⟨b, off + k, none⟩) hb).trans (hcell k _ (by rw [hx, List.getElem?_map, List.getElem?_eq_getElem hlt]; rfl))
      have HO := Lib.hid (HCl.out wr hbel x (by rw [hx]; exact List.getElem_mem hlt))
      have HN : Hid (isM x = true → (l.take (k + 1)).all isM = true) := fun e => all_take hlt htk (by rw [← hx]; exact e)
      have HT : Hid (isM x = false → l.all isM = false) := fun e => all_miss hlt (by rw [← hx]; exact e)
      have HB := Lib.hid hbel
      clear hcell htk hx hbel HC HCl
      generalize isM x = m at *
      generalize bs x = X at *
      cases m with
      | true =>
        have HR := Lib.hid (HN.out rfl)
        clear HN HT
        go_wp2_with (go_at_call 102; (with_reducible refine HO.out.mono ?_); rintro e w1 ⟨rfl, b1⟩)
        go_roundw
        case rel => exact ⟨k + 1, by omega, by go_num, HR.out, HB.out.trans (b1.mono HB.out.size)⟩
        case measure => simp [intOf]; omega
      | false =>
        have HR := Lib.hid (HT.out rfl)
        clear HN HT
        go_wp2_with (go_at_call 102; (with_reducible refine HO.out.mono ?_); rintro e w1 ⟨rfl, b1⟩)
        go_ret
        exact ⟨_, rfl, by rw [HR.out]; exact decide_eq_true (by omega), HB.out.trans (b1.mono HB.out.size)⟩
    · have hkl : k = l.length := by omega
      subst hkl
      rw [List.take_length] at htk
      have HT := Lib.hid htk
      clear htk hlt HC HCl
      go_wp2_with fail
      go_ret
      exact ⟨_, rfl, by rw [HT.out]; decide, hbel⟩
set_option maxRecDepth 100000 in
theorem pfAllM_any {w : World} (hT : Tab15 w) {v : Value} {l : List (List UInt8)} (h : TextsAt w v (l.map bs)) (hl : l.length ≤ maxLen) (hs : ∀ x ∈ l, x.length ≤ 1000000) :
    Calls Tryd.prog 92 #[v, .func (.func 93) #[] #[]] w fun e w' => e = .returned (.bool (l.all isM)) ∧ Below w.heap.size w w' := by
  obtain ⟨w1, hw1⟩ : ∃ w1, w1 = w.alloc (.cells #[.func (.func 93) #[] #[]] 28) := ⟨_, rfl⟩
  have hb1 : Below w.heap.size w w1 := by rw [hw1]; exact (Below.refl _ _).alloc (Nat.le_refl _) _
  have hB : w1.cell? ⟨w.heap.size, 0, none⟩ = some (.func (.func 93) #[] #[]) := by rw [hw1]; exact (Holds.new w 28 #[.func (.func 93) #[] #[]]).cell 0
  have hi := idxFuncM_any (hT.below hb1) (h.below hb1) hl hs hB
  have HC : Hid (Calls Tryd.prog 101 #[v, .func (.func 102) #[] #[.pointer (some ⟨w.heap.size, 0, none⟩)]] w1 fun e w' => e = .returned (.bool (!l.all isM)) ∧ Below w1.heap.size w1 w') := by
    show Calls _ _ _ _ _
    obtain ⟨ao, cap, rfl, _⟩ := h
    rw [List.length_map] at hi ⊢
    have HI := Lib.hid hi
    clear hi hB hw1 hb1
    generalize w.heap.size = B at *
    go_enter Tryd.func101, Tryd.ntmps101
    go_wp2_with (go_at_call 107; (with_reducible refine HI.out.mono ?_); rintro e w2 ⟨z, rfl, hz, b2⟩)
    go_ret
    exact ⟨by rw [← hz]; rfl, b2⟩
  obtain ⟨ao, cap, rfl, _⟩ := h
  rw [List.length_map] at HC ⊢
  have HB := Lib.hid hb1
  clear hi hs hb1 hB
  have HW := Lib.hid hw1
  clear hw1
  generalize hal : l.all isM = al at *
  clear hal
  go_enter Tryd.func92, Tryd.ntmps92
  rw [HW.out] at HC HB
  go_wp2_with (go_at_call 101; (with_reducible refine HC.out.mono ?_); rintro e w2 ⟨rfl, b2⟩)
  go_ret
  exact ⟨by simp, HB.out.trans (b2.mono HB.out.size)⟩
end Go.Proofs.YtgoinpibllomfaaDoor
