/- Part 32 of what the statement wants. -/
import Derived.LoopTactic
import Derived.Maps.AppendAt
import Derived.KernelRfl
import Derived.Test.YtkdljicagepebaaGreatDoorPk00
import Derived.Test.YtkdljicagepebaaGreatDoorPk23
import Derived.Test.YtkdljicagepebaaGreatDoorPk25
import Derived.Test.YtkdljicagepebaaGreatDoorPk26
import Derived.Test.YtkdljicagepebaaGreatDoorPk28
import Derived.Test.YtkdljicagepebaaGreatDoorPk29
import Derived.Test.YtkdljicagepebaaGreatDoorPk31
namespace Go.Proofs.YtkdljicagepebaaGreatDoor
open Go.RowKit

theorem sizeConfH {c : CfV} : (Tryz.prog.info? 30).map (·.size) = some c.row.size := by rw [CfV.row_size]; exact sizeZ
theorem r25principal_any (z : Int) (w : World) : Calls Tryz.prog 17 #[.int .i64 z] w fun e w' => e = .returned (.bool (whoB z)) ∧ Below w.heap.size w w' := by
  by_cases h1 : 0 ≤ z
  · have q1 : decide (z ≥ 0) = true := decide_eq_true h1
    by_cases h2 : z ≤ 15
    · have q2 : decide (z ≤ 15) = true := decide_eq_true h2
      go_enter Tryz.func17, Tryz.ntmps17
      go_wp2_with fail
      go_ret
      exact ⟨by simp [whoB, h1, h2], Below.refl _ _⟩
    · have q2 : decide (z ≤ 15) = false := decide_eq_false h2
      go_enter Tryz.func17, Tryz.ntmps17
      go_wp2_with fail
      go_ret
      exact ⟨by simp [whoB, h2], Below.refl _ _⟩
  · have q1 : decide (z ≥ 0) = false := decide_eq_false h1
    go_enter Tryz.func17, Tryz.ntmps17
    go_wp2_with fail
    go_ret
    exact ⟨by unfold whoB; rw [decide_eq_false (by omega)]; rfl, Below.refl _ _⟩
theorem r25Version_any {w : World} {c : CfV} {d : CfL} (h : CfAt w c d) (hs : CfSized d) : Calls Tryz.prog 9 #[.agg c.row] w fun e w' => e = .returned (.string (bs (lnMake d.so d.co))) ∧ Below w.heap.size w w' := by
  have hb : Below w.heap.size w (w.alloc (.cells c.row 30)) := (Below.refl _ _).alloc (Nat.le_refl _) _
  have hN := Holds.new w 30 c.row
  have HM := Lib.hid (fun W => rlMake_any d.so d.co (by have := hs.so; omega) (by have := hs.co; omega) W)
  rw [← h.so, ← h.co] at HM
  have y1 : (w.alloc (.cells c.row 30)).cell? ⟨w.heap.size, 1, none⟩ = some (.string c.so) := hN.cell 1
  have y2 : (w.alloc (.cells c.row 30)).cell? ⟨w.heap.size, 2, none⟩ = some (.string c.co) := hN.cell 2
  have HB := Lib.hid hb
  clear h hs hb hN
  generalize bs (lnMake d.so d.co) = V at *
  go_enter Tryz.func9, Tryz.ntmps9
  go_wp2_with (go_at_call 21; (with_reducible refine (HM.out _).mono ?_); rintro e w1 ⟨rfl, b1⟩)
  go_ret
  exact ⟨rfl, HB.out.trans (b1.mono HB.out.size)⟩
theorem cfVersion_any {w : World} {c : CfV} {d : CfL} (h : CfAt w c d) (hs : CfSized d) : Calls Tryz.prog 8 #[.agg c.row] w fun e w' => e = .returned (.string (bs (lnMake d.so d.co))) ∧ Below w.heap.size w w' := by
  have hb : Below w.heap.size w (w.alloc (.cells c.row 30)) := (Below.refl _ _).alloc (Nat.le_refl _) _
  have hN := Holds.new w 30 c.row
  have HM := Lib.hid (fun W => lnMake_any d.so d.co (by have := hs.so; omega) (by have := hs.co; omega) W)
  rw [← h.so, ← h.co] at HM
  have y1 : (w.alloc (.cells c.row 30)).cell? ⟨w.heap.size, 1, none⟩ = some (.string c.so) := hN.cell 1
  have y2 : (w.alloc (.cells c.row 30)).cell? ⟨w.heap.size, 2, none⟩ = some (.string c.co) := hN.cell 2
  have HB := Lib.hid hb
  clear h hs hb hN
  generalize bs (lnMake d.so d.co) = V at *
  go_enter Tryz.func8, Tryz.ntmps8
  go_wp2_with (go_at_call 20; (with_reducible refine (HM.out _).mono ?_); rintro e w1 ⟨rfl, b1⟩)
  go_ret
  exact ⟨rfl, HB.out.trans (b1.mono HB.out.size)⟩
theorem cv_u32_25 (x : Nat) (hx : x < 4294967296) (W : World) : (convert 27 3 (.int .u32 (x : Int))).run Tryz.prog W = .ok (.int .i64 (x : Int)) W := by
  have h : IntKind.i64.wrap (x : Int) = (x : Int) := IntWalk.i64_in _ (by omega)
  simp [go_sem, Tryz.underlying27, Tryz.underlying3, h]
set_option maxHeartbeats 4000000 in
set_option maxRecDepth 100000 in
theorem r25client_any {w : World} {c : CfV} {d : CfL} (h : CfAt w c d) (hr : Room24 (.slice c.aa c.na c.ca)) (hs : CfSized d) (g0 : c.w0 < 4294967296) (g1 : c.w1 < 4294967296) (g2 : c.w2 < 4294967296) :
    Calls Tryz.prog 19 #[.agg c.row] w fun e w' => e = .returned (.tuple #[.int .i64 (cliR (whoB c.pe) (userP d.us) (decide (d.ks.length ≤ 8)) (d.ks.all whoB) (algsZ d.al) (rightB c.w0 c.w1 c.w2)).1, .string (cliR (whoB c.pe) (userP d.us) (decide (d.ks.length ≤ 8)) (d.ks.all whoB) (algsZ d.al) (rightB c.w0 c.w1 c.w2)).2]) ∧ Below w.heap.size w w' := by
  have hb : Below w.heap.size w (w.alloc (.cells c.row 30)) := (Below.refl _ _).alloc (Nat.le_refl _) _
  have hN := Holds.new w 30 c.row
  have hnk : c.nk = d.ks.length := ids_len h.ks
  have HCe : Hid (∀ W, Below (w.alloc (.cells c.row 30)).heap.size (w.alloc (.cells c.row 30)) W → W.cell? ⟨w.heap.size, 11, none⟩ = some (.slice c.aa c.na c.ca) ∧ W.cell? ⟨w.heap.size, 16, none⟩ = some (.string c.us) ∧ W.cell? ⟨w.heap.size, 17, none⟩ = some (.slice c.ak c.nk c.ck) ∧ W.cell? ⟨w.heap.size, 20, none⟩ = some (.int .u32 (c.w0 : Int)) ∧ W.cell? ⟨w.heap.size, 21, none⟩ = some (.int .u32 (c.w1 : Int)) ∧ W.cell? ⟨w.heap.size, 22, none⟩ = some (.int .u32 (c.w2 : Int))) := fun W hW => by
    have h1 := Holds.cell (show Holds W w.heap.size 30 c.row from (hW.block _ hN.lt).trans hN)
    exact ⟨h1 11, h1 16, h1 17, h1 20, h1 21, h1 22⟩
  have y15 : (w.alloc (.cells c.row 30)).cell? ⟨w.heap.size, 15, none⟩ = some (.int .i64 c.pe) := hN.cell 15
  have HPr : Hid (∀ z W, Calls Tryz.prog 17 #[.int .i64 z] W fun e w' => e = .returned (.bool (whoB z)) ∧ Below W.heap.size W w') := r25principal_any
  have HUs := Lib.hid (fun W => r24User_any d.us (by have := hs.us; omega) W)
  rw [← h.us] at HUs
  have HAl : Hid (∀ W, Below (w.alloc (.cells c.row 30)).heap.size (w.alloc (.cells c.row 30)) W → Calls Tryz.prog 45 #[.slice c.aa c.na c.ca] W fun e w' => e = .returned (.int .i64 (algsZ d.al)) ∧ Below W.heap.size W w') := fun W hW => r24Algs_any ((h.al.below hb).below hW) hr (by have := hs.al.1; unfold maxLen; omega) (fun x hx => by have := hs.al.2 x hx; omega)
  have HRt := Lib.hid (fun W => r18Right_any c.w0 c.w1 c.w2 W)
  have HK : Hid (∀ k x, d.ks[k]? = some x → ∃ b off, c.ak = some ⟨b, off, none⟩ ∧ ∀ W, Below w.heap.size w W → W.cell? ⟨b, off + k, none⟩ = some (.int .i64 x)) := fun k x hk => by
    obtain ⟨ak, ck, e0, hc⟩ := h.ks
    injection e0 with e1 e2 e3
    obtain ⟨b, off, e, hlt, hh⟩ := hc (by intro e; rw [e] at hk; simp at hk)
    exact ⟨b, off, e1.trans e, fun W hB => (hB.cell (p := ⟨b, off + k, none⟩) hlt).trans (hh k x hk)⟩
  have cv0 := cv_u32_25 c.w0 g0
  have cv1 := cv_u32_25 c.w1 g1
  have cv2 := cv_u32_25 c.w2 g2
  have HB := Lib.hid hb
  have BR : Hid (Below (w.alloc (.cells c.row 30)).heap.size (w.alloc (.cells c.row 30)) (w.alloc (.cells c.row 30))) := Below.refl _ _
  have HNk := Lib.hid hnk
  clear h hr hs g0 g1 g2 hb hN hnk
  obtain ⟨A, hA⟩ : ∃ A, whoB c.pe = A := ⟨_, rfl⟩
  have HP0 := Lib.hid (HPr.out c.pe)
  rw [hA] at HP0 ⊢
  obtain ⟨B, hB⟩ : ∃ B, userP d.us = B := ⟨_, rfl⟩
  rw [hB] at HUs ⊢
  obtain ⟨D, hD⟩ : ∃ D, d.ks.all whoB = D := ⟨_, rfl⟩
  rw [hD]
  have HD := Lib.hid hD
  clear hD
  generalize algsZ d.al = E at *
  generalize rightB c.w0 c.w1 c.w2 = G at *
  clear hA hB
  cases A with
  | false =>
    go_enter Tryz.func19, Tryz.ntmps19
    go_wp2_with (go_at_call 17; (with_reducible refine (HP0.out _).mono ?_); rintro e w1 ⟨rfl, b1⟩)
    go_ret2
    exact ⟨by simp [cliR], HB.out.trans (b1.mono HB.out.size)⟩
  | true =>
  cases B with
  | false =>
    go_enter Tryz.func19, Tryz.ntmps19
    go_wp2_with (first
      | (go_at_call 17; (with_reducible refine (HP0.out _).mono ?_); rintro e w1 ⟨rfl, b1⟩; obtain ⟨z11, z16, z17, z20, z21, z22⟩ := HCe.out _ b1)
      | (go_at_call 44; (with_reducible refine (HUs.out _).mono ?_); rintro e w2 ⟨rfl, hw⟩; have hw := hw.symm; subst hw))
    go_ret2
    exact ⟨by simp [cliR], HB.out.trans (b1.mono HB.out.size)⟩
  | true =>
  by_cases n8 : 8 < c.nk
  · have q8 : decide ((c.nk : Int) > 8) = true := decide_eq_true (by omega)
    have hC : decide (d.ks.length ≤ 8) = false := decide_eq_false (by have := HNk.out; omega)
    go_enter Tryz.func19, Tryz.ntmps19
    go_wp2_with (first
      | (go_at_call 17; (with_reducible refine (HP0.out _).mono ?_); rintro e w1 ⟨rfl, b1⟩; obtain ⟨z11, z16, z17, z20, z21, z22⟩ := HCe.out _ b1)
      | (go_at_call 44; (with_reducible refine (HUs.out _).mono ?_); rintro e w2 ⟨rfl, hw⟩; have hw := hw.symm; subst hw))
    go_ret2
    exact ⟨by rw [hC]; simp [cliR], HB.out.trans (b1.mono HB.out.size)⟩
  have q8 : decide ((c.nk : Int) > 8) = false := decide_eq_false (by omega)
  have hC : decide (d.ks.length ≤ 8) = true := decide_eq_true (by have := HNk.out; omega)
  rw [hC]
  clear hC
  have HAll : Hid ((∀ j (x : Int), j < c.nk → d.ks[j]? = some x → whoB x = true) → d.ks.all whoB = true) := fun hh => List.all_eq_true.2 fun x hx => by
    obtain ⟨j, hj, e⟩ := List.mem_iff_getElem.1 hx
    exact hh j x (by rw [HNk.out]; exact hj) (by rw [← e]; exact List.getElem?_eq_getElem hj)
  have HOne : Hid (∀ (j : Nat) (x : Int), d.ks[j]? = some x → whoB x = false → d.ks.all whoB = false) := fun j x hj hx => by
    rw [← Bool.not_eq_true]
    intro hh
    rw [List.all_eq_true.1 hh x (List.mem_of_getElem? hj)] at hx
    cases hx
  have HGet : Hid (∀ j : Nat, j < c.nk → ∃ x, d.ks[j]? = some x) := fun j hj => ⟨_, List.getElem?_eq_getElem (by rw [← HNk.out]; exact hj)⟩
  clear HNk
  go_enter Tryz.func19, Tryz.ntmps19
  go_wp2_with (first
    | (go_at_call 17; (with_reducible refine (HP0.out _).mono ?_); rintro e w1 ⟨rfl, b1⟩; obtain ⟨z11, z16, z17, z20, z21, z22⟩ := HCe.out _ b1)
    | (go_at_call 44; (with_reducible refine (HUs.out _).mono ?_); rintro e w2 ⟨rfl, hw⟩; have hw := hw.symm; subst hw))
  have B1 := Lib.hid b1
  clear b1 z11 z16 z17 z20 z21 z22 y15
  go_loopw [4] (fun v wr => ∃ k : Nat, k ≤ c.nk ∧ v = .int .i64 (k : Int) ∧ (∀ j (x : Int), j < k → d.ks[j]? = some x → whoB x = true) ∧ Below (w.alloc (.cells c.row 30)).heap.size (w.alloc (.cells c.row 30)) wr) (fun v _ => c.nk - (intOf v).toNat)
  case atStart => exact ⟨0, by omega, rfl, fun j x hj => absurd hj (by omega), B1.out⟩
  case round =>
    obtain ⟨k, hk, rfl, hall, hbk⟩ := hrel
    obtain ⟨z11, z16, z17, z20, z21, z22⟩ := HCe.out _ hbk
    by_cases hlt : k < c.nk
    · have qk : decide ((k : Int) < (c.nk : Int)) = true := decide_eq_true (by omega)
      obtain ⟨x, hx⟩ := HGet.out k hlt
      obtain ⟨b, off, hak, hcell⟩ := HK.out k x hx
      have cx := hcell _ (HB.out.trans (hbk.mono HB.out.size))
      have hlo : (0 : Int) ≤ (k : Int) := by omega
      have hhi : (k : Int) < (c.nk : Int) := by omega
      rw [hak] at z17
      clear hak
      have HPx := Lib.hid (HPr.out x)
      have HBk := Lib.hid hbk
      have HNext : Hid (whoB x = true → ∀ j (y : Int), j < k + 1 → d.ks[j]? = some y → whoB y = true) := fun hw j y hj hy => by
        by_cases hjk : j < k
        · exact hall j y hjk hy
        · have : j = k := by omega
          subst this
          rw [hx] at hy
          rw [← Option.some.inj hy]
          exact hw
      have HBad : Hid (whoB x = false → d.ks.all whoB = false) := fun hw => HOne.out k x hx hw
      clear hall hcell hx hbk
      generalize whoB x = wb at *
      cases wb with
      | false =>
        obtain rfl : D = false := HD.out.symm.trans (HBad.out rfl)
        go_wp2_with (go_at_call 17; (with_reducible refine (HPx.out _).mono ?_); rintro e w3 ⟨rfl, b3⟩)
        go_ret2
        exact ⟨by simp [cliR], HB.out.trans ((HBk.out.trans (b3.mono HBk.out.size)).mono HB.out.size)⟩
      | true =>
        have HNx := Lib.hid (HNext.out rfl)
        clear HNext HBad
        go_wp2_with (go_at_call 17; (with_reducible refine (HPx.out _).mono ?_); rintro e w3 ⟨rfl, b3⟩)
        go_roundw
        case rel => exact ⟨k + 1, by omega, by go_num, HNx.out, HBk.out.trans (b3.mono HBk.out.size)⟩
        case measure => simp [intOf]; omega
    · have qk : decide ((k : Int) < (c.nk : Int)) = false := decide_eq_false (by omega)
      have hkn : k = c.nk := by omega
      subst hkn
      obtain rfl : D = true := HD.out.symm.trans (HAll.out hall)
      have HBk := Lib.hid hbk
      have HAlk := Lib.hid (HAl.out _ hbk)
      clear hall hbk HAll HOne HGet HAl
      by_cases hE : E = 0
      · subst hE
        cases G with
        | false =>
          go_wp2_with (first
            | (go_at_call 45; (with_reducible refine HAlk.out.mono ?_); rintro e w4 ⟨rfl, b4⟩; have B4 := Lib.hid (HBk.out.trans (b4.mono HBk.out.size)); clear z11 z16 z17 z20 z21 z22; obtain ⟨z11, z16, z17, z20, z21, z22⟩ := HCe.out _ B4.out)
            | (go_at_call 46; (with_reducible refine (HRt.out _).mono ?_); rintro e w5 ⟨rfl, hw⟩; have hw := hw.symm; subst hw))
          go_ret2
          exact ⟨by simp [cliR], HB.out.trans (B4.out.mono HB.out.size)⟩
        | true =>
          go_wp2_with (first
            | (go_at_call 45; (with_reducible refine HAlk.out.mono ?_); rintro e w4 ⟨rfl, b4⟩; have B4 := Lib.hid (HBk.out.trans (b4.mono HBk.out.size)); clear z11 z16 z17 z20 z21 z22; obtain ⟨z11, z16, z17, z20, z21, z22⟩ := HCe.out _ B4.out)
            | (go_at_call 46; (with_reducible refine (HRt.out _).mono ?_); rintro e w5 ⟨rfl, hw⟩; have hw := hw.symm; subst hw))
          go_ret2
          exact ⟨by simp [cliR], HB.out.trans (B4.out.mono HB.out.size)⟩
      · have qe : (E != 0) = true := by simpa using hE
        go_wp2_with (go_at_call 45; (with_reducible refine HAlk.out.mono ?_); rintro e w4 ⟨rfl, b4⟩; have B4 := Lib.hid (HBk.out.trans (b4.mono HBk.out.size)))
        go_ret2
        exact ⟨by simp [cliR, hE], HB.out.trans (B4.out.mono HB.out.size)⟩
end Go.Proofs.YtkdljicagepebaaGreatDoor

namespace Go.Proofs.YtkdljicagepebaaGreatDoor
open Go.RowKit

def strs (l : List ByteArray) : List Value := l.map Value.string
theorem strs_snoc (l : List ByteArray) (x : ByteArray) : strs (l ++ [x]) = strs l ++ [.string x] := by simp [strs]
/-- A row of the call's own that holds strings reads as them. -/
theorem TextsAt.ofRow {w : World} {base : Nat} {v : Value} {l : List ByteArray} (h : w.ownsRow base 9 1 v l.length (strs l)) (hn : l = [] → v = .slice none 0 0) : TextsAt w v l := by
  by_cases hl : l = []
  · subst hl
    rw [hn rfl]
    exact TextsAt.nil w
  · have hown := h
    obtain ⟨_, hcase⟩ := h
    rcases hcase with ⟨_, h0⟩ | ⟨g, cap', cur, rfl, hg, hh, hn, hcap, hsz, htake⟩
    · exact absurd (List.length_eq_zero_iff.1 h0) hl
    · refine ⟨some ⟨g, 0, none⟩, cap', rfl, fun _ => ⟨g, 0, rfl, (Array.getElem?_eq_some_iff.1 hh).1, fun k x hk => ?_⟩⟩
      have hk' := (List.getElem?_eq_some_iff.1 hk).1
      rw [Nat.zero_add, hown.cellAt k (by omega)]
      simp [strs, hk]
theorem infoStr : (Tryz.prog.info? 9).map (fun i => (i.zero, i.size, i.bytes)) = some (some (.string ⟨#[]⟩), 1, 16) := by kernel_rfl
theorem str_one (x : ByteArray) : ∀ u ∈ [Value.string x], u.oneCell' = true := by simp [Value.oneCell']
end Go.Proofs.YtkdljicagepebaaGreatDoor
