/- Part 16 of what the statement wants. -/
import Derived.Test.YtobhpclemmhpoaaGreatDoorPk15
namespace Go.Proofs.YtobhpclemmhpoaaGreatDoor
open Go.RowKit

def pickP (ids : List Int) (texts : List (List UInt8)) (i : Int) : Int × List UInt8 := if 0 ≤ i ∧ i < ids.length then (ids.getD i.toNat (-1), texts.getD i.toNat []) else (-1, [])
def letterL (s : List UInt8) : UInt8 := s.headD 0

set_option maxRecDepth 100000 in
theorem Pick_any {w : World} {vi vt : Value} {ids : List Int} {texts : List (List UInt8)} (hI : IdsAt w vi ids) (hT : TextsAt w vt (texts.map bs)) (hl : texts.length = ids.length) (_hn : ids.length ≤ 1000000) (i : Int) :
    Calls Tryz.prog 20 #[.agg #[vi, vt], .int .i64 i] w fun e w' => e = .returned (.tuple #[.int .i64 (pickP ids texts i).1, .string (bs (pickP ids texts i).2)]) ∧ Below w.heap.size w w' := by
  obtain ⟨ai, ci, rfl, hIc⟩ := hI
  obtain ⟨at', ct, rfl, hTc⟩ := hT
  rw [List.length_map, hl]
  by_cases h0 : 0 ≤ i
  · by_cases h1 : i < ids.length
    · obtain ⟨k, rfl⟩ : ∃ k : Nat, i = k := ⟨i.toNat, by omega⟩
      have hk : k < ids.length := by omega
      have hkt : k < texts.length := by omega
      have HE : Hid (pickP ids texts (k : Int) = (ids[k], texts[k])) := by
        show _ = _
        unfold pickP
        rw [if_pos ⟨by omega, by omega⟩]
        simp [List.getD, hk, hkt]
      rw [HE.out]
      simp only
      obtain ⟨bi, oi, rfl, hbi, hci⟩ := hIc (by intro h; rw [h] at hk; simp at hk)
      obtain ⟨bt, ot, rfl, hbt, hct⟩ := hTc (by intro h; simp at h; rw [h] at hkt; simp at hkt)
      have c1 := hci k ids[k] (by simp [hk])
      have c2 := hct k (bs texts[k]) (by simp [hkt])
      obtain ⟨W1, hW1⟩ : ∃ W1, W1 = w.alloc (.cells #[.slice (some ⟨bi, oi, none⟩) ids.length ci, .slice (some ⟨bt, ot, none⟩) ids.length ct] 47) := ⟨_, rfl⟩
      have hB : Below w.heap.size w W1 := by rw [hW1]; exact (Below.refl _ _).alloc (Nat.le_refl _) _
      have d1 := (hB.cell (p := ⟨bi, oi + k, none⟩) hbi).trans c1
      have d2 := (hB.cell (p := ⟨bt, ot + k, none⟩) hbt).trans c2
      have hH : Holds W1 w.heap.size 47 #[.slice (some ⟨bi, oi, none⟩) ids.length ci, .slice (some ⟨bt, ot, none⟩) ids.length ct] := by rw [hW1]; exact Holds.new _ _ _
      have m0 := hH.cell 0
      have m1 := hH.cell 1
      have q1 : decide ((k : Int) < 0) = false := decide_eq_false (by omega)
      have q2 : decide ((k : Int) ≥ (ids.length : Int)) = false := decide_eq_false (by omega)
      have q3 : decide (k ≥ ids.length) = false := decide_eq_false (by omega)
      have HB := Lib.hid hB
      clear hci hct hIc hTc c1 c2 HE hB hH
      generalize ids[k] = y at *
      generalize bs texts[k] = Y at *
      clear h0 h1 hkt
      clear hl
      generalize ids.length = n at *
      go_enter Tryz.func20, Tryz.ntmps20
      go_wp2_with fail
      rw [← hW1]
      clear hW1
      go_quiet (fail)
      go_wp2_with fail
      go_ret2
      exact ⟨rfl, belN HB.out _⟩
    · have HE : Hid (pickP ids texts i = (-1, [])) := if_neg (fun h => h1 h.2)
      rw [HE.out]
      have q1 : decide (i < 0) = false := decide_eq_false (by omega)
      have q2 : decide (i ≥ (ids.length : Int)) = true := decide_eq_true (by omega)
      have HB := Lib.hid ((Below.refl w.heap.size w).alloc (Nat.le_refl _) (.cells #[.slice ai ids.length ci, .slice at' ids.length ct] 47))
      clear hIc hTc HE h0 h1
      clear hl
      generalize ids.length = n at *
      go_enter Tryz.func20, Tryz.ntmps20
      go_wp2_with fail
      go_ret2
      exact ⟨rfl, HB.out⟩
  · have HE : Hid (pickP ids texts i = (-1, [])) := if_neg (fun h => h0 h.1)
    rw [HE.out]
    have q1 : decide (i < 0) = true := decide_eq_true (by omega)
    have HB := Lib.hid ((Below.refl w.heap.size w).alloc (Nat.le_refl _) (.cells #[.slice ai ids.length ci, .slice at' ids.length ct] 47))
    clear hIc hTc HE h0
    clear hl
    generalize ids.length = n at *
    go_enter Tryz.func20, Tryz.ntmps20
    go_wp2_with fail
    go_ret2
    exact ⟨rfl, HB.out⟩

set_option maxRecDepth 100000 in
theorem letter_any (s : List UInt8) (w : World) : Calls Tryz.prog 48 #[.string (bs s)] w fun e w' => e = .returned (.int .u8 ((letterL s).toNat : Int)) ∧ Below w.heap.size w w' := by
  cases s with
  | nil =>
    rw [show bs ([] : List UInt8) = ⟨#[]⟩ from rfl]
    go_enter Tryz.func48, Tryz.ntmps48
    go_wp2
    go_ret
    exact ⟨rfl, Below.refl _ _⟩
  | cons b r =>
    have hi0 : ∀ W : World, (Instr.index 9 (.string (bs (b :: r))) (.int .i64 0)).run Tryz.prog W = .ok (.int .u8 (b.toNat : Int)) W := fun W => index_bs (b :: r) 0 (by simp) W
    have hsz := bs_size (b :: r)
    simp only [List.length_cons] at hsz
    have q : decide (((bs (b :: r)).size : Int) > 0) = true := decide_eq_true (by omega)
    have qn : 0 < (bs (b :: r)).size := by omega
    have HE : Hid (letterL (b :: r) = b) := rfl
    rw [HE.out]
    clear hsz
    generalize bs (b :: r) = S at *
    generalize b.toNat = n at *
    go_enter Tryz.func48, Tryz.ntmps48
    go_wp2
    go_ret
    exact ⟨rfl, Below.refl _ _⟩
end Go.Proofs.YtobhpclemmhpoaaGreatDoor

namespace Go.Proofs.YtobhpclemmhpoaaGreatDoor
open Go.RowKit

def runN (len : Nat) (from' many : Int) : Nat := if 0 ≤ from' ∧ from' ≤ len then min (min many.toNat 40) (len - from'.toNat) else 0
def runP {α : Type} (l : List α) (len : Nat) (from' many : Int) : List α := (l.drop from'.toNat).take (runN len from' many)
theorem take_next {α : Type} (l : List α) {k : Nat} (hk : k < l.length) : l.take (k + 1) = l.take k ++ [l[k]] := List.take_succ_eq_append_getElem hk

set_option maxHeartbeats 1000000 in
set_option maxRecDepth 100000 in
theorem run_any {w : World} {vi vt : Value} {ids : List Int} {texts : List (List UInt8)} (hI : IdsAt w vi ids) (hT : TextsAt w vt (texts.map bs)) (hl : texts.length = ids.length) (hn : ids.length ≤ 1000000) (fr many : Int) :
    Calls Tryz.prog 50 #[.agg #[vi, vt], .int .i64 fr, .int .i64 many] w fun e w' => ∃ ui ut, e = .returned (.tuple #[ui, ut]) ∧ IdsAt w' ui (runP ids ids.length fr many) ∧ TextsAt w' ut ((runP texts ids.length fr many).map bs) ∧ Below w.heap.size w w' := by
  obtain ⟨ai, ci, rfl, hIc⟩ := hI
  obtain ⟨at', ct, rfl, hTc⟩ := hT
  rw [List.length_map, hl]
  obtain ⟨W1, hW1⟩ : ∃ W1, W1 = w.alloc (.cells #[.slice ai ids.length ci, .slice at' ids.length ct] 47) := ⟨_, rfl⟩
  have hB : Below w.heap.size w W1 := by rw [hW1]; exact (Below.refl _ _).alloc (Nat.le_refl _) _
  have hH : Holds W1 w.heap.size 47 #[.slice ai ids.length ci, .slice at' ids.length ct] := by rw [hW1]; exact Holds.new _ _ _
  have HB := Lib.hid hB
  have HH := Lib.hid hH
  have m0 := hH.cell 0
  have m1 := hH.cell 1
  have hHl := hH.lt
  by_cases h0 : 0 ≤ fr
  · by_cases h1 : fr ≤ ids.length
    · obtain ⟨f, rfl⟩ : ∃ f : Nat, fr = f := ⟨fr.toNat, by omega⟩
      have hf : f ≤ ids.length := by omega
      have HR : Hid (runN ids.length (f : Int) many = min (min many.toNat 40) (ids.length - f)) := by
        show _ = _
        unfold runN
        rw [if_pos ⟨by omega, by omega⟩]
        simp
      have q1 : decide ((f : Int) < 0) = false := decide_eq_false (by omega)
      have q2 : decide ((f : Int) > (ids.length : Int)) = false := decide_eq_false (by omega)
      have q3 : decide (f > ids.length) = false := decide_eq_false (by omega)
      obtain ⟨i0, hi, hz0, hz1, hz2⟩ := info_parts infoStr
      obtain ⟨j0, hj, hy0, hy1, hy2⟩ := info_parts info_id
      have HIc := Lib.hid hIc
      have HTc := Lib.hid hTc
      have HL := Lib.hid hl
      clear hIc hTc hB hH h0 h1 hl
      obtain ⟨N, hN⟩ : ∃ N, N = ids.length := ⟨_, rfl⟩
      go_enter Tryz.func50, Tryz.ntmps50
      go_wp2_with fail
      rw [← hW1]
      clear hW1
      go_loopw [8, 9, 10] (fun v u i wr => ∃ k : Nat, i = .int .i64 (k : Int) ∧ k ≤ 40 ∧ k ≤ many.toNat ∧ k ≤ ids.length - f ∧
        wr.ownsRow W1.heap.size 36 1 v k (idCells ((ids.drop f).take k)) ∧ (k = 0 → v = .slice none 0 0) ∧
        wr.ownsRow W1.heap.size 9 1 u k (strs (((texts.drop f).take k).map bs)) ∧ (k = 0 → u = .slice none 0 0) ∧ Below W1.heap.size W1 wr) (fun _ _ i _ => 40 - (intOf i).toNat)
      case atStart => exact ⟨0, rfl, by omega, by omega, by omega, World.ownsRow_nil _ _ _ _, fun _ => rfl, World.ownsRow_nil _ _ _ _, fun _ => rfl, Below.refl _ _⟩
      case round =>
        obtain ⟨k, rfl, h40, hmk, hkl, hri, hni, hrt, hnt, hbel⟩ := hrel
        have d0 : wr.cell? ⟨w.heap.size, 0, none⟩ = some (.slice ai ids.length ci) := (hbel.cell (p := ⟨w.heap.size, 0, none⟩) hHl).trans (HH.out.cell 0)
        have d1 : wr.cell? ⟨w.heap.size, 1, none⟩ = some (.slice at' ids.length ct) := (hbel.cell (p := ⟨w.heap.size, 1, none⟩) hHl).trans (HH.out.cell 1)
        have hHl1 : w.heap.size < wr.heap.size := Nat.lt_of_lt_of_le hHl hbel.size
        have hli : ((ids.drop f).take k).length = k := by simp; omega
        have hlt' : (((texts.drop f).take k).map bs).length = k := by simp [HL.out]; omega
        have HRes : Hid (min (min many.toNat 40) (ids.length - f) = k → IdsAt wr u8 (runP ids ids.length (f : Int) many) ∧ TextsAt wr u9 ((runP texts ids.length (f : Int) many).map bs)) := fun e => by
          have h1 : runP ids ids.length (f : Int) many = (ids.drop f).take k := by unfold runP; rw [HR.out, e]; simp
          have h2 : runP texts ids.length (f : Int) many = (texts.drop f).take k := by unfold runP; rw [HR.out, e]; simp
          rw [h1, h2]
          exact ⟨IdsAt.ofRow (by rw [hli]; exact hri) (fun e => hni (by rw [← hli, e]; rfl)), TextsAt.ofRow (by rw [hlt']; exact hrt) (fun e => hnt (by rw [← hlt', e]; rfl))⟩
        have HBel := Lib.hid hbel
        by_cases c1 : (k : Int) < many
        · have p1 : decide ((k : Int) < many) = true := decide_eq_true c1
          by_cases c2 : k < 40
          · have p2 : decide ((k : Int) < 40) = true := decide_eq_true (by omega)
            have p2n : decide (k < 40) = true := decide_eq_true c2
            by_cases c3 : ids.length - f ≤ k
            · have p3 : decide ((ids.length : Int) - (f : Int) ≤ (k : Int)) = true := decide_eq_true (by omega)
              have HX := Lib.hid (HRes.out (by omega))
              clear hri hrt hni hnt hli hlt'
              go_wp2_with fail
              go_ret2
              exact ⟨_, _, rfl, HX.out.1, HX.out.2, HB.out.trans (HBel.out.mono HB.out.size)⟩
            · have p3 : decide ((ids.length : Int) - (f : Int) ≤ (k : Int)) = false := decide_eq_false (by omega)
              have hfk : f + k < ids.length := by omega
              have hfkt : f + k < texts.length := by rw [HL.out]; exact hfk
              obtain ⟨bi, oi, rfl, hbi, hci⟩ := HIc.out (by intro h; rw [h] at hfk; simp at hfk)
              obtain ⟨bt, ot, rfl, hbt, hct⟩ := HTc.out (by intro h; simp at h; rw [h] at hfkt; simp at hfkt)
              obtain ⟨y, hy⟩ : ∃ y, y = ids[f + k] := ⟨_, rfl⟩
              obtain ⟨t, ht⟩ : ∃ t, t = texts[f + k] := ⟨_, rfl⟩
              have e1 := hci (f + k) y (by simp [hfk, hy])
              have e2 := hct (f + k) (bs t) (by simp [hfkt, ht])
              have hbi1 : bi < W1.heap.size := Nat.lt_trans hbi hHl
              have hbi1 : bi < W1.heap.size := by omega
              have hbt1 : bt < W1.heap.size := by omega
              have e1' := (HB.out.cell (p := ⟨bi, oi + (f + k), none⟩) hbi).trans e1
              have e2' := (HB.out.cell (p := ⟨bt, ot + (f + k), none⟩) hbt).trans e2
              have g1 : wr.cell? ⟨bi, oi + (f + k), none⟩ = some (.int .i64 y) := (hbel.cell (p := ⟨bi, oi + (f + k), none⟩) hbi1).trans e1'
              have HNI : Hid (idCells ((ids.drop f).take (k + 1)) = idCells ((ids.drop f).take k) ++ [.int .i64 y]) := by
                show _ = _
                rw [take_next (ids.drop f) (by simp; omega), idCells_snoc, List.getElem_drop, hy]
              have HNT : Hid (strs (((texts.drop f).take (k + 1)).map bs) = strs (((texts.drop f).take k).map bs) ++ [.string (bs t)]) := by
                show _ = _
                rw [take_next (texts.drop f) (by simp; omega), List.map_append, List.map_cons, List.map_nil, strs_snoc, List.getElem_drop, ht]
              have HD1 := Lib.hid (HH.out.cell 1)
              have hap := rows_apart hrt hri (by decide)
              have HE2 := Lib.hid e2'
              clear hy ht e1 e2 e1' e2' hci hct HRes hli hlt' HIc HTc HR hni hnt d1
              generalize idCells ((ids.drop f).take k) = LI at *
              generalize strs (((texts.drop f).take k).map bs) = LT at *
              generalize bs t = T at *
              go_wp2_with (first
                | (at_builtin; refine wpList_append_own _ rfl _ _ 45 rfl W1.heap.size 9 i0 (.string ⟨#[]⟩) 1 16 Tryz.underlying45 hi hz0 hz1 hz2 rfl (by decide) _ _ _ rfl (hrt1.alloc _) ⟨w1.heap.size, 0, none⟩ 1 1 [.string T] rfl rfl (cell_one_new _ _ _) (str_one T) (by unfold maxLen; omega) (by omega) (by have := hb1w.size; simp; omega) ?_; intro v2 w2 hown2 hg2 hnn2)
                | (at_builtin; refine wpList_append_own _ rfl _ _ 44 rfl W1.heap.size 36 j0 _ 1 8 Tryz.underlying44 hj hy0 hy1 hy2 rfl (by decide) _ _ _ rfl (hri.alloc _) ⟨wr.heap.size, 0, none⟩ 1 1 [.int .i64 y] rfl rfl (cell_one_new _ _ _) (id_one y) (by unfold maxLen; omega) (by omega) (by have := hbel.size; simp; omega) ?_; intro v1 w1 hown1 hg1 hnn1; have hb1w : Below W1.heap.size W1 w1 := (hbel.alloc hbel.size _).grown hg1 (by have := hbel.size; simp; omega) (fun j hj => (hri.lt j hj).1); have d11 : w1.cell? ⟨w.heap.size, 1, none⟩ = some (.slice (some ⟨bt, ot, none⟩) ids.length ct) := (hb1w.cell (p := ⟨w.heap.size, 1, none⟩) hHl).trans HD1.out; have e21 : w1.cell? ⟨bt, ot + (f + k), none⟩ = some (.string T) := (hb1w.cell (p := ⟨bt, ot + (f + k), none⟩) hbt1).trans HE2.out; have hrt1 := World.ownsRow.kept (hrt.alloc _) hg1 hap)
                | go_in)
              have hb2w : Below W1.heap.size W1 w2 := (hb1w.alloc hb1w.size _).grown hg2 (by have := hb1w.size; simp; omega) (fun j hj => (hrt1.lt j hj).1)
              have hri2 := World.ownsRow.kept (hown1.alloc _) hg2 (rows_apart hown1 hrt1 (by decide))
              go_roundw
              case rel => exact ⟨k + 1, by go_num, by omega, by omega, by omega, by rw [HNI.out]; exact hri2, fun e => by omega, by rw [HNT.out]; exact hown2, fun e => by omega, hb2w⟩
              case measure => simp [intOf]; omega
          · have p2 : decide ((k : Int) < 40) = false := decide_eq_false (by omega)
            have p2n : decide (k < 40) = false := decide_eq_false c2
            have HX := Lib.hid (HRes.out (by omega))
            clear hri hrt hni hnt hli hlt'
            go_wp2_with fail
            go_ret2
            exact ⟨_, _, rfl, HX.out.1, HX.out.2, HB.out.trans (HBel.out.mono HB.out.size)⟩
        · have p1 : decide ((k : Int) < many) = false := decide_eq_false c1
          have HX := Lib.hid (HRes.out (by omega))
          clear hri hrt hni hnt hli hlt'
          go_wp2_with fail
          go_ret2
          exact ⟨_, _, rfl, HX.out.1, HX.out.2, HB.out.trans (HBel.out.mono HB.out.size)⟩
    · have HE : Hid (runN ids.length fr many = 0) := if_neg (fun h => h1 h.2)
      have q1 : decide (fr < 0) = false := decide_eq_false (by omega)
      have q2 : decide (fr > (ids.length : Int)) = true := decide_eq_true (by omega)
      clear hIc hTc h0 h1 hl hB hH
      go_enter Tryz.func50, Tryz.ntmps50
      go_wp2_with fail
      rw [← hW1]
      go_ret2
      exact ⟨_, _, rfl, by unfold runP; rw [HE.out]; exact IdsAt.nil _, by unfold runP; rw [HE.out]; exact TextsAt.nil _, HB.out⟩
  · have HE : Hid (runN ids.length fr many = 0) := if_neg (fun h => h0 h.1)
    have q1 : decide (fr < 0) = true := decide_eq_true (by omega)
    clear hIc hTc h0 hl hB hH
    go_enter Tryz.func50, Tryz.ntmps50
    go_wp2_with fail
    rw [← hW1]
    go_ret2
    exact ⟨_, _, rfl, by unfold runP; rw [HE.out]; exact IdsAt.nil _, by unfold runP; rw [HE.out]; exact TextsAt.nil _, HB.out⟩
end Go.Proofs.YtobhpclemmhpoaaGreatDoor
