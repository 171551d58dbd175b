/- Part 29 of what the statement wants. -/
import Derived.WalkKit
import Derived.Lib.SliceRun
import Derived.Lib.Walk
import Derived.Test.YtgoinpibllomfaaDoorPk01
import Derived.Test.YtgoinpibllomfaaDoorPk23
import Derived.Test.YtgoinpibllomfaaDoorPk25
import Derived.Test.YtgoinpibllomfaaDoorPk27
import Derived.Test.YtgoinpibllomfaaDoorPk28
namespace Go.Proofs.YtgoinpibllomfaaDoor
open Go.RowKit

theorem sizeConfRow {c : CfV} : (Tryd.prog.info? 51).map (·.size) = some c.row.size := by rw [CfV.row_size]; exact sizeZ
/-- What is said, its lists spelled. -/
theorem Inits25.spelled {w : World} {C : ByteArray} {p : Nat → List (List UInt8)} {p1 p2 p3 p4 p5 : Bool} {e : Ending} {w' : World} (h : Inits25 w C p p1 p2 p3 p4 p5 e w') : ∃ q : Nat → Option Addr × Nat × Nat, e = .returned (.agg #[.string C, .slice (q 0).1 (q 0).2.1 (q 0).2.2, .slice (q 1).1 (q 1).2.1 (q 1).2.2, .slice (q 2).1 (q 2).2.1 (q 2).2.2, .slice (q 3).1 (q 3).2.1 (q 3).2.2, .slice (q 4).1 (q 4).2.1 (q 4).2.2, .slice (q 5).1 (q 5).2.1 (q 5).2.2, .slice (q 6).1 (q 6).2.1 (q 6).2.2, .slice (q 7).1 (q 7).2.1 (q 7).2.2, .slice none 0 0, .slice none 0 0, .bool p1, .bool p2, .bool p3, .bool p4, .bool p5]) ∧ (∀ k < 8, TextsAt w' (.slice (q k).1 (q k).2.1 (q k).2.2) ((p k).map bs)) ∧ Below w.heap.size w w' := by
  obtain ⟨u, rfl, hu, hb⟩ := h
  have hq : ∀ k, ∃ x : Option Addr × Nat × Nat, k < 8 → u k = .slice x.1 x.2.1 x.2.2 := fun k => by
    by_cases hk : k < 8
    · obtain ⟨a, c, e, _⟩ := hu k hk
      exact ⟨(a, _, c), fun _ => e⟩
    · exact ⟨(none, 0, 0), fun h => absurd h hk⟩
  have hq2 := Classical.axiomOfChoice hq
  obtain ⟨q, hq⟩ := hq2
  refine ⟨q, ?_, fun k hk => by rw [← hq k hk]; exact hu k hk, hb⟩
  unfold initV
  rw [hq 0 (by omega), hq 1 (by omega), hq 2 (by omega), hq 3 (by omega), hq 4 (by omega), hq 5 (by omega), hq 6 (by omega), hq 7 (by omega)]
end Go.Proofs.YtgoinpibllomfaaDoor

namespace Go.Proofs.YtgoinpibllomfaaDoor
open Go.RowKit Go.Lib

theorem infoGrant : (Tryd.prog.info? 62).map (fun i => (i.zero, i.size, i.bytes)) = some (some (.agg #[.string ⟨#[]⟩, .int .i64 0]), 2, 24) := by kernel_rfl
theorem zeroGrant : (Value.agg #[.string ⟨#[]⟩, .int .i64 0]).cells.size = 2 := by first | rfl | simp [Value.cells] | kernel_rfl
theorem grants_row {w : World} {B : Nat} {v : Value} {l : List GrantR} (h : w.ownsRow B 62 2 v l.length (grantCells l)) (hne : l ≠ []) : GrantsAt w v l := by
  rcases h.2 with ⟨_, h0⟩ | ⟨g, c, cur, rfl, _⟩
  · exact absurd (List.length_eq_zero_iff.1 h0) hne
  · have hlt := (h.lt g rfl).2
    refine ⟨_, c, rfl, fun _ => ⟨g, 0, rfl, hlt, fun k x hk => ?_⟩⟩
    obtain ⟨h1, h2⟩ := grantCells_get l k x hk
    have hkl := (List.getElem?_eq_some_iff.1 hk).1
    have hc := grantCells_len l
    unfold GrantAt
    rw [Nat.zero_add]
    exact ⟨(h.cellAt (k * 2) (by omega)).trans h1, (h.cellAt (k * 2 + 1) (by omega)).trans h2⟩
set_option maxHeartbeats 2000000 in
set_option maxRecDepth 100000 in
theorem cloneG_row (b off n c : Nat) (news : List Value) (w : World) (hl : news.length = n * 2) (hn : n ≤ 1000) (hc : ∀ j u, news[j]? = some u → w.cell? ⟨b, off + j, none⟩ = some u) (h1 : ∀ u ∈ news, u.oneCell' = true) :
    Calls Tryd.prog 32 #[.slice (some ⟨b, off, none⟩) n c] w fun e w' => ∃ v', e = .returned v' ∧ w'.ownsRow w.heap.size 62 2 v' n news ∧ Below w.heap.size w w' := by
  obtain ⟨i0, hi, hz0, hz1, hz2⟩ := info_parts infoGrant
  have A := Lib.hid hc
  clear hc
  have q22 : ∀ (w : World) (a : Option Addr) (n c n' c' : Nat), (binOp .eql 22 (.slice a n c) (.slice none n' c')).run Tryd.prog w = .ok (.bool a.isNone) w := fun w a n c n' c' => Lib.run_eql_slice_nil w _ _ a n c n' c' Tryd.underlying22
  go_enter Tryd.func32, Tryd.ntmps32
  go_wp2_with (at_builtin; refine wpList_append_own _ rfl _ _ 22 rfl w.heap.size 62 i0 (.agg #[.string ⟨#[]⟩, .int .i64 0]) 2 24 Tryd.underlying22 hi hz0 hz1 hz2 zeroGrant (by decide) _ _ _ rfl (World.ownsRow_made w #[] 0 (Nat.le_refl _) (Nat.zero_le _) (by simp)) ⟨b, off, none⟩ n c news rfl ?qc1 ?qc2 ?qc3 ?qc4 ?qc5 ?qc6 ?_)
  case qc1 => exact hl
  case qc2 =>
    intro j u hj
    rw [Addr.add_lit]
    exact Lib.cell?_alloc_some _ (A.out j u hj)
  case qc3 => exact h1
  case qc4 => rw [Nat.zero_add]; unfold maxLen; omega
  case qc5 => rw [Nat.zero_add]; omega
  case qc6 => simp
  intro v' w1 hown hgrow hnil
  go_wp2
  go_ret
  refine ⟨v', rfl, by simpa using hown, ?_⟩
  exact ((Below.refl _ w).alloc (Nat.le_refl _) _).grown hgrow (by simp) (by intro k hk; simp [Value.ownBlock] at hk; omega)
set_option maxHeartbeats 2000000 in
set_option maxRecDepth 100000 in
theorem cloneG_zero (a : Addr) (c : Nat) (w : World) :
    Calls Tryd.prog 32 #[.slice (some a) 0 c] w fun e w' => ∃ v', e = .returned v' ∧ w'.ownsRow w.heap.size 62 2 v' 0 [] ∧ Below w.heap.size w w' := by
  obtain ⟨i0, hi, hz0, hz1, hz2⟩ := info_parts infoGrant
  have q22 : ∀ (w : World) (a : Option Addr) (n c n' c' : Nat), (binOp .eql 22 (.slice a n c) (.slice none n' c')).run Tryd.prog w = .ok (.bool a.isNone) w := fun w a n c n' c' => Lib.run_eql_slice_nil w _ _ a n c n' c' Tryd.underlying22
  go_enter Tryd.func32, Tryd.ntmps32
  go_wp2_with (at_builtin; refine wpList_append_own _ rfl _ _ 22 rfl w.heap.size 62 i0 (.agg #[.string ⟨#[]⟩, .int .i64 0]) 2 24 Tryd.underlying22 hi hz0 hz1 hz2 zeroGrant (by decide) _ _ _ rfl (World.ownsRow_made w #[] 0 (Nat.le_refl _) (Nat.zero_le _) (by simp)) a 0 c [] rfl rfl (by intro j u hj; simp at hj) (by intro u hu; cases hu) (by unfold maxLen; omega) (by omega) (by simp) ?_)
  intro v' w1 hown hgrow hnil
  go_wp2
  go_ret
  refine ⟨v', rfl, by simpa using hown, ?_⟩
  exact ((Below.refl _ w).alloc (Nat.le_refl _) _).grown hgrow (by simp) (by intro k hk; simp [Value.ownBlock] at hk; omega)
set_option maxRecDepth 100000 in
theorem cloneG_nil (n c : Nat) (w : World) : Calls Tryd.prog 32 #[.slice none n c] w fun e w' => e = .returned (.slice none 0 0) ∧ w' = w := by
  have q22 : ∀ (w : World) (a : Option Addr) (n c n' c' : Nat), (binOp .eql 22 (.slice a n c) (.slice none n' c')).run Tryd.prog w = .ok (.bool a.isNone) w := fun w a n c n' c' => Lib.run_eql_slice_nil w _ _ a n c n' c' Tryd.underlying22
  go_enter Tryd.func32, Tryd.ntmps32
  go_wp2
  go_ret
  exact ⟨rfl, rfl⟩
theorem cloneG_own {w : World} {v : Value} {l : List GrantR} (h : GrantsAt w v l) (hl : l.length ≤ 1000) :
    Calls Tryd.prog 32 #[v] w fun e w' => ∃ v', e = .returned v' ∧ GrantsAt w' v' l ∧ (∃ a n c, v' = .slice a n c) ∧ OwnFrom w' w.heap.size 62 v' ∧ Below w.heap.size w w' := by
  obtain ⟨ao, cap, rfl, hc⟩ := h
  cases ao with
  | none =>
    have hnil : l = [] := by
      by_cases h : l = []
      · exact h
      · obtain ⟨_, _, e, _⟩ := hc h; cases e
    subst hnil
    exact (cloneG_nil _ cap w).mono fun e w' ⟨he, hw⟩ => ⟨_, he, GrantsAt.nil _, ⟨_, _, _, rfl⟩, OwnFrom.nil _ _ _ _ _, hw ▸ Below.refl _ _⟩
  | some a =>
    cases l with
    | nil =>
      refine (cloneG_zero a cap w).mono fun e w' ⟨v', he, ho, hb⟩ => ⟨v', he, ?_, ?_, OwnFrom.ofRow ho, hb⟩
      · rcases ho.2 with ⟨rfl, _⟩ | ⟨g, c, cur, rfl, _⟩
        · exact GrantsAt.nil _
        · exact ⟨_, c, rfl, fun h => absurd rfl h⟩
      · rcases ho.2 with ⟨rfl, _⟩ | ⟨g, c, cur, rfl, _⟩
        · exact ⟨_, _, _, rfl⟩
        · exact ⟨_, _, _, rfl⟩
    | cons x r =>
      obtain ⟨b, off, e, hb, hcell⟩ := hc (by simp)
      cases e
      refine (cloneG_row b off (x :: r).length cap (grantCells (x :: r)) w (grantCells_len _) hl ?_ ?_).mono fun e w' ⟨v', he, ho, hb'⟩ => ⟨v', he, grants_row ho (by simp), ?_, OwnFrom.ofRow ho, hb'⟩
      · intro j u hj
        have hjl := (List.getElem?_eq_some_iff.1 hj).1
        rw [grantCells_len] at hjl
        have hk : j / 2 < (x :: r).length := by omega
        obtain ⟨h1, h2⟩ := hcell (j / 2) _ (List.getElem?_eq_getElem hk)
        obtain ⟨g1, g2⟩ := grantCells_get (x :: r) (j / 2) _ (List.getElem?_eq_getElem hk)
        rcases Nat.mod_two_eq_zero_or_one j with hm | hm
        · have e : j / 2 * 2 = j := by omega
          rw [e] at h1 g1
          rw [h1, ← g1, hj]
        · have e : j / 2 * 2 + 1 = j := by omega
          rw [e] at g2
          rw [Nat.add_assoc, e] at h2
          rw [h2, ← g2, hj]
      · intro u hu
        unfold grantCells at hu
        obtain ⟨y, _, hu⟩ := List.mem_flatMap.1 hu
        simp only [List.mem_cons, List.not_mem_nil, or_false] at hu
        rcases hu with rfl | rfl <;> rfl
      · rcases ho.2 with ⟨rfl, _⟩ | ⟨g, c, cur, rfl, _⟩
        · exact ⟨_, _, _, rfl⟩
        · exact ⟨_, _, _, rfl⟩
end Go.Proofs.YtgoinpibllomfaaDoor

namespace Go.Proofs.YtgoinpibllomfaaDoor
open Go.RowKit

theorem cloneS_own {w : World} {v : Value} {l : List ByteArray} (h : TextsAt w v l) (hl : l.length ≤ 8796093022208) :
    Calls Tryd.prog 33 #[v] w fun e w' => ∃ a n c, e = .returned (.slice a n c) ∧ TextsAt w' (.slice a n c) l ∧ OwnFrom w' w.heap.size 9 (.slice a n c) ∧ Below w.heap.size w w' := by
  obtain ⟨ao, cap, rfl, hc⟩ := h
  cases ao with
  | none =>
    have hnil : l = [] := by
      by_cases h : l = []
      · exact h
      · obtain ⟨_, _, e, _⟩ := hc h; cases e
    subst hnil
    exact (Tryd.slices_Clone_string_nil _ cap w).mono fun e w' ⟨he, hw⟩ => ⟨_, _, _, he, TextsAt.nil _, OwnFrom.nil _ _ _ _ _, hw ▸ Below.refl _ _⟩
  | some a =>
    cases l with
    | nil =>
      refine (Tryd.slices_Clone_string_zero a cap w).mono fun e w' ⟨v', he, ho, _, hb⟩ => ?_
      have hw := OwnFrom.ofRow ho
      rcases ho.2 with ⟨rfl, _⟩ | ⟨g, c, cur, rfl, _⟩
      · exact ⟨_, _, _, he, TextsAt.nil _, hw, hb⟩
      · exact ⟨_, _, _, he, ⟨_, c, rfl, fun h => absurd rfl h⟩, hw, hb⟩
    | cons x r =>
      obtain ⟨b, off, e, hb, hcell⟩ := hc (by simp)
      cases e
      refine (Tryd.slices_Clone_string b off (x :: r).length cap (x :: r) w (Nat.le_refl _) (by omega) (fun j hj => hcell j _ (by rw [List.getD_eq_getElem?_getD, List.getElem?_eq_getElem hj]; rfl))).mono fun e w' ⟨v', he, ho, hne, hb'⟩ => ?_
      rw [List.take_length] at ho
      have hw := OwnFrom.ofRow ho
      have ht := TextsAt.ofRow (l := x :: r) ho (fun h => by cases h)
      obtain ⟨a', c', rfl, _⟩ := id ht
      exact ⟨_, _, _, he, ht, hw, hb'⟩
theorem ids_row25 {w : World} {base : Nat} {v : Value} {l : List Int} (h : w.ownsRow base 3 1 v l.length (l.map (Value.int .i64))) (hl : l ≠ []) : IdsAt w v l := by
  have hown := h
  obtain ⟨_, hcase⟩ := h
  rcases hcase with ⟨_, h0⟩ | ⟨g, cap', cur, rfl, hg, hh, hn, hcap, hsz, htake⟩
  · exact absurd (List.length_eq_zero_iff.1 h0) hl
  · refine ⟨some ⟨g, 0, none⟩, cap', rfl, fun _ => ⟨g, 0, rfl, (Array.getElem?_eq_some_iff.1 hh).1, fun k x hk => ?_⟩⟩
    have hk' := (List.getElem?_eq_some_iff.1 hk).1
    rw [Nat.zero_add, hown.cellAt k (by omega)]
    simp [hk]
theorem cloneI_own {w : World} {v : Value} {l : List Int} (h : IdsAt w v l) (hl : l.length ≤ 1000) :
    Calls Tryd.prog 42 #[v] w fun e w' => ∃ a n c, e = .returned (.slice a n c) ∧ IdsAt w' (.slice a n c) l ∧ OwnFrom w' w.heap.size 3 (.slice a n c) ∧ Below w.heap.size w w' := by
  obtain ⟨ao, cap, rfl, hc⟩ := h
  cases ao with
  | none =>
    have hnil : l = [] := by
      by_cases h : l = []
      · exact h
      · obtain ⟨_, _, e, _⟩ := hc h; cases e
    subst hnil
    exact (Tryd.slices_Clone_int_nil _ cap w).mono fun e w' ⟨he, hw⟩ => ⟨_, _, _, he, IdsAt.nil _, OwnFrom.nil _ _ _ _ _, hw ▸ Below.refl _ _⟩
  | some a =>
    cases l with
    | nil =>
      refine (Tryd.slices_Clone_int_zero a cap w).mono fun e w' ⟨v', he, ho, _, hb⟩ => ?_
      have hw := OwnFrom.ofRow ho
      rcases ho.2 with ⟨rfl, _⟩ | ⟨g, c, cur, rfl, _⟩
      · exact ⟨_, _, _, he, IdsAt.nil _, hw, hb⟩
      · exact ⟨_, _, _, he, ⟨_, c, rfl, fun h => absurd rfl h⟩, hw, hb⟩
    | cons x r =>
      obtain ⟨b, off, e, hb, hcell⟩ := hc (by simp)
      cases e
      refine (Tryd.slices_Clone_int b off (x :: r).length cap (x :: r) w (Nat.le_refl _) (by omega) (fun j hj => hcell j _ (by rw [List.getD_eq_getElem?_getD, List.getElem?_eq_getElem hj]; rfl))).mono fun e w' ⟨v', he, ho, hne, hb'⟩ => ?_
      rw [List.take_length] at ho
      have hw := OwnFrom.ofRow ho
      have ht := ids_row25 (l := x :: r) ho (by simp)
      obtain ⟨a', c', rfl, _⟩ := id ht
      exact ⟨_, _, _, he, ht, hw, hb'⟩
/-- What a copy is: the same but for its lists, which are new. -/
structure CopyOf (c : CfV) (d : CfL) (B : Nat) (w : World) (c2 : CfV) : Prop where
  at_ : CfAt w c2 d
  same : c2.sv = c.sv ∧ c2.so = c.so ∧ c2.co = c.co ∧ c2.ow = c.ow ∧ c2.li = c.li ∧ c2.pe = c.pe ∧ c2.us = c.us ∧ c2.ex = c.ex ∧ c2.gu = c.gu ∧ c2.w0 = c.w0 ∧ c2.w1 = c.w1 ∧ c2.w2 = c.w2
  pf : ∀ k < 8, TextsO w (c2.u k) ((d.p k).map bs)
  pn : ∀ k < 8, d.p k ≠ [] → ∀ g, (c2.u k).ownBlock = some g → B ≤ g
  al : OwnFrom w B 9 (.slice c2.aa c2.na c2.ca)
  gr : OwnFrom w B 62 (.slice c2.ag c2.ng c2.cg)
  ks : OwnFrom w B 3 (.slice c2.ak c2.nk c2.ck)
theorem GrantsAt.moves {S : Nat → Prop} {w w' : World} {v : Value} {l : List GrantR} (h : GrantsAt w v l) (m : Moves S w w') (hS : ∀ k, v.ownBlock = some k → ¬ S k) : GrantsAt w' v l := by
  obtain ⟨ao, cap, rfl, hc⟩ := h
  refine ⟨ao, cap, rfl, fun hne => ?_⟩
  obtain ⟨b, off, rfl, hlt, hh⟩ := hc hne
  refine ⟨b, off, rfl, Nat.lt_of_lt_of_le hlt m.size, fun k x hk => ?_⟩
  obtain ⟨h1, h2⟩ := hh k x hk
  exact ⟨(m.cell (p := ⟨b, off + k * 2, none⟩) hlt (hS b rfl)).trans h1, (m.cell (p := ⟨b, off + k * 2 + 1, none⟩) hlt (hS b rfl)).trans h2⟩
end Go.Proofs.YtgoinpibllomfaaDoor
