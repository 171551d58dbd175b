/- slices.Clone of a list of grants. -/
import Derived.Test.YtjlbifpbdocahaaDoorDnP
import Derived.WalkKit
import Derived.Lib.SliceRun
import Derived.Lib.Walk
namespace Go.Proofs.YtjlbifpbdocahaaDoor
open Go.RowKit Go.Lib

theorem infoGrant : (Tryd.prog.info? 62).map (fun i => (i.zero, i.size, i.bytes)) = some (some (.agg #[.string ⟨#[]⟩, .int .i64 0]), 2, 24) := by kernel_rfl
theorem zeroGrant : (Value.agg #[.string ⟨#[]⟩, .int .i64 0]).cells.size = 2 := by first | rfl | simp [Value.cells] | kernel_rfl
theorem grants_row {w : World} {B : Nat} {v : Value} {l : List GrantR} (h : w.ownsRow B 62 2 v l.length (grantCells l)) (hne : l ≠ []) : GrantsAt w v l := by
  rcases h.2 with ⟨_, h0⟩ | ⟨g, c, cur, rfl, _⟩
  · exact absurd (List.length_eq_zero_iff.1 h0) hne
  · have hlt := (h.lt g rfl).2
    refine ⟨_, c, rfl, fun _ => ⟨g, 0, rfl, hlt, fun k x hk => ?_⟩⟩
    obtain ⟨h1, h2⟩ := grantCells_get l k x hk
    have hkl := (List.getElem?_eq_some_iff.1 hk).1
    have hc := grantCells_len l
    unfold GrantAt
    rw [Nat.zero_add]
    exact ⟨(h.cellAt (k * 2) (by omega)).trans h1, (h.cellAt (k * 2 + 1) (by omega)).trans h2⟩
set_option maxHeartbeats 2000000 in
set_option maxRecDepth 100000 in
theorem cloneG_row (b off n c : Nat) (news : List Value) (w : World) (hl : news.length = n * 2) (hn : n ≤ 1000) (hc : ∀ j u, news[j]? = some u → w.cell? ⟨b, off + j, none⟩ = some u) (h1 : ∀ u ∈ news, u.oneCell' = true) :
    Calls Tryd.prog 32 #[.slice (some ⟨b, off, none⟩) n c] w fun e w' => ∃ v', e = .returned v' ∧ w'.ownsRow w.heap.size 62 2 v' n news ∧ Below w.heap.size w w' := by
  obtain ⟨i0, hi, hz0, hz1, hz2⟩ := info_parts infoGrant
  have A := Lib.hid hc
  clear hc
  have q22 : ∀ (w : World) (a : Option Addr) (n c n' c' : Nat), (binOp .eql 22 (.slice a n c) (.slice none n' c')).run Tryd.prog w = .ok (.bool a.isNone) w := fun w a n c n' c' => Lib.run_eql_slice_nil w _ _ a n c n' c' Tryd.underlying22
  go_enter Tryd.func32, Tryd.ntmps32
  go_wp2_with (at_builtin; refine wpList_append_own _ rfl _ _ 22 rfl w.heap.size 62 i0 (.agg #[.string ⟨#[]⟩, .int .i64 0]) 2 24 Tryd.underlying22 hi hz0 hz1 hz2 zeroGrant (by decide) _ _ _ rfl (World.ownsRow_made w #[] 0 (Nat.le_refl _) (Nat.zero_le _) (by simp)) ⟨b, off, none⟩ n c news rfl ?qc1 ?qc2 ?qc3 ?qc4 ?qc5 ?qc6 ?_)
  case qc1 => exact hl
  case qc2 =>
    intro j u hj
    rw [Addr.add_lit]
    exact Lib.cell?_alloc_some _ (A.out j u hj)
  case qc3 => exact h1
  case qc4 => rw [Nat.zero_add]; unfold maxLen; omega
  case qc5 => rw [Nat.zero_add]; omega
  case qc6 => simp
  intro v' w1 hown hgrow hnil
  go_wp2
  go_ret
  refine ⟨v', rfl, by simpa using hown, ?_⟩
  exact ((Below.refl _ w).alloc (Nat.le_refl _) _).grown hgrow (by simp) (by intro k hk; simp [Value.ownBlock] at hk; omega)
set_option maxHeartbeats 2000000 in
set_option maxRecDepth 100000 in
theorem cloneG_zero (a : Addr) (c : Nat) (w : World) :
    Calls Tryd.prog 32 #[.slice (some a) 0 c] w fun e w' => ∃ v', e = .returned v' ∧ w'.ownsRow w.heap.size 62 2 v' 0 [] ∧ Below w.heap.size w w' := by
  obtain ⟨i0, hi, hz0, hz1, hz2⟩ := info_parts infoGrant
  have q22 : ∀ (w : World) (a : Option Addr) (n c n' c' : Nat), (binOp .eql 22 (.slice a n c) (.slice none n' c')).run Tryd.prog w = .ok (.bool a.isNone) w := fun w a n c n' c' => Lib.run_eql_slice_nil w _ _ a n c n' c' Tryd.underlying22
  go_enter Tryd.func32, Tryd.ntmps32
  go_wp2_with (at_builtin; refine wpList_append_own _ rfl _ _ 22 rfl w.heap.size 62 i0 (.agg #[.string ⟨#[]⟩, .int .i64 0]) 2 24 Tryd.underlying22 hi hz0 hz1 hz2 zeroGrant (by decide) _ _ _ rfl (World.ownsRow_made w #[] 0 (Nat.le_refl _) (Nat.zero_le _) (by simp)) a 0 c [] rfl rfl (by intro j u hj; simp at hj) (by intro u hu; cases hu) (by unfold maxLen; omega) (by omega) (by simp) ?_)
  intro v' w1 hown hgrow hnil
  go_wp2
  go_ret
  refine ⟨v', rfl, by simpa using hown, ?_⟩
  exact ((Below.refl _ w).alloc (Nat.le_refl _) _).grown hgrow (by simp) (by intro k hk; simp [Value.ownBlock] at hk; omega)
set_option maxRecDepth 100000 in
theorem cloneG_nil (n c : Nat) (w : World) : Calls Tryd.prog 32 #[.slice none n c] w fun e w' => e = .returned (.slice none 0 0) ∧ w' = w := by
  have q22 : ∀ (w : World) (a : Option Addr) (n c n' c' : Nat), (binOp .eql 22 (.slice a n c) (.slice none n' c')).run Tryd.prog w = .ok (.bool a.isNone) w := fun w a n c n' c' => Lib.run_eql_slice_nil w _ _ a n c n' c' Tryd.underlying22
  go_enter Tryd.func32, Tryd.ntmps32
  go_wp2
  go_ret
  exact ⟨rfl, rfl⟩
theorem cloneG_any {w : World} {v : Value} {l : List GrantR} (h : GrantsAt w v l) (hl : l.length ≤ 1000) :
    Calls Tryd.prog 32 #[v] w fun e w' => ∃ v', e = .returned v' ∧ GrantsAt w' v' l ∧ (∃ a n c, v' = .slice a n c) ∧ Below w.heap.size w w' := by
  obtain ⟨ao, cap, rfl, hc⟩ := h
  cases ao with
  | none =>
    have hnil : l = [] := by
      by_cases h : l = []
      · exact h
      · obtain ⟨_, _, e, _⟩ := hc h; cases e
    subst hnil
    exact (cloneG_nil _ cap w).mono fun e w' ⟨he, hw⟩ => ⟨_, he, GrantsAt.nil _, ⟨_, _, _, rfl⟩, hw ▸ Below.refl _ _⟩
  | some a =>
    cases l with
    | nil =>
      refine (cloneG_zero a cap w).mono fun e w' ⟨v', he, ho, hb⟩ => ⟨v', he, ?_, ?_, hb⟩
      · rcases ho.2 with ⟨rfl, _⟩ | ⟨g, c, cur, rfl, _⟩
        · exact GrantsAt.nil _
        · exact ⟨_, c, rfl, fun h => absurd rfl h⟩
      · rcases ho.2 with ⟨rfl, _⟩ | ⟨g, c, cur, rfl, _⟩
        · exact ⟨_, _, _, rfl⟩
        · exact ⟨_, _, _, rfl⟩
    | cons x r =>
      obtain ⟨b, off, e, hb, hcell⟩ := hc (by simp)
      cases e
      refine (cloneG_row b off (x :: r).length cap (grantCells (x :: r)) w (grantCells_len _) hl ?_ ?_).mono fun e w' ⟨v', he, ho, hb'⟩ => ⟨v', he, grants_row ho (by simp), ?_, hb'⟩
      · intro j u hj
        have hjl := (List.getElem?_eq_some_iff.1 hj).1
        rw [grantCells_len] at hjl
        have hk : j / 2 < (x :: r).length := by omega
        obtain ⟨h1, h2⟩ := hcell (j / 2) _ (List.getElem?_eq_getElem hk)
        obtain ⟨g1, g2⟩ := grantCells_get (x :: r) (j / 2) _ (List.getElem?_eq_getElem hk)
        rcases Nat.mod_two_eq_zero_or_one j with hm | hm
        · have e : j / 2 * 2 = j := by omega
          rw [e] at h1 g1
          rw [h1, ← g1, hj]
        · have e : j / 2 * 2 + 1 = j := by omega
          rw [e] at g2
          rw [Nat.add_assoc, e] at h2
          rw [h2, ← g2, hj]
      · intro u hu
        unfold grantCells at hu
        obtain ⟨y, _, hu⟩ := List.mem_flatMap.1 hu
        simp only [List.mem_cons, List.not_mem_nil, or_false] at hu
        rcases hu with rfl | rfl <;> rfl
      · rcases ho.2 with ⟨rfl, _⟩ | ⟨g, c, cur, rfl, _⟩
        · exact ⟨_, _, _, rfl⟩
        · exact ⟨_, _, _, rfl⟩
end Go.Proofs.YtjlbifpbdocahaaDoor
