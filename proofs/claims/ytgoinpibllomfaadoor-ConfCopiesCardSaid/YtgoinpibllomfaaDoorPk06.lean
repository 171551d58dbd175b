/- Part 6 of what the statement wants. -/
import Derived.Maps.OwnSet
import Derived.KernelRfl
import Derived.Test.YtgoinpibllomfaaDoorPk00
namespace Go.Proofs.YtgoinpibllomfaaDoor
open Go.RowKit Go.Maps Go.WideMaps

/-! ### the set -/
def key (s : ByteArray) : Lit := .string s.data.toList
def setD (l : List ByteArray) : DataW Unit := setOf (.agg []) (l.map key)
theorem key_lit (s : ByteArray) : WideAt.IsKeyLit (key s) := trivial
theorem key_inj {a b : ByteArray} (h : key a = key b) : a = b := by
  simp only [key, Lit.string.injEq] at h
  cases a; cases b
  simpa using h
theorem nsKey_same (a b : ByteArray) : (key a).sameKey (key b) = decide (a = b) := by
  by_cases h : a = b
  · subst h
    rw [WideAt.sameKey_self (key_lit a)]
    simp
  · rw [sameKey_ne (fun e => h (key_inj e))]
    simp [h]
theorem setD_nil : setD [] = .map [] := by simp [setD, setOf]
theorem setD_snoc (l : List ByteArray) (s : ByteArray) : setD (l ++ [s]) = (setD l).put (key s) (.agg []) := by
  unfold setD
  rw [List.map_append, List.map_singleton, setOf_snoc]
theorem has_setD (l : List ByteArray) (s : ByteArray) : Maps.has (setD l) (key s) = decide (s ∈ l) := by
  unfold setD
  rw [has_setOf _ _ _ (fun y hy => by obtain ⟨x, _, rfl⟩ := List.mem_map.1 hy; exact key_lit x), List.any_map]
  induction l with
  | nil => simp
  | cons a r ih =>
    rw [List.any_cons, ih]
    simp only [Function.comp, nsKey_same]
    by_cases h : a = s
    · simp [h]
    · have h' : ¬ s = a := fun e => h e.symm
      simp [h, h']
theorem tidy_setD (l : List ByteArray) : Tidy (setD l) := tidy_setOf _ _ fun y hy => by obtain ⟨x, _, rfl⟩ := List.mem_map.1 hy; exact key_lit x
theorem size_take (l : List ByteArray) : ∀ n, n ≤ l.length → Maps.size (setD (l.take n)) ≤ n ∧ (Maps.size (setD (l.take n)) = n ↔ (l.take n).Nodup)
  | 0, _ => by simp [setD_nil, Maps.size]
  | n + 1, h => by
    have ih := size_take l n (by omega)
    have e := List.take_succ_eq_append_getElem (show n < l.length by omega)
    rw [e, setD_snoc, size_put (tidy_setD _), has_setD, List.nodup_append]
    by_cases hm : l[n] ∈ l.take n
    · simp only [hm, decide_true, if_true]
      refine ⟨by omega, ⟨fun hh => by omega, fun hh => absurd rfl (hh.2.2 _ hm _ (by simp))⟩⟩
    · simp only [hm, decide_false, Bool.false_eq_true, if_false]
      refine ⟨by omega, ⟨fun hh => ⟨ih.2.1 (by omega), by simp, fun a ha b hb => by simp at hb; subst hb; exact fun e => hm (e ▸ ha)⟩, fun hh => by rw [ih.2.2 hh.1]⟩⟩
theorem size_setD (l : List ByteArray) : decide (Maps.size (setD l) = l.length) = decide l.Nodup := by
  have := (size_take l l.length (Nat.le_refl _)).2
  rw [List.take_length] at this
  exact decide_eq_decide.2 this

theorem lawStr : Keyed Tryd.prog 9 := string_keyed Tryd.underlying9
theorem key_ok {s : ByteArray} (h : s.size ≤ maxLen) : keyOf Tryd.prog 9 (.string s) = some (key s) := keyOf_string_mk Tryd.underlying9 h
theorem makeSet (n : Int) (w : World) : (Instr.makeMap 106 (some (.int .i64 n))).run Tryd.prog w = .ok (.map (some w.heap.size)) (w.alloc (.map #[] 0)) := by
  simp [Instr.makeMap, run_underlying Tryd.underlying106, asInt, asIntOf, Result.andThen]

set_option maxRecDepth 100000 in
theorem nSet_any {w : World} {v : Value} {l : List ByteArray} (h : TextsAt w v l) (hl : l.length ≤ 281474976710656) (hs : ∀ x ∈ l, x.size ≤ maxLen) :
    Calls Tryd.prog 73 #[v] w fun e w' => e = .returned (.map (some w.heap.size)) ∧ w'.ownsMap Tryd.prog 9 (unitElem (H := Unit)) w.heap.size l.length (setD l) ∧ Below w.heap.size w w' ∧ w.heap.size < w'.heap.size := by
  have hmm := makeSet
  obtain ⟨ao, cap, rfl, hc⟩ := h
  have HS := Lib.hid hs
  clear hs
  go_enter Tryd.func73, Tryd.ntmps73
  go_wp2
  go_loopw [11] (fun i wr => ∃ k : Nat, k ≤ l.length ∧ i = .int .i64 k ∧ wr.ownsMap Tryd.prog 9 (unitElem (H := Unit)) w.heap.size k (setD (l.take k)) ∧ Below w.heap.size w wr ∧ w.heap.size < wr.heap.size) (fun i _ => l.length - (intOf i).toNat)
  case atStart => exact ⟨0, Nat.zero_le _, rfl, by rw [List.take_zero, setD_nil]; exact World.ownsMap_made _ _ _ _, (Below.refl _ _).alloc (Nat.le_refl _) _, by simp⟩
  case round =>
    obtain ⟨k, hk, rfl, hown, hbel, hlt0⟩ := hrel
    by_cases hlt : k < l.length
    · obtain ⟨b, off, rfl, hb, hcell⟩ := hc (by intro h; simp [h] at hlt)
      obtain ⟨y, hy⟩ : ∃ y, y = l[k] := ⟨_, rfl⟩
      have c1 : wr.cell? ⟨b, off + k, none⟩ = some (.string y) := (hbel.cell (p := ⟨b, off + k, none⟩) hb).trans (hcell k y (by simp [hlt, hy]))
      have hys : y.size ≤ maxLen := HS.out y (by rw [hy]; exact List.getElem_mem hlt)
      have hkey := key_ok hys
      have HT : Hid (setD (l.take (k + 1)) = (setD (l.take k)).put (key y) (.agg [])) := by
        show setD (l.take (k + 1)) = _
        rw [List.take_succ_eq_append_getElem hlt, ← hy, setD_snoc]
      clear hc hcell hy
      go_wp2_with (first
        | (at_mapUpdate; refine wpList_mapUpdate_own _ rfl _ _ _ 106 rfl 9 122 lawStr Tryd.underlying106 (unitElem (H := Unit)) w.heap.size k _ rfl hown (by unfold maxLen; omega) _ _ _ rfl rfl hkey _ [] unitElem_mk ?_; intro w1 hown1 hgrow1)
        | go_in)
      have hsz := hgrow1.size
      go_roundw
      case rel => exact ⟨k + 1, by omega, by go_num, HT.out.symm ▸ hown1, hbel.grown hgrow1 hbel.size (fun j hj => by cases hj; exact Nat.le_refl _), by omega⟩
      case measure => simp [intOf]; omega
    · have hkl : k = l.length := by omega
      subst hkl
      rw [List.take_length] at hown
      clear hlt hc
      go_wp2_with fail
      go_ret
      exact ⟨rfl, hown, hbel, hlt0⟩
end Go.Proofs.YtgoinpibllomfaaDoor

namespace Go.Proofs.YtgoinpibllomfaaDoor
open Go.RowKit Go.Maps Go.WideMaps

set_option maxRecDepth 100000 in
theorem nOnce_any {w : World} {v : Value} {l : List ByteArray} (h : TextsAt w v l) (hl : l.length ≤ 281474976710656) (hs : ∀ x ∈ l, x.size ≤ maxLen) :
    Calls Tryd.prog 47 #[v] w fun e w' => e = .returned (.bool (decide l.Nodup)) ∧ Below w.heap.size w w' := by
  have hS := Lib.hid (nSet_any h hl hs)
  obtain ⟨ao, cap, rfl, hc⟩ := h
  have HZ := Lib.hid (size_setD l)
  clear hs hc
  go_enter Tryd.func47, Tryd.ntmps47
  go_wp2_with (first
    | (go_at_call 73; refine hS.out.mono ?_; rintro e w1 ⟨rfl, hown, hbel, hgt⟩)
    | (at_len; refine wpList_len_own _ rfl _ 106 rfl 9 122 Tryd.underlying106 (unitElem (H := Unit)) w.heap.size l.length (setD l) rfl hown ?_)
    | go_in)
  go_ret
  refine ⟨?_, hbel⟩
  rw [← HZ.out]
  show Ending.returned (Value.bool ((Maps.size (setD l) : Int) == (l.length : Int))) = _
  congr 2
  by_cases hq : Maps.size (setD l) = l.length
  · simp [hq]
  · rw [decide_eq_false hq, beq_eq_false_iff_ne]
    omega
end Go.Proofs.YtgoinpibllomfaaDoor
