/- Part 5 of what the statement wants. -/
import Derived.LoopTactic
import Derived.Laws.Tables
import Derived.Laws.CopyRow
import Derived.Maps.OwnSet
import Derived.KernelRfl
import Derived.Test.YtkdljicagepebaaGreatDoorPk00
import Derived.Test.YtkdljicagepebaaGreatDoorPk01
namespace Go.Proofs.YtkdljicagepebaaGreatDoor
open Go.RowKit


def rightB (a b c : Nat) : Bool := decide (1024 ≤ a) && decide (a ≤ b) && decide (b ≤ c) && decide (c ≤ 8192)
set_option maxRecDepth 100000 in
theorem gxRight_any (a b c : Nat) (w : World) : Calls Tryz.prog 42 #[.int .u32 (a : Int), .int .u32 (b : Int), .int .u32 (c : Int)] w fun e w' => e = .returned (.bool (rightB a b c)) ∧ w' = w := by
  have HI : Hid (rightB a b c = (decide ((1024 : Int) ≤ (a : Int)) && decide ((a : Int) ≤ (b : Int)) && decide ((b : Int) ≤ (c : Int)) && decide ((c : Int) ≤ (8192 : Int)))) := by
    have e1 : decide (1024 ≤ a) = decide ((1024 : Int) ≤ (a : Int)) := decide_eq_decide.2 (by omega)
    have e2 : decide (a ≤ b) = decide ((a : Int) ≤ (b : Int)) := decide_eq_decide.2 (by omega)
    have e3 : decide (b ≤ c) = decide ((b : Int) ≤ (c : Int)) := decide_eq_decide.2 (by omega)
    have e4 : decide (c ≤ 8192) = decide ((c : Int) ≤ (8192 : Int)) := decide_eq_decide.2 (by omega)
    show rightB a b c = _
    unfold rightB
    rw [e1, e2, e3, e4]
  rw [HI.out]
  clear HI
  obtain ⟨r1, q1⟩ : ∃ r, decide ((1024 : Int) ≤ (a : Int)) = r := ⟨_, rfl⟩
  obtain ⟨r2, q2⟩ : ∃ r, decide ((a : Int) ≤ (b : Int)) = r := ⟨_, rfl⟩
  obtain ⟨r3, q3⟩ : ∃ r, decide ((b : Int) ≤ (c : Int)) = r := ⟨_, rfl⟩
  obtain ⟨r4, q4⟩ : ∃ r, decide ((c : Int) ≤ (8192 : Int)) = r := ⟨_, rfl⟩
  rw [q1, q2, q3, q4]
  generalize (a : Int) = x at *
  generalize (b : Int) = y at *
  generalize (c : Int) = z at *
  cases r1 with
  | false => (go_enter Tryz.func42, Tryz.ntmps42; go_wp2_with fail; go_ret; exact ⟨rfl, rfl⟩)
  | true =>
  cases r2 with
  | false => (go_enter Tryz.func42, Tryz.ntmps42; go_wp2_with fail; go_ret; exact ⟨rfl, rfl⟩)
  | true =>
  cases r3 with
  | false => (go_enter Tryz.func42, Tryz.ntmps42; go_wp2_with fail; go_ret; exact ⟨rfl, rfl⟩)
  | true =>
  cases r4 with
  | false => (go_enter Tryz.func42, Tryz.ntmps42; go_wp2_with fail; go_ret; exact ⟨rfl, rfl⟩)
  | true => (go_enter Tryz.func42, Tryz.ntmps42; go_wp2_with fail; go_ret; exact ⟨rfl, rfl⟩)
end Go.Proofs.YtkdljicagepebaaGreatDoor

namespace Go.Proofs.YtkdljicagepebaaGreatDoor
open Go.RowKit

set_option maxRecDepth 100000 in
theorem dUser_any (x : List UInt8) (hx : x.length ≤ 1000000) (w : World) : Calls Tryz.prog 37 #[.string (bs x)] w fun e w' => e = .returned (.bool (userP x)) ∧ w' = w := by
  have hsz := bs_size x
  by_cases h0 : x = []
  · subst h0
    have HR : Hid (userP [] = false) := rfl
    rw [show bs ([] : List UInt8) = ⟨#[]⟩ from rfl]
    go_enter Tryz.func37, Tryz.ntmps37
    go_wp2
    go_ret
    exact ⟨by rw [HR.out]; rfl, rfl⟩
  have hne : (bs x).toList.isEmpty = false := by rw [bs_isEmpty]; simpa using h0
  by_cases h1 : 64 < x.length
  · have HR := Lib.hid (user_len (x := x) (by omega))
    generalize bs x = S at *
    go_enter Tryz.func37, Tryz.ntmps37
    go_wp2
    go_ret
    exact ⟨by rw [HR.out]; rfl, rfl⟩
  have hpos : 1 ≤ x.length := List.length_pos_iff.2 h0
  have HI := Lib.hid (fun (k : Nat) (hk : k < x.length) W => index_bs x k hk W)
  have hle : (bs x).size ≤ 64 := by omega
  generalize bs x = S at *
  go_enter Tryz.func37, Tryz.ntmps37
  go_wp2_with fail
  go_loopw [13] (fun i wr => ∃ k : Nat, k ≤ x.length ∧ i = .int .i64 k ∧ (∀ b ∈ x.take k, uByte b = true) ∧ wr = w) (fun i _ => x.length - (intOf i).toNat)
  case atStart => exact ⟨0, Nat.zero_le _, rfl, by simp, rfl⟩
  case round =>
    obtain ⟨k, hk, rfl, htk, rfl⟩ := hrel
    by_cases hlt : k < x.length
    · have c1 := HI.out k hlt
      obtain ⟨b, hb⟩ : ∃ b, b = x[k] := ⟨_, rfl⟩
      rw [← hb] at c1
      have HN : Hid (uByte b = true → ∀ a ∈ x.take (k + 1), uByte a = true) := fun e a ha => by
        rw [List.take_succ_eq_append_getElem hlt, ← hb, List.mem_append] at ha
        rcases ha with ha | ha
        · exact htk a ha
        · simp at ha
          rw [ha]; exact e
      have HF : Hid (uByte b = false → userP x = false) := fun e => user_byte (by rw [hb]; exact List.getElem_mem hlt) e
      have HB : Hid (uByte b = decide (33 ≤ b.toNat ∧ b.toNat ≤ 126)) := rfl
      clear hb htk HI
      generalize b.toNat = n at *
      by_cases n1 : n < 33
      · have hq : decide ((n : Int) < 33) = true := decide_eq_true (by omega)
        have HO : Hid (uByte b = false) := by show uByte b = false; rw [HB.out]; exact decide_eq_false (by omega)
        go_wp2_with fail
        go_ret
        exact ⟨by rw [HF.out HO.out]; rfl, rfl⟩
      · have q1 : decide ((n : Int) < 33) = false := decide_eq_false (by omega)
        by_cases n2 : 126 < n
        · have hq : decide ((n : Int) > 126) = true := decide_eq_true (by omega)
          have HO : Hid (uByte b = false) := by show uByte b = false; rw [HB.out]; exact decide_eq_false (by omega)
          go_wp2_with fail
          go_ret
          exact ⟨by rw [HF.out HO.out]; rfl, rfl⟩
        · have q2 : decide ((n : Int) > 126) = false := decide_eq_false (by omega)
          have HO : Hid (uByte b = true) := by show uByte b = true; rw [HB.out]; exact decide_eq_true (by omega)
          go_wp2_with fail
          go_roundw
          case rel => exact ⟨k + 1, by omega, by go_num, HN.out HO.out, trivial⟩
          case measure => simp [intOf]; omega
    · have hkl : k = x.length := by omega
      subst hkl
      rw [List.take_length] at htk
      have HA := Lib.hid htk
      clear htk hlt HI
      have HR := Lib.hid (user_of (x := x) (by omega) HA.out)
      go_wp2_with fail
      go_ret
      exact ⟨by rw [HR.out]; rfl, rfl⟩
end Go.Proofs.YtkdljicagepebaaGreatDoor

namespace Go.Proofs.YtkdljicagepebaaGreatDoor
open Go.RowKit Go.Maps Go.WideMaps

/-! ### the set -/
def key (s : ByteArray) : Lit := .string s.data.toList
def setD (l : List ByteArray) : DataW Unit := setOf (.agg []) (l.map key)
theorem key_lit (s : ByteArray) : WideAt.IsKeyLit (key s) := trivial
theorem key_inj {a b : ByteArray} (h : key a = key b) : a = b := by
  simp only [key, Lit.string.injEq] at h
  cases a; cases b
  simpa using h
theorem nsKey_same (a b : ByteArray) : (key a).sameKey (key b) = decide (a = b) := by
  by_cases h : a = b
  · subst h
    rw [WideAt.sameKey_self (key_lit a)]
    simp
  · rw [sameKey_ne (fun e => h (key_inj e))]
    simp [h]
theorem setD_nil : setD [] = .map [] := by simp [setD, setOf]
theorem setD_snoc (l : List ByteArray) (s : ByteArray) : setD (l ++ [s]) = (setD l).put (key s) (.agg []) := by
  unfold setD
  rw [List.map_append, List.map_singleton, setOf_snoc]
theorem has_setD (l : List ByteArray) (s : ByteArray) : Maps.has (setD l) (key s) = decide (s ∈ l) := by
  unfold setD
  rw [has_setOf _ _ _ (fun y hy => by obtain ⟨x, _, rfl⟩ := List.mem_map.1 hy; exact key_lit x), List.any_map]
  induction l with
  | nil => simp
  | cons a r ih =>
    rw [List.any_cons, ih]
    simp only [Function.comp, nsKey_same]
    by_cases h : a = s
    · simp [h]
    · have h' : ¬ s = a := fun e => h e.symm
      simp [h, h']
theorem tidy_setD (l : List ByteArray) : Tidy (setD l) := tidy_setOf _ _ fun y hy => by obtain ⟨x, _, rfl⟩ := List.mem_map.1 hy; exact key_lit x
theorem size_take (l : List ByteArray) : ∀ n, n ≤ l.length → Maps.size (setD (l.take n)) ≤ n ∧ (Maps.size (setD (l.take n)) = n ↔ (l.take n).Nodup)
  | 0, _ => by simp [setD_nil, Maps.size]
  | n + 1, h => by
    have ih := size_take l n (by omega)
    have e := List.take_succ_eq_append_getElem (show n < l.length by omega)
    rw [e, setD_snoc, size_put (tidy_setD _), has_setD, List.nodup_append]
    by_cases hm : l[n] ∈ l.take n
    · simp only [hm, decide_true, if_true]
      refine ⟨by omega, ⟨fun hh => by omega, fun hh => absurd rfl (hh.2.2 _ hm _ (by simp))⟩⟩
    · simp only [hm, decide_false, Bool.false_eq_true, if_false]
      refine ⟨by omega, ⟨fun hh => ⟨ih.2.1 (by omega), by simp, fun a ha b hb => by simp at hb; subst hb; exact fun e => hm (e ▸ ha)⟩, fun hh => by rw [ih.2.2 hh.1]⟩⟩
theorem size_setD (l : List ByteArray) : decide (Maps.size (setD l) = l.length) = decide l.Nodup := by
  have := (size_take l l.length (Nat.le_refl _)).2
  rw [List.take_length] at this
  exact decide_eq_decide.2 this

theorem lawStr : Keyed Tryz.prog 9 := string_keyed Tryz.underlying9
theorem key_ok {s : ByteArray} (h : s.size ≤ maxLen) : keyOf Tryz.prog 9 (.string s) = some (key s) := keyOf_string_mk Tryz.underlying9 h
theorem makeSet (n : Int) (w : World) : (Instr.makeMap 117 (some (.int .i64 n))).run Tryz.prog w = .ok (.map (some w.heap.size)) (w.alloc (.map #[] 0)) := by
  simp [Instr.makeMap, run_underlying Tryz.underlying117, asInt, asIntOf, Result.andThen]

set_option maxRecDepth 100000 in
theorem nSet_any {w : World} {v : Value} {l : List ByteArray} (h : TextsAt w v l) (hl : l.length ≤ 281474976710656) (hs : ∀ x ∈ l, x.size ≤ maxLen) :
    Calls Tryz.prog 90 #[v] w fun e w' => e = .returned (.map (some w.heap.size)) ∧ w'.ownsMap Tryz.prog 9 (unitElem (H := Unit)) w.heap.size l.length (setD l) ∧ Below w.heap.size w w' ∧ w.heap.size < w'.heap.size := by
  have hmm := makeSet
  obtain ⟨ao, cap, rfl, hc⟩ := h
  have HS := Lib.hid hs
  clear hs
  go_enter Tryz.func90, Tryz.ntmps90
  go_wp2
  go_loopw [11] (fun i wr => ∃ k : Nat, k ≤ l.length ∧ i = .int .i64 k ∧ wr.ownsMap Tryz.prog 9 (unitElem (H := Unit)) w.heap.size k (setD (l.take k)) ∧ Below w.heap.size w wr ∧ w.heap.size < wr.heap.size) (fun i _ => l.length - (intOf i).toNat)
  case atStart => exact ⟨0, Nat.zero_le _, rfl, by rw [List.take_zero, setD_nil]; exact World.ownsMap_made _ _ _ _, (Below.refl _ _).alloc (Nat.le_refl _) _, by simp⟩
  case round =>
    obtain ⟨k, hk, rfl, hown, hbel, hlt0⟩ := hrel
    by_cases hlt : k < l.length
    · obtain ⟨b, off, rfl, hb, hcell⟩ := hc (by intro h; simp [h] at hlt)
      obtain ⟨y, hy⟩ : ∃ y, y = l[k] := ⟨_, rfl⟩
      have c1 : wr.cell? ⟨b, off + k, none⟩ = some (.string y) := (hbel.cell (p := ⟨b, off + k, none⟩) hb).trans (hcell k y (by simp [hlt, hy]))
      have hys : y.size ≤ maxLen := HS.out y (by rw [hy]; exact List.getElem_mem hlt)
      have hkey := key_ok hys
      have HT : Hid (setD (l.take (k + 1)) = (setD (l.take k)).put (key y) (.agg [])) := by
        show setD (l.take (k + 1)) = _
        rw [List.take_succ_eq_append_getElem hlt, ← hy, setD_snoc]
      clear hc hcell hy
      go_wp2_with (first
        | (at_mapUpdate; refine wpList_mapUpdate_own _ rfl _ _ _ 117 rfl 9 136 lawStr Tryz.underlying117 (unitElem (H := Unit)) w.heap.size k _ rfl hown (by unfold maxLen; omega) _ _ _ rfl rfl hkey _ [] unitElem_mk ?_; intro w1 hown1 hgrow1)
        | go_in)
      have hsz := hgrow1.size
      go_roundw
      case rel => exact ⟨k + 1, by omega, by go_num, HT.out.symm ▸ hown1, hbel.grown hgrow1 hbel.size (fun j hj => by cases hj; exact Nat.le_refl _), by omega⟩
      case measure => simp [intOf]; omega
    · have hkl : k = l.length := by omega
      subst hkl
      rw [List.take_length] at hown
      clear hlt hc
      go_wp2_with fail
      go_ret
      exact ⟨rfl, hown, hbel, hlt0⟩
end Go.Proofs.YtkdljicagepebaaGreatDoor

namespace Go.Proofs.YtkdljicagepebaaGreatDoor
open Go.RowKit Go.Maps Go.WideMaps

set_option maxRecDepth 100000 in
theorem nOnce_any {w : World} {v : Value} {l : List ByteArray} (h : TextsAt w v l) (hl : l.length ≤ 281474976710656) (hs : ∀ x ∈ l, x.size ≤ maxLen) :
    Calls Tryz.prog 75 #[v] w fun e w' => e = .returned (.bool (decide l.Nodup)) ∧ Below w.heap.size w w' := by
  have hS := Lib.hid (nSet_any h hl hs)
  obtain ⟨ao, cap, rfl, hc⟩ := h
  have HZ := Lib.hid (size_setD l)
  clear hs hc
  go_enter Tryz.func75, Tryz.ntmps75
  go_wp2_with (first
    | (go_at_call 90; refine hS.out.mono ?_; rintro e w1 ⟨rfl, hown, hbel, hgt⟩)
    | (at_len; refine wpList_len_own _ rfl _ 117 rfl 9 136 Tryz.underlying117 (unitElem (H := Unit)) w.heap.size l.length (setD l) rfl hown ?_)
    | go_in)
  go_ret
  refine ⟨?_, hbel⟩
  rw [← HZ.out]
  show Ending.returned (Value.bool ((Maps.size (setD l) : Int) == (l.length : Int))) = _
  congr 2
  by_cases hq : Maps.size (setD l) = l.length
  · simp [hq]
  · rw [decide_eq_false hq, beq_eq_false_iff_ne]
    omega
end Go.Proofs.YtkdljicagepebaaGreatDoor
