/- Part 3 of what the statement wants. -/
import Derived.Shelf.Strings.Search1
import Derived.Shelf.Strings.Search2
import Derived.Shelf.Strings.Search3
import Derived.Shelf.LaysM
import Derived.Shelf.Strings.Shaped
import Derived.Shelf.Strings.Prefix
import Derived.Test.YtkdljicagepebaaGreatDoorProg
import Derived.Laws.IdiomStrings
import Derived.Laws.NewBlocks
import Derived.Lib.Hide
import Derived.Test.YtkdljicagepebaaGreatDoorPk00
import Derived.Test.YtkdljicagepebaaGreatDoorPk02
namespace Go.Proofs.YtkdljicagepebaaGreatDoor
open Go.RowKit

set_option maxRecDepth 100000 in
theorem cfUnless_any (b : Bool) (x : ByteArray) (e : Int) (he : e ≠ 0) (w : World) : Calls Tryz.prog 36 #[.bool b, .string x, .int .i64 e] w (Checked w (unlessP b x e)) := by
  have HO := Lib.hid (fOf_any x e he w)
  have HB := Lib.hid (Below.refl w.heap.size w)
  cases b with
  | true =>
    clear HO he
    go_enter Tryz.func36, Tryz.ntmps36
    go_wp2_with fail
    go_ret
    exact ⟨.nilIface, rfl, rfl, HB.out⟩
  | false =>
    have HS : Hid (∀ (W : World) (v : Value), ErrAt W v [x] (some e) → v ≠ .nilIface → ErrIs W (unlessP false x e) v) := fun W v h hn => by
      cases h with
      | fault h1 h2 h3 h4 => exact ⟨_, _, rfl, .fault h1 h2 h3 h4⟩
    clear he
    go_enter Tryz.func36, Tryz.ntmps36
    go_wp2_with (go_at_call 54; (with_reducible refine HO.out.mono ?_); rintro r w1 ⟨v, rfl, hv, hn, b1⟩)
    go_ret
    exact ⟨v, rfl, HS.out _ _ hv hn, b1⟩

set_option maxRecDepth 100000 in
theorem cfPeople1_any (z : Int) (w : World) : Calls Tryz.prog 58 #[.int .i64 z] w fun e w' => e = .returned (.bool (!whoB z)) ∧ Below w.heap.size w w' := by
  have HB := Lib.hid (Below.refl w.heap.size w)
  by_cases h0 : z < 0
  · have q0 : decide (z < 0) = true := decide_eq_true h0
    have HF : Hid ((!whoB z) = true) := by
      show (!whoB z) = true
      unfold whoB
      rw [decide_eq_false (by omega)]
      rfl
    generalize (!whoB z) = r at *
    go_enter Tryz.func58, Tryz.ntmps58
    go_wp2_with fail
    go_ret
    exact ⟨by rw [HF.out]; rfl, HB.out⟩
  have q0 : decide (z < 0) = false := decide_eq_false h0
  obtain ⟨r, hr⟩ : ∃ r, r = (!whoB z) := ⟨_, rfl⟩
  have q1 : decide (z ≥ 16) = r := by
    rw [hr]
    unfold whoB
    rw [decide_eq_true (show 0 ≤ z by omega), Bool.true_and, Bool.eq_iff_iff, decide_eq_true_iff, Bool.not_eq_true', decide_eq_false_iff_not]
    omega
  rw [← hr]
  clear hr
  go_enter Tryz.func58, Tryz.ntmps58
  go_wp2_with fail
  go_ret
  exact ⟨rfl, HB.out⟩

theorem who_take {l : List Int} {k : Nat} (hk : k < l.length) (h : (l.take k).all whoB = true) (hr : whoB l[k] = true) : (l.take (k + 1)).all whoB = true := by
  rw [List.take_succ_eq_append_getElem hk, List.all_append, h]
  simp [hr]
theorem who_miss {l : List Int} {k : Nat} (hk : k < l.length) (hr : whoB l[k] = false) : l.all whoB = false := by
  rw [List.all_eq_false]
  exact ⟨l[k], List.getElem_mem hk, by rw [hr]; simp⟩
set_option maxRecDepth 100000 in
theorem idxFuncI_any {w : World} {v : Value} {l : List Int} (h : IdsAt w v l) (hl : l.length ≤ 1000) :
    Calls Tryz.prog 77 #[v, .func (.func 58) #[] #[]] w fun e w' => ∃ z : Int, e = .returned (.int .i64 z) ∧ decide (z ≥ 0) = !l.all whoB ∧ Below w.heap.size w w' := by
  obtain ⟨ao, cap, rfl, hc⟩ := h
  have HCl := Lib.hid (fun (W : World) (x : Int) => cfPeople1_any x W)
  have HC := Lib.hid hc
  clear hc
  go_enter Tryz.func77, Tryz.ntmps77
  go_wp2_with fail
  go_loopw [8] (fun i wr => ∃ k : Nat, k ≤ l.length ∧ i = .int .i64 k ∧ (l.take k).all whoB = true ∧ Below w.heap.size w wr) (fun i _ => l.length - (intOf i).toNat)
  case atStart => exact ⟨0, Nat.zero_le _, rfl, rfl, Below.refl _ _⟩
  case round =>
    obtain ⟨k, hk, rfl, htk, hbel⟩ := hrel
    by_cases hlt : k < l.length
    · obtain ⟨b, off, rfl, hb, hcell⟩ := HC.out (by intro h; simp [h] at hlt)
      obtain ⟨x, hx⟩ : ∃ x, x = l[k] := ⟨_, rfl⟩
      have c1 := (hbel.cell (p := ⟨b, off + k, none⟩) hb).trans (hcell k x (by rw [hx]; exact List.getElem?_eq_getElem hlt))
      have HO := Lib.hid (HCl.out wr x)
      have HN : Hid (whoB x = true → (l.take (k + 1)).all whoB = true) := fun e => who_take hlt htk (by rw [← hx]; exact e)
      have HT : Hid (whoB x = false → l.all whoB = false) := fun e => who_miss hlt (by rw [← hx]; exact e)
      have HB := Lib.hid hbel
      clear hcell htk hx hbel HC HCl
      generalize whoB x = m at *
      cases m with
      | true =>
        have HR := Lib.hid (HN.out rfl)
        clear HN HT
        go_wp2_with (go_at_call 58; (with_reducible refine HO.out.mono ?_); rintro e w1 ⟨rfl, b1⟩)
        go_roundw
        case rel => exact ⟨k + 1, by omega, by go_num, HR.out, HB.out.trans (b1.mono HB.out.size)⟩
        case measure => simp [intOf]; omega
      | false =>
        have HR := Lib.hid (HT.out rfl)
        clear HN HT
        go_wp2_with (go_at_call 58; (with_reducible refine HO.out.mono ?_); rintro e w1 ⟨rfl, b1⟩)
        go_ret
        exact ⟨_, rfl, by rw [HR.out]; exact decide_eq_true (by omega), HB.out.trans (b1.mono HB.out.size)⟩
    · have hkl : k = l.length := by omega
      subst hkl
      rw [List.take_length] at htk
      have HT := Lib.hid htk
      clear htk hlt HC HCl
      go_wp2_with fail
      go_ret
      exact ⟨_, rfl, by rw [HT.out]; decide, hbel⟩
set_option maxRecDepth 100000 in
theorem contFuncI_any {w : World} {v : Value} {l : List Int} (h : IdsAt w v l) (hl : l.length ≤ 1000) :
    Calls Tryz.prog 59 #[v, .func (.func 58) #[] #[]] w fun e w' => e = .returned (.bool (!l.all whoB)) ∧ Below w.heap.size w w' := by
  have HI := Lib.hid (idxFuncI_any h hl)
  obtain ⟨ao, cap, rfl, _⟩ := h
  go_enter Tryz.func59, Tryz.ntmps59
  go_wp2_with (go_at_call 77; (with_reducible refine HI.out.mono ?_); rintro e w2 ⟨z, rfl, hz, b2⟩)
  go_ret
  exact ⟨by rw [← hz]; rfl, b2⟩
set_option maxRecDepth 100000 in
theorem cfPeople_any {w : World} {v : Value} {l : List Int} (h : IdsAt w v l) (hl : l.length ≤ 1000) (x : ByteArray) : Calls Tryz.prog 31 #[.string x, v] w (Checked w (unlessP (l.all whoB) x 5)) := by
  have HC := Lib.hid (fun (W : World) (hb : Below w.heap.size w W) => contFuncI_any (h.keep hb.size fun _ _ _ _ _ hlt => hb.cell hlt) hl)
  have HU := Lib.hid (fun (W : World) => cfUnless_any (l.all whoB) x 5 (by decide) W)
  have HB0 := Lib.hid (Below.refl w.heap.size w)
  obtain ⟨ao, cap, rfl, _⟩ := h
  generalize l.all whoB = m at *
  generalize unlessP m x 5 = o at *
  go_enter Tryz.func31, Tryz.ntmps31
  go_wp2_with (first
    | (go_at_call 59; (with_reducible refine (HC.out _ HB0.out).mono ?_); rintro e w1 ⟨rfl, b1⟩)
    | (go_at_call 36; (first | with_reducible refine (HU.out _).mono ?_ | (simp only [Bool.not_not]; with_reducible refine (HU.out _).mono ?_)); rintro e w2 ⟨v, rfl, hv, b2⟩))
  go_ret
  exact ⟨v, rfl, hv, b1.trans (b2.mono b1.size)⟩
def versionS : ByteArray := ⟨#[118, 101, 114, 115, 105, 111, 110]⟩
end Go.Proofs.YtkdljicagepebaaGreatDoor

namespace Go.Proofs
open Go.Shelf
def Tryz.lays144_ren : Go.Shelf.Ren := ⟨fun | 144 => 47 | 143 => 66 | 219 => 79 | 217 => 92 | 225 => 93 | 224 => 94 | 267 => 95 | 266 => 100 | 314 => 101 | n => n, fun | 9 => 9 | 4 => 4 | 3 => 3 | 5 => 5 | 46 => 121 | 146 => 137 | 51 => 27 | n => n, fun | 1 => 3 | n => n⟩
theorem Tryz.lays144 : Go.Proofs.Lays.n144 Tryz.prog Tryz.lays144_ren := {
  mixed := by kernel_rfl
  f143 := Tryz.func66.trans (congrArg some (by kernel_rfl))
  f144 := Tryz.func47.trans (congrArg some (by kernel_rfl))
  f217 := Tryz.func92.trans (congrArg some (by kernel_rfl))
  f219 := Tryz.func79.trans (congrArg some (by kernel_rfl))
  f224 := Tryz.func94.trans (congrArg some (by kernel_rfl))
  f225 := Tryz.func93.trans (congrArg some (by kernel_rfl))
  f266 := Tryz.func100.trans (congrArg some (by kernel_rfl))
  f267 := Tryz.func95.trans (congrArg some (by kernel_rfl))
  f314 := Tryz.func101.trans (congrArg some (by kernel_rfl))
  t3 := Tryz.underlying3
  a3 := Tryz.isAgg3
  z3 := Tryz.sizeOf3
  v3 := Tryz.zeroValue3
  t4 := Tryz.underlying4
  a4 := Tryz.isAgg4
  z4 := Tryz.sizeOf4
  v4 := Tryz.zeroValue4
  t5 := Tryz.underlying5
  a5 := Tryz.isAgg5
  z5 := Tryz.sizeOf5
  v5 := Tryz.zeroValue5
  t9 := Tryz.underlying9
  a9 := Tryz.isAgg9
  z9 := Tryz.sizeOf9
  v9 := Tryz.zeroValue9
  t46 := Tryz.underlying121
  a46 := Tryz.isAgg121
  z46 := Tryz.sizeOf121
  v46 := Tryz.zeroValue121
  t51 := Tryz.underlying27
  a51 := Tryz.isAgg27
  z51 := Tryz.sizeOf27
  v51 := Tryz.zeroValue27
  t146 := Tryz.underlying137
  a146 := Tryz.isAgg137
  z146 := Tryz.sizeOf137
  v146 := Tryz.zeroValue137
  g1 := by kernel_rfl }
open Go.RowKit Go.Lib in
theorem Tryz.strings_Contains_one (s : ByteArray) (c : UInt8) (w : World) :
    Calls Tryz.prog 47 #[.string s, .string ⟨#[c]⟩] w fun e w' => e = .returned (.bool (decide (0 ≤ Lib.indexByte s.data.toList c))) ∧ w' = w := Any.strings_Contains_one Tryz.lays144 s c w
def Tryz.lays99_ren : Go.Shelf.Ren := ⟨fun | 99 => 68 | 206 => 81 | n => n, fun | 9 => 9 | 4 => 4 | 3 => 3 | n => n, fun | n => n⟩
theorem Tryz.lays99 : Go.Proofs.Lays.n99 Tryz.prog Tryz.lays99_ren := {
  mixed := by kernel_rfl
  f99 := Tryz.func68.trans (congrArg some (by kernel_rfl))
  f206 := Tryz.func81.trans (congrArg some (by kernel_rfl))
  t3 := Tryz.underlying3
  a3 := Tryz.isAgg3
  z3 := Tryz.sizeOf3
  v3 := Tryz.zeroValue3
  t4 := Tryz.underlying4
  a4 := Tryz.isAgg4
  z4 := Tryz.sizeOf4
  v4 := Tryz.zeroValue4
  t9 := Tryz.underlying9
  a9 := Tryz.isAgg9
  z9 := Tryz.sizeOf9
  v9 := Tryz.zeroValue9 }
open Go.RowKit Go.Lib in
theorem Tryz.strings_HasPrefix (s p : ByteArray) (w : World) :
    Calls Tryz.prog 68 #[.string s, .string p] w fun e w' => e = .returned (.bool (Lib.hasPrefix s.data.toList p.data.toList)) ∧ w' = w := Any.strings_HasPrefix Tryz.lays99 s p w
end Go.Proofs

namespace Go.Proofs.YtkdljicagepebaaGreatDoor
open Go.RowKit


theorem lnConv_bytes (W : World) (l : List UInt8) : ∃ c W', (convert 9 102 (.string (bs l))).run Tryz.prog W = .ok (.slice (some ⟨W.heap.size, 0, none⟩) l.length c) W' ∧
    (∀ (j : Nat) (hj : j < l.length), W'.cell? ⟨W.heap.size, j, none⟩ = some (.int .u8 (l[j].toNat : Int))) ∧ Below W.heap.size W W' ∧ W'.heap.size = W.heap.size + 1 := by
  have h := run_bytes_of_string (P := Tryz.prog) W 9 102 5 (bs l) Tryz.underlying9 Tryz.underlying102 Tryz.underlying5
  rw [bs_size] at h
  refine ⟨_, _, h, fun j hj => ?_, (Below.refl _ _).drew.alloc (Nat.le_refl _) _, by simp⟩
  have hc := World.cell?_alloc_mark W.drew (bytesRow (bs l) (grownCap W l.length 0 5)) 5 ((bytesRow (bs l) (grownCap W l.length 0 5)).size, (bytesRow (bs l) (grownCap W l.length 0 5)).size + 1) j
  rw [show W.drew.heap.size = W.heap.size from rfl] at hc
  rw [hc, bytesRow_at (bs l) _ j (by simpa [bs] using hj)]
  simp [bs]
theorem lnIndex_bs (l : List UInt8) (j : Nat) (hj : j < l.length) (W : World) : (Instr.index 9 (.string (bs l)) (.int .i64 (j : Int))).run Tryz.prog W = .ok (.int .u8 (l[j].toNat : Int)) W := by
  rw [run_index_string (P := Tryz.prog) W 9 (bs l) .i64 j Tryz.underlying9, dif_pos (by rw [bs_size]; omega)]
  simp [bs, ByteArray.getElem_eq_getElem_data]
def lnPlainB (b : UInt8) : Bool := decide (32 ≤ b.toNat ∧ b.toNat ≤ 126)
def lnPlainL (l : List UInt8) : Bool := l.all lnPlainB
theorem lnPlain_false {l : List UInt8} {b : UInt8} (hb : b ∈ l) (h : lnPlainB b = false) : lnPlainL l = false := by
  unfold lnPlainL
  rw [List.all_eq_false]
  exact ⟨b, hb, by rw [h]; simp⟩
theorem lnPlain_true {l : List UInt8} (h : ∀ b ∈ l, lnPlainB b = true) : lnPlainL l = true := List.all_eq_true.2 h
theorem lnToList (l : List UInt8) : (bs l).toList = l := by
  rw [ByteArray.toList_eq]
  simp [bs]
theorem lnIsPlain_any (b : UInt8) (w : World) : Calls Tryz.prog 80 #[.int .u8 (b.toNat : Int)] w fun e w' => e = .returned (.bool (lnPlainB b)) ∧ w' = w := by
  have HB : Hid (lnPlainB b = decide (32 ≤ b.toNat ∧ b.toNat ≤ 126)) := rfl
  generalize b.toNat = n at *
  by_cases n1 : 32 ≤ n
  · have q1 : decide ((n : Int) ≥ 32) = true := decide_eq_true (by omega)
    by_cases n2 : n ≤ 126
    · have q2 : decide ((n : Int) ≤ 126) = true := decide_eq_true (by omega)
      have HO : Hid (lnPlainB b = true) := by show lnPlainB b = true; rw [HB.out]; exact decide_eq_true (by omega)
      go_enter Tryz.func80, Tryz.ntmps80
      go_wp2_with fail
      go_ret
      exact ⟨by rw [HO.out]; rfl, rfl⟩
    · have q2 : decide ((n : Int) ≤ 126) = false := decide_eq_false (by omega)
      have HO : Hid (lnPlainB b = false) := by show lnPlainB b = false; rw [HB.out]; exact decide_eq_false (by omega)
      go_enter Tryz.func80, Tryz.ntmps80
      go_wp2_with fail
      go_ret
      exact ⟨by rw [HO.out]; rfl, rfl⟩
  · have q1 : decide ((n : Int) ≥ 32) = false := decide_eq_false (by omega)
    have HO : Hid (lnPlainB b = false) := by show lnPlainB b = false; rw [HB.out]; exact decide_eq_false (by omega)
    go_enter Tryz.func80, Tryz.ntmps80
    go_wp2_with fail
    go_ret
    exact ⟨by rw [HO.out]; rfl, rfl⟩
theorem lnHasPrefix_any (x p : List UInt8) (w : World) : Calls Tryz.prog 68 #[.string (bs x), .string (bs p)] w fun e w' => e = .returned (.bool (p.isPrefixOf x)) ∧ w' = w := by
  refine (Tryz.strings_HasPrefix (bs x) (bs p) w).mono ?_
  rintro e w' ⟨rfl, rfl⟩
  simp [Lib.hasPrefix, bs]
end Go.Proofs.YtkdljicagepebaaGreatDoor
